/-
  LAYER 22, mathematics: which block is picked; how much is gained of all.
-/
import Derived.Test.YtabancgcokcfdaaVcM
namespace Go.Proofs.Ytabancgcokcfdaa
open Go.RowKit
namespace Vc
theorem pickV_min (L : List Pl2) (l : List Int) : ∀ i k, k ≤ i → ltV L (l.getD k 0) (pickZ (ltV L) l i) = false
  | 0, k, h => by
    obtain rfl : k = 0 := by omega
    exact (swoV L).irrefl _
  | i + 1, k, h => by
    rw [pickZ_next]
    by_cases hq : ltV L (l.getD (i + 1) 0) (pickZ (ltV L) l i) = true
    · rw [if_pos hq]
      by_cases hk : k = i + 1
      · subst hk; exact (swoV L).irrefl _
      · have h1 := pickV_min L l i k (by omega)
        unfold ltV at *
        rw [decide_eq_false_iff_not] at *
        rw [decide_eq_true_eq] at hq
        omega
    · rw [if_neg hq]
      by_cases hk : k = i + 1
      · subst hk; simpa using hq
      · exact pickV_min L l i k (by omega)
/-- The chosen one among the first i, how many places it has, and whether there is one: as the document's answer goes on. -/
def stepP (L : List Pl2) (p : Int) (l : List Int) : Nat → Int × Int × Bool
  | 0 => (0, p, false)
  | i + 1 =>
    if (cntB (l.getD i 0) L : Int) < (stepP L p l i).2.1 ∨ (stepP L p l i).2.2 = true ∧ (cntB (l.getD i 0) L : Int) = (stepP L p l i).2.1 ∧ l.getD i 0 < (stepP L p l i).1 then (l.getD i 0, (cntB (l.getD i 0) L : Int), true) else stepP L p l i
theorem stepP_pick (L : List Pl2) (p : Int) (l : List Int) : ∀ i, stepP L p l (i + 1) = if (cntB (pickZ (ltV L) l i) L : Int) < p then (pickZ (ltV L) l i, (cntB (pickZ (ltV L) l i) L : Int), true) else (0, p, false)
  | 0 => by
    rw [stepP, stepP]
    show (if (cntB (l.getD 0 0) L : Int) < p ∨ false = true ∧ _ then _ else _) = if (cntB (l.getD 0 0) L : Int) < p then _ else _
    by_cases h : (cntB (l.getD 0 0) L : Int) < p
    · rw [if_pos (.inl h), if_pos h]; rfl
    · rw [if_neg (by rintro (h1 | ⟨h1, _⟩); exact h h1; cases h1), if_neg h]
  | i + 1 => by
    have ih := stepP_pick L p l i
    rw [stepP, ih, pickZ_next]
    generalize pickZ (ltV L) l i = m
    generalize l.getD (i + 1) 0 = x
    have hlt : ltV L x m = true ↔ (cntB x L < cntB m L ∨ cntB x L = cntB m L ∧ x < m) := by unfold ltV; exact decide_eq_true_iff
    by_cases hm : (cntB m L : Int) < p
    · rw [if_pos hm]
      by_cases hx : ltV L x m = true
      · rw [if_pos hx, if_pos (by rcases hlt.1 hx with h | ⟨h1, h2⟩; exact .inl (by show (cntB x L : Int) < (cntB m L : Int); omega); exact .inr ⟨rfl, by show (cntB x L : Int) = (cntB m L : Int); omega, h2⟩), if_pos (by rcases hlt.1 hx with h | ⟨h1, h2⟩ <;> omega)]
      · rw [if_neg hx, if_neg (by
          rintro (h | ⟨_, h1, h2⟩)
          · have h : (cntB x L : Int) < (cntB m L : Int) := h
            exact hx (hlt.2 (.inl (by omega)))
          · have h1 : (cntB x L : Int) = (cntB m L : Int) := h1
            exact hx (hlt.2 (.inr ⟨by omega, h2⟩))), if_pos hm]
    · rw [if_neg hm]
      by_cases hx : (cntB x L : Int) < p
      · have hxm : ltV L x m = true := hlt.2 (.inl (by omega))
        rw [if_pos (.inl hx), if_pos hxm, if_pos hx]
      · have hr : ¬ (cntB (if ltV L x m = true then x else m) L : Int) < p := by split <;> assumption
        rw [if_neg (by rintro (h | ⟨h, _⟩); exact hx h; cases h), if_neg hr]
/-- What Pick answers. -/
def ansP (L : List Pl2) (p : Int) (l : List Int) : Int × Bool := if l = [] then (0, false) else if (cntB (bstZ (ltV L) l) L : Int) < p then (bstZ (ltV L) l, true) else (0, false)
theorem ansP_step (L : List Pl2) (p : Int) (l : List Int) : ansP L p l = ((stepP L p l l.length).1, (stepP L p l l.length).2.2) := by
  cases l with
  | nil => rfl
  | cons x l =>
    rw [List.length_cons, stepP_pick]
    unfold ansP bstZ
    rw [if_neg (by simp), List.length_cons, Nat.add_sub_cancel]
    split <;> rfl
theorem ansP_min {L : List Pl2} {p : Int} {l : List Int} (h : (ansP L p l).2 = true) {k : Nat} (hk : k < l.length) : ¬ cntB (l.getD k 0) L < cntB (ansP L p l).1 L := by
  unfold ansP at *
  by_cases hl : l = []
  · rw [if_pos hl] at h; cases h
  · rw [if_neg hl] at *
    by_cases hc : (cntB (bstZ (ltV L) l) L : Int) < p
    · rw [if_pos hc]
      have h1 := pickV_min L l (l.length - 1) k (by omega)
      unfold ltV at h1
      rw [decide_eq_false_iff_not] at h1
      show ¬ cntB (l.getD k 0) L < cntB (pickZ (ltV L) l (l.length - 1)) L
      unfold ltV
      omega
    · rw [if_neg hc] at h; cases h
/-- How much is gained of the first i. -/
def totN (L : List Pl2) (p : Int) (l : List Int) : Nat → Int
  | 0 => 0
  | i + 1 => totN L p l i + gainZ L (l.getD i 0) p
theorem gainZ_le {L : List Pl2} {b p : Int} (hp : p ≤ 1099511627776) : 0 ≤ gainZ L b p ∧ gainZ L b p ≤ 1099511627776 := by
  unfold gainZ
  split <;> omega
theorem totN_le {L : List Pl2} {p : Int} {l : List Int} (hp : p ≤ 1099511627776) : ∀ i, 0 ≤ totN L p l i ∧ totN L p l i ≤ (i : Int) * 1099511627776
  | 0 => by unfold totN; omega
  | i + 1 => by
    have h1 := totN_le (L := L) (l := l) hp i
    have h2 := gainZ_le (L := L) (b := l.getD i 0) hp
    unfold totN
    omega
end Vc
end Go.Proofs.Ytabancgcokcfdaa
