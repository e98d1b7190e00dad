/-
  LAYER 21, mathematics: a block's count; which of some blocks is put ahead of all others; erases played; the counts stay even.
-/
import Derived.Test.YtabancgcokcfdaaWords
namespace Go.Proofs.Ytabancgcokcfdaa
open Go.RowKit

def cmpY (x y : Int) : Int := if x < y then -1 else if y < x then 1 else 0
def orY (x y : Int) : Int := if x = 0 then y else x
theorem cmpY_or (x y a b : Int) : decide (orY (cmpY x y) (cmpY a b) < 0) = decide (x < y ∨ x = y ∧ a < b) := by
  apply decide_eq_decide.2
  unfold orY cmpY
  by_cases h1 : x < y
  · simp [h1]
  · by_cases h2 : y < x
    · simp [h1, h2]
      omega
    · obtain rfl : x = y := by omega
      by_cases h3 : a < b
      · simp [h3]
      · by_cases h4 : b < a <;> simp [h3, h4]
/-- The one that is put ahead among the first i + 1; of those that are put alike the first. -/
def pickZ (p : Int → Int → Bool) (l : List Int) : Nat → Int
  | 0 => l.getD 0 0
  | i + 1 => if p (l.getD (i + 1) 0) (pickZ p l i) = true then l.getD (i + 1) 0 else pickZ p l i
def bstZ (p : Int → Int → Bool) (l : List Int) : Int := pickZ p l (l.length - 1)
theorem pickZ_next {p : Int → Int → Bool} {l : List Int} (i : Nat) : pickZ p l (i + 1) = if p (l.getD (i + 1) 0) (pickZ p l i) = true then l.getD (i + 1) 0 else pickZ p l i := rfl
theorem pickZ_mem {p : Int → Int → Bool} {l : List Int} : ∀ i, i < l.length → pickZ p l i ∈ l
  | 0, h => by
    show l.getD 0 0 ∈ l
    rw [List.getD, List.getElem?_eq_getElem h]; exact List.getElem_mem h
  | i + 1, h => by
    rw [pickZ_next]
    split
    · rw [List.getD, List.getElem?_eq_getElem h]; exact List.getElem_mem h
    · exact pickZ_mem i (by omega)
/-- The least of the first k counts: the first of them. -/
def lowZ (c : List Int) : Nat → Nat
  | 0 => 0
  | k + 1 => if c.getD k 0 < c.getD (lowZ c k) 0 then k else lowZ c k
theorem lowZ_lt (c : List Int) : ∀ k, lowZ c (k + 1) ≤ k
  | 0 => by unfold lowZ; split <;> simp [lowZ]
  | k + 1 => by
    have := lowZ_lt c k
    rw [lowZ]; split <;> omega
theorem lowZ_le (c : List Int) : ∀ (k i : Nat), i < k → c.getD (lowZ c k) 0 ≤ c.getD i 0
  | 0, i, h => absurd h (Nat.not_lt_zero _)
  | k + 1, i, h => by
    rw [lowZ]
    by_cases hi : i = k
    · subst hi; split <;> omega
    · have := lowZ_le c k i (by omega)
      split <;> omega
/-- Which block is erased: the one that is asked, or the one that is worn least. -/
def askZ (g : Int) (c : List Int) (n b : Nat) : Nat := if c.getD b 0 - c.getD (lowZ c n) 0 < g then b else lowZ c n
def eraZ (c : List Int) (j : Nat) : List Int := c.set j (c.getD j 0 + 1)
/-- Counts of n blocks behind k erases: even. -/
structure Ev (g : Int) (n k : Nat) (c : List Int) : Prop where
  len : c.length = n
  pos : ∀ i, i < n → 0 ≤ c.getD i 0
  top : ∀ i, i < n → c.getD i 0 ≤ (k : Int)
  even : ∀ i j, i < n → j < n → c.getD i 0 - c.getD j 0 ≤ g
theorem set_getD (c : List Int) (j i : Nat) (x : Int) (hj : j < c.length) : (c.set j x).getD i 0 = if i = j then x else c.getD i 0 := by
  rw [List.getD_eq_getElem?_getD, List.getElem?_set]
  by_cases h : j = i
  · subst h; simp [hj]
  · rw [if_neg h, if_neg (Ne.symm h), List.getD_eq_getElem?_getD]
theorem askZ_lt {g : Int} {c : List Int} {n b : Nat} (hb : b < n) : askZ g c n b < n := by
  unfold askZ
  split
  · exact hb
  · obtain ⟨m, rfl⟩ : ∃ m, n = m + 1 := ⟨n - 1, by omega⟩
    have := lowZ_lt c m
    omega
theorem Ev.next {g : Int} {n k : Nat} {c : List Int} (h : Ev g n k c) (hg : 1 ≤ g) (b : Nat) (hb : b < n) : Ev g n (k + 1) (eraZ c (askZ g c n b)) := by
  have hj := askZ_lt (g := g) (c := c) hb
  have hlow : lowZ c n < n := by
    obtain ⟨m, rfl⟩ : ∃ m, n = m + 1 := ⟨n - 1, by omega⟩
    have := lowZ_lt c m
    omega
  have hd : c.getD (askZ g c n b) 0 - c.getD (lowZ c n) 0 < g := by
    unfold askZ
    split
    · assumption
    · omega
  generalize askZ g c n b = j at *
  have e : ∀ i, (eraZ c j).getD i 0 = if i = j then c.getD j 0 + 1 else c.getD i 0 := fun i => set_getD c j i _ (by rw [h.len]; exact hj)
  refine ⟨by unfold eraZ; rw [List.length_set]; exact h.len, fun i hi => ?_, fun i hi => ?_, fun i i2 hi hi2 => ?_⟩
  · rw [e]
    have := h.pos i hi
    have := h.pos j hj
    split <;> omega
  · rw [e]
    have := h.top i hi
    have := h.top j hj
    split <;> omega
  · rw [e, e]
    have h1 := h.even i i2 hi hi2
    have h2 := lowZ_le c n i2 hi2
    have h3 := h.even i j hi hj
    split <;> split <;> omega
end Go.Proofs.Ytabancgcokcfdaa
