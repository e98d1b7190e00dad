/-
  WHAT NandOneWay KEEPS: mathematics of a device and of what was to be programmed on its pages.
-/
import Derived.Test.YtkmkepkkdgpbiaaPlan
import Derived.Test.YtkmkepkkdgpbiaaAwakeh
namespace Go.Proofs.Ytkmkepkkdgpbiaa
open Go.RowKit

theorem cov_trans {a b c : List UInt8} (h : covB a b = true) (h2 : covB b c = true) : covB a c = true := by
  rw [covB_iff] at *
  exact ⟨h.1.trans h2.1, fun i hi => Nat.le_trans (h2.2 i hi) (h.2 i (by rw [h2.1]; exact hi))⟩
theorem cov_eras {a b : List UInt8} (m : List UInt8) (h : covB a b = true) : covB (erasL a m) b = true := cov_trans (eras_covers a m) h
theorem mix_all (x : UInt8) : mixB x 255 255 = 255 := by
  apply UInt8.toNat_inj.1
  rw [mixB_toNat]
  show x.toNat &&& 0 ||| 255 = 255
  rw [Nat.and_zero]
  rfl
theorem eras_all (o : List UInt8) (ho : o.length = 256) : erasL o [255] = List.replicate 256 255 := by
  unfold erasL
  rw [ho]
  apply List.ext_getElem
  · rw [List.length_map, List.length_range, List.length_replicate]
  · intro j h1 h2
    rw [List.getElem_map, List.getElem_range, List.getElem_replicate]
    unfold erasB maskB
    rw [if_neg (by decide), List.length_singleton, Nat.mod_one]
    exact mix_all _
theorem pos_inj {x x2 y y2 np : Nat} (hy : y < np) (hy2 : y2 < np) (h : x * np + y = x2 * np + y2) : x = x2 ∧ y = y2 := by
  have h1 : (x * np + y) / np = x := by rw [Nat.mul_comm, Nat.mul_add_div (by omega), Nat.div_eq_of_lt hy]; rfl
  have h2 : (x2 * np + y2) / np = x2 := by rw [Nat.mul_comm, Nat.mul_add_div (by omega), Nat.div_eq_of_lt hy2]; rfl
  have h3 : x = x2 := by rw [← h1, h, h2]
  subst h3
  exact ⟨rfl, by omega⟩

/-- The device between two calls, and what was to be programmed on its pages. -/
structure OW (D : Dv) (want : Nat → List UInt8) : Prop where
  dn : D.dn = false
  blank : ∀ x, x < D.nb → ∀ y, D.nx x ≤ y → y < D.np → D.pg (x * D.np + y) = List.replicate 256 255
  cov : ∀ q, q < D.nb * D.np → want q = [] ∨ covB (D.pg q) (want q) = true

theorem OW.start (g : Gm) (bl : List Int) (l : List Flt) : OW (Dv.fresh g bl l) (fun _ => []) :=
  ⟨rfl, fun _ _ _ _ _ => rfl, fun _ _ => .inl rfl⟩

section
variable {D : Dv} {want : Nat → List UInt8}
theorem rep_getD (j : Nat) (hj : j < 256) : (List.replicate 256 (255 : UInt8)).getD j 0 = 255 := by
  rw [List.getD_eq_getElem?_getD, List.getElem?_replicate, if_pos hj]; rfl
/-- A program that was begun. -/
theorem OW.prog (h : OW D want) {x : Nat} (hx : x < D.nb) (hy : D.nx x < D.np) {b : List UInt8} (hb : b.length = 256) : OW { D.progd x b with dn := false } (upd want (x * D.np + D.nx x) b) := by
  refine ⟨rfl, fun x2 hx2 y2 h1 h2 => ?_, fun q hq => ?_⟩
  · have h1' : upd D.nx x (D.nx x + 1) x2 ≤ y2 := h1
    have h2' : y2 < D.np := h2
    show upd D.pg (x * D.np + D.nx x) _ (x2 * D.np + y2) = _
    have hne : x2 * D.np + y2 ≠ x * D.np + D.nx x := by
      intro e
      obtain ⟨rfl, rfl⟩ := pos_inj h2' hy e
      rw [upd_same] at h1'
      omega
    rw [upd_other hne]
    refine h.blank x2 hx2 y2 ?_ h2'
    by_cases e : x2 = x
    · subst e; rw [upd_same] at h1'; omega
    · rwa [upd_other e] at h1'
  · show upd want (x * D.np + D.nx x) b q = [] ∨ covB (upd D.pg (x * D.np + D.nx x) _ q) (upd want (x * D.np + D.nx x) b q) = true
    by_cases e : q = x * D.np + D.nx x
    · subst e
      rw [upd_same, upd_same, h.blank x hx (D.nx x) (Nat.le_refl _) hy]
      exact .inr (prog_covers _ _ _ (by rw [hb]; exact List.length_replicate) (fun j hj => rep_getD j (by omega)))
    · rw [upd_other e, upd_other e]
      exact h.cov q hq
/-- An erase that was begun. -/
theorem OW.erase_ok (h : OW D want) {x : Nat} (hx : x < D.nb) (he : D.err = 0) (hl : ∀ i, i < D.nb * D.np → (D.pg i).length = 256) :
    OW { D.erased x with dn := false } (fun q => if x * D.np ≤ q ∧ q < x * D.np + D.np then [] else want q) := by
  have hk : D.mask = [255] := by
    unfold Dv.mask
    refine if_neg (fun hk => ?_)
    unfold Dv.err at he
    rcases hk with hk | hk
    · rw [if_pos hk] at he; cases he
    · rw [if_neg (by rw [hk]; decide), if_pos hk] at he; cases he
  refine ⟨rfl, fun x2 hx2 y2 h1 h2 => ?_, fun q hq => ?_⟩
  · have h1' : upd D.nx x (if D.err = 0 then 0 else D.np) x2 ≤ y2 := h1
    have h2' : y2 < D.np := h2
    show D.erpg x D.np D.mask (x2 * D.np + y2) = _
    unfold Dv.erpg
    by_cases e : x2 = x
    · subst e
      rw [if_pos (by omega), hk, eras_all _ (hl _ (lt_mul hx h2'))]
    · have hne : ¬ (x * D.np ≤ x2 * D.np + y2 ∧ x2 * D.np + y2 < x * D.np + D.np) := fun hh => by
        have := pos_inj (x := x2) (y := y2) (x2 := x) (y2 := x2 * D.np + y2 - x * D.np) h2' (by omega) (by omega)
        exact e this.1
      rw [if_neg hne]
      rw [upd_other e] at h1'
      exact h.blank x2 hx2 y2 h1' h2'
  · show (if x * D.np ≤ q ∧ q < x * D.np + D.np then [] else want q) = [] ∨ covB (D.erpg x D.np D.mask q) (if x * D.np ≤ q ∧ q < x * D.np + D.np then [] else want q) = true
    unfold Dv.erpg
    by_cases e : x * D.np ≤ q ∧ q < x * D.np + D.np
    · rw [if_pos e]; exact .inl rfl
    · rw [if_neg e, if_neg e]; exact h.cov q hq
theorem OW.erase_fell (h : OW D want) {x : Nat} (he : D.err ≠ 0) : OW { D.erased x with dn := false } want := by
  refine ⟨rfl, fun x2 hx2 y2 h1 h2 => ?_, fun q hq => ?_⟩
  · have h1' : upd D.nx x (if D.err = 0 then 0 else D.np) x2 ≤ y2 := h1
    have h2' : y2 < D.np := h2
    show D.erpg x D.np D.mask (x2 * D.np + y2) = _
    by_cases e : x2 = x
    · subst e
      rw [upd_same, if_neg he] at h1'
      omega
    · unfold Dv.erpg
      have hne : ¬ (x * D.np ≤ x2 * D.np + y2 ∧ x2 * D.np + y2 < x * D.np + D.np) := fun hh => by
        have := pos_inj (x := x2) (y := y2) (x2 := x) (y2 := x2 * D.np + y2 - x * D.np) h2' (by omega) (by omega)
        exact e this.1
      rw [if_neg hne]
      rw [upd_other e] at h1'
      exact h.blank x2 hx2 y2 h1' h2'
  · show want q = [] ∨ covB (D.erpg x D.np D.mask q) (want q) = true
    rcases h.cov q hq with h1 | h1
    · exact .inl h1
    · right
      unfold Dv.erpg
      split
      · exact cov_eras _ h1
      · exact h1
end
end Go.Proofs.Ytkmkepkkdgpbiaa
