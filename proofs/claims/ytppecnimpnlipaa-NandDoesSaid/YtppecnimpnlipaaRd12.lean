/-
  LAYER 14: the device and the reference's device lie apart.
-/
import Derived.Test.YtppecnimpnlipaaRd11
namespace Go.Proofs.Ytppecnimpnlipaa
open Go.RowKit
open Go.Sort

section
variable {w w' : World} {B0 B C0 C : Nat} {D E : Dv} {k kb kp km : Nat} {q : Pn} {r rp rn rw cp cn cw : Nat}
/-- What the reference writes leaves the device as it is. -/
theorem DevAt.other (hd : DevAt w B0 B D k kb kp km) (hB : B ≤ w.heap.size) (ht : Tch [r, rp, rn, rw] w w') (hr : ∀ b ∈ [r, rp, rn, rw], B ≤ b) : DevAt w' B0 B D k kb kp km := hd.below (ht.below hB hr)
/-- What the device writes leaves the reference as it is. -/
theorem RefAt.other (hr : RefAt w C0 C q E r rp rn rw cp cn cw) (hC : C ≤ w.heap.size) (ht : Tch [k, kb, kp] w w') (hk : ∀ b ∈ [k, kb, kp], C0 ≤ b) (hx : ∀ b ∈ [r, rp, rn, rw], b ∉ [k, kb, kp]) : RefAt w' C0 C q E r rp rn rw cp cn cw := by
  have hh := hr.hi
  exact ⟨hr.lo, hr.hi, hr.ne, (ht.block _ (by omega) (hx r (by simp))).trans hr.box, hr.pages.kept (ht.block _ (by omega) (hx rp (by simp))), hr.next.kept (ht.block _ (by omega) (hx rn (by simp))), hr.wear.kept (ht.block _ (by omega) (hx rw (by simp))),
    hr.plan.tch (by have := hr.lo.1; omega) ht hk, hr.bad, hr.ft, hr.few, hr.right⟩
/-- The reference's blocks all lie behind the device's. -/
theorem apart_of (hd : DevAt w B0 B D k kb kp km) (hr : ∀ b ∈ [r, rp, rn, rw], B ≤ b) : ∀ b ∈ [r, rp, rn, rw], b ∉ [k, kb, kp] := by
  intro b hb h
  have h1 := hr b hb
  have h2 := hd.hi
  simp only [List.mem_cons, List.not_mem_nil, or_false] at h
  omega
/-- The plan of the reference may be asked of an earlier bound. -/
theorem RefAt.base_down (hr : RefAt w C0 C q E r rp rn rw cp cn cw) {A0 : Nat} (hA : A0 ≤ C0) (hq : q.Ok w A0) : RefAt w A0 C q E r rp rn rw cp cn cw :=
  ⟨⟨Nat.le_trans hA hr.lo.1, Nat.le_trans hA hr.lo.2.1, Nat.le_trans hA hr.lo.2.2.1, Nat.le_trans hA hr.lo.2.2.2⟩, hr.hi, hr.ne, hr.box, hr.pages, hr.next, hr.wear, hq, hr.bad, hr.ft, hr.few, hr.right⟩
end
end Go.Proofs.Ytppecnimpnlipaa
