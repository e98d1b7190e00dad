/-
  WearEven: for every number, every gap, and every list of blocks that are asked, the law of blocks worn evenly answers true, and its arguments read afterwards as they read before. No condition.
-/
import Derived.Test.YtpepifbdndcbjaaWrY
import Derived.Test.YtpepifbdndcbjaaOpen
import Derived.Test.YtpepifbdndcbjaaOpnR
namespace Go.Proofs.Ytpepifbdndcbjaa
open Go.ChangeShapes Go.WideShapes Go.ChangeAt Go.RowKit Go.Joins Go.Deep

set_option maxRecDepth 100000 in
theorem wearEven_lifted (os : Os) (started : os.Started) (H : Type) (enc : TypeId × Value → H) :
    ReturnsInHanded {} Try.checked os 4 .any (Rows.wearEvenSpec.pre6 enc Try.prog Try.f4 Rows.wearEvenRow.domain false) (Rows.wearEvenSpec.post enc Try.prog Try.f4 false true false false) := by
  refine returnsInHanded_of_change (C := Try.checked) Try.own started (by kernel_rfl) Try.func4
    (ChangeSpec.witness6 (enc := enc) (C := Try.checked) false ⟨#[], #[.int .u8 0, .int .i64 0, .slice none 0 0], []⟩ 8 (by kernel_rfl) (by kernel_rfl) (by kernel_rfl) (by kernel_rfl)) ?_
  intro W base args ds gs before hval0 hW hcnd _
  have hval : ∀ (j : Nat) t v, Try.f4.params[j]? = some t → args[j]? = some v → Value.okWide Try.prog W .any base t v := hval0
  have hW' := hW
  obtain ⟨p, q, hA0, hV, rfl, hfz, hnd⟩ := hW
  have hA : DataW.TrodAll enc Try.prog W 0 (fun _ => true) true Try.f4.params.toList args.toList ds p := hA0
  rw [Try.params4] at hA hval
  obtain ⟨v0, v1, v2, d0, d1, d2, p0, p1, p2, rfl, rfl, rfl, h0, h1, h2⟩ := trodAll_three hA
  obtain ⟨rfl, rfl⟩ := trodVars_none hV
  obtain ⟨z0, rfl, rfl, rfl, w0⟩ := open_int Try.underlying5 (hval 0 _ v0 rfl rfl) h0
  have b0 : 0 ≤ z0 ∧ z0 ≤ 255 := by
    simp only [Lit.wf, Bool.and_eq_true, decide_eq_true_eq] at w0
    have k1 : IntKind.u8.min = 0 := by rfl
    have k2 : IntKind.u8.max = 255 := by rfl
    rw [k1, k2] at w0
    exact w0
  obtain ⟨z1, rfl, rfl, rfl, w1⟩ := open_int Try.underlying3 (hval 1 _ v1 rfl rfl) h1
  have b1 : -9223372036854775808 ≤ z1 ∧ z1 ≤ 9223372036854775807 := by
    simp only [Lit.wf, Bool.and_eq_true, decide_eq_true_eq] at w1
    have k1 : IntKind.i64.min = -9223372036854775808 := by rfl
    have k2 : IntKind.i64.max = 9223372036854775807 := by rfl
    rw [k1, k2] at w1
    exact w1
  obtain ⟨fuel2, h2⟩ := h2
  obtain ⟨A2, m2, c2, l2, e2, hl2, hm2, hmc2, hcc2, ok2⟩ := open_intsR h2
  obtain rfl : v2 = .slice A2 m2 c2 := slice_of_cells (hval 2 _ v2 rfl rfl) Try.underlying22 e2
  have hwalk : Calls Try.prog 4 #[.int .u8 z0, .int .i64 z1, .slice A2 m2 c2] W fun e w' => e = .returned (.bool true) ∧ Below W.heap.size W w' :=
    by
      obtain ⟨k, rfl⟩ : ∃ k : Nat, z0 = (k : Int) := ⟨z0.toNat, by omega⟩
      exact wearEven_any k z1 A2 m2 c2 l2 W hl2 hm2 hmc2 (by omega)
  refine hwalk.mono fun e W' ⟨he, hb⟩ => ⟨_, he, ?_⟩
  exact law_post (tb := 4) Try.laidOut (by kernel_rfl) rfl Try.underlying4 rfl rfl hW' hb

theorem wearEven_holds : Rows.WearEvenSaid :=
  OpenClaim.holds_of_wide 4 Try.f4 rfl rfl rfl rfl rfl rfl rfl ⟨rfl, rfl, rfl, rfl, rfl⟩ rfl rfl rfl rfl rfl (by kernel_rfl) Try.func4 (by kernel_rfl)
    (of_decide_eq_true (by kernel_rfl)) (by unfold Func.isWrapper; first | (rw [if_pos (by decide +kernel)]; kernel_rfl) | (rw [if_neg (by decide +kernel)]; exact ⟨rfl, rfl⟩))
    (fun os started H enc _ => wearEven_lifted os started H enc)

end Go.Proofs.Ytpepifbdndcbjaa
