/-
  ZerosOneWay: for every three slices of bytes, the law that tears go one way answers true, and its arguments read afterwards as they read before. No condition.
-/
import Derived.Test.YtbcplfdbnfmhoaaZLawO
import Derived.Test.YtbcplfdbnfmhoaaOpen
namespace Go.Proofs.Ytbcplfdbnfmhoaa
open Go.ChangeShapes Go.WideShapes Go.ChangeAt Go.RowKit Go.Joins Go.Deep

set_option maxRecDepth 100000 in
theorem zerosOneWay_lifted (os : Os) (started : os.Started) (H : Type) (enc : TypeId × Value → H) :
    ReturnsInHanded {} Try.checked os 6 .any (Rows.zerosOneWaySpec.pre6 enc Try.prog Try.f6 Rows.zerosOneWayRow.domain false) (Rows.zerosOneWaySpec.post enc Try.prog Try.f6 false true false false) := by
  refine returnsInHanded_of_change (C := Try.checked) Try.own started (by kernel_rfl) Try.func6
    (ChangeSpec.witness6 (enc := enc) (C := Try.checked) false ⟨#[], #[.slice none 0 0, .slice none 0 0, .slice none 0 0], []⟩ 8 (by kernel_rfl) (by kernel_rfl) (by kernel_rfl) (by kernel_rfl)) ?_
  intro W base args ds gs before hval0 hW hcnd _
  have hval : ∀ (j : Nat) t v, Try.f6.params[j]? = some t → args[j]? = some v → Value.okWide Try.prog W .any base t v := hval0
  have hW' := hW
  obtain ⟨p, q, hA0, hV, rfl, hfz, hnd⟩ := hW
  have hA : DataW.TrodAll enc Try.prog W 0 (fun _ => true) true Try.f6.params.toList args.toList ds p := hA0
  rw [Try.params6] at hA hval
  obtain ⟨v0, v1, v2, d0, d1, d2, p0, p1, p2, rfl, rfl, rfl, h0, h1, h2⟩ := trodAll_three hA
  obtain ⟨rfl, rfl⟩ := trodVars_none hV
  obtain ⟨fuel0, h0⟩ := h0
  obtain ⟨A0, m0, c0, l0, e0, hl0, hm0, hmc0, hcc0⟩ := open_u8s Try.underlying22 Try.underlying5 (by kernel_rfl) h0
  obtain rfl : v0 = .slice A0 m0 c0 := slice_of_cells (hval 0 _ v0 rfl rfl) Try.underlying22 e0
  obtain ⟨fuel1, h1⟩ := h1
  obtain ⟨A1, m1, c1, l1, e1, hl1, hm1, hmc1, hcc1⟩ := open_u8s Try.underlying22 Try.underlying5 (by kernel_rfl) h1
  obtain rfl : v1 = .slice A1 m1 c1 := slice_of_cells (hval 1 _ v1 rfl rfl) Try.underlying22 e1
  obtain ⟨fuel2, h2⟩ := h2
  obtain ⟨A2, m2, c2, l2, e2, hl2, hm2, hmc2, hcc2⟩ := open_u8s Try.underlying22 Try.underlying5 (by kernel_rfl) h2
  obtain rfl : v2 = .slice A2 m2 c2 := slice_of_cells (hval 2 _ v2 rfl rfl) Try.underlying22 e2
  have hwalk : Calls Try.prog 6 #[.slice A0 m0 c0, .slice A1 m1 c1, .slice A2 m2 c2] W fun e w' => e = .returned (.bool true) ∧ Below W.heap.size W w' :=
    zerosOneWay_any A0 A1 A2 m0 c0 m1 c1 m2 c2 W.heap.size l0 l1 l2 W hl0 hm0 hl1 hm1 hl2 hm2 (Nat.le_refl _)
  refine hwalk.mono fun e W' ⟨he, hb⟩ => ⟨_, he, ?_⟩
  exact law_post (tb := 4) Try.laidOut (by kernel_rfl) rfl Try.underlying4 rfl rfl hW' hb

theorem zerosOneWay_holds : Rows.ZerosOneWaySaid :=
  OpenClaim.holds_of_wide 6 Try.f6 rfl rfl rfl rfl rfl rfl rfl ⟨rfl, rfl, rfl, rfl, rfl⟩ rfl rfl rfl rfl rfl (by kernel_rfl) Try.func6 (by kernel_rfl)
    (of_decide_eq_true (by kernel_rfl)) (by unfold Func.isWrapper; first | (rw [if_pos (by decide +kernel)]; kernel_rfl) | (rw [if_neg (by decide +kernel)]; exact ⟨rfl, rfl⟩))
    (fun os started H enc _ => zerosOneWay_lifted os started H enc)

end Go.Proofs.Ytbcplfdbnfmhoaa
