/-
  PlaceLess: for every row of copies, and every list of bad blocks, the law of what is kept in few blocks answers true, and its arguments read afterwards as they read before. No condition.
-/
import Derived.Test.YtofokljhlcdebaaPkY
import Derived.Test.YtofokljhlcdebaaOpnC
import Derived.Test.YtofokljhlcdebaaLaw
namespace Go.Proofs.Ytofokljhlcdebaa
open Go.ChangeShapes Go.WideShapes Go.ChangeAt Go.RowKit Go.Joins Go.Deep
set_option maxRecDepth 8000

set_option maxRecDepth 100000 in
theorem placeLess_lifted (os : Os) (started : os.Started) (H : Type) (enc : TypeId × Value → H) :
    ReturnsInHanded {} Try.checked os 5 .any (Rows.placeLessSpec.pre6 enc Try.prog Try.f5 Rows.placeLessRow.domain false) (Rows.placeLessSpec.post enc Try.prog Try.f5 false true false false) := by
  refine returnsInHanded_of_change (C := Try.checked) Try.own started (by kernel_rfl) Try.func5
    (ChangeSpec.witness6 (enc := enc) (C := Try.checked) false ⟨#[], #[.slice none 0 0, .slice none 0 0], []⟩ 8 (by kernel_rfl) (by kernel_rfl) (by kernel_rfl) (by kernel_rfl)) ?_
  intro W base args ds gs before hval0 hW hcnd _
  have hval : ∀ (j : Nat) t v, Try.f5.params[j]? = some t → args[j]? = some v → Value.okWide Try.prog W .any base t v := hval0
  have hW' := hW
  obtain ⟨p, q, hA0, hV, rfl, hfz, hnd⟩ := hW
  have hA : DataW.TrodAll enc Try.prog W 0 (fun _ => true) true Try.f5.params.toList args.toList ds p := hA0
  rw [Try.params5] at hA hval
  obtain ⟨v0, v1, d0, d1, p0, p1, rfl, rfl, rfl, h0, h1⟩ := trodAll_two hA
  obtain ⟨rfl, rfl⟩ := trodVars_none hV
  obtain ⟨fuel0, h0⟩ := h0
  obtain ⟨A0, m0, c0, l0, e0, hl0, hm0, hok0⟩ := open_copies h0
  obtain rfl : v0 = .slice A0 m0 c0 := slice_of_cells (hval 0 _ v0 rfl rfl) Try.underlying37 e0
  obtain ⟨fuel1, h1⟩ := h1
  obtain ⟨A1, m1, c1, l1, e1, hl1, hm1, _, _, _⟩ := open_intsR h1
  obtain rfl : v1 = .slice A1 m1 c1 := slice_of_cells (hval 1 _ v1 rfl rfl) Try.underlying44 e1
  have hwalk : Calls Try.prog 5 #[.slice A0 m0 c0, .slice A1 m1 c1] W fun e w' => e = .returned (.bool true) ∧ Below W.heap.size W w' :=
    placeLess_any A0 A1 m0 c0 m1 c1 l0 l1 W hl0 hl1 hm0 hm1 hok0
  refine hwalk.mono fun e W' ⟨he, hb⟩ => ⟨_, he, ?_⟩
  exact law_post (tb := 4) Try.laidOut (by kernel_rfl) rfl Try.underlying4 rfl rfl hW' hb

theorem placeLess_holds : Rows.PlaceLessSaid :=
  OpenClaim.holds_of_wide 5 Try.f5 rfl rfl rfl rfl rfl rfl rfl ⟨rfl, rfl, rfl, rfl, rfl⟩ rfl rfl rfl rfl rfl (by kernel_rfl) Try.func5 (by kernel_rfl)
    (of_decide_eq_true (by kernel_rfl)) (by unfold Func.isWrapper; first | (rw [if_pos (by decide +kernel)]; kernel_rfl) | (rw [if_neg (by decide +kernel)]; exact ⟨rfl, rfl⟩))
    (fun os started H enc _ => placeLess_lifted os started H enc)

end Go.Proofs.Ytofokljhlcdebaa
