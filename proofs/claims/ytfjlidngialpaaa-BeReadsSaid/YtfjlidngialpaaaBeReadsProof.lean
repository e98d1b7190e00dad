/-
  BeReads: for every slice of bytes, read in any steps, the law of package be's Reader answers true, and its arguments read afterwards as they read before. No condition.
-/
import Derived.Test.YtfjlidngialpaaaBeReads
import Derived.Test.YtfjlidngialpaaaOpen
namespace Go.Proofs.Ytfjlidngialpaaa
open Go.ChangeShapes Go.WideShapes Go.ChangeAt Go.RowKit Go.Joins Go.Deep

set_option maxRecDepth 100000 in
theorem beReads_lifted (os : Os) (started : os.Started) (H : Type) (enc : TypeId × Value → H) :
    ReturnsInHanded {} Try.checked os 5 .any (Rows.beReadsSpec.pre6 enc Try.prog Try.f5 Rows.beReadsRow.domain false) (Rows.beReadsSpec.post enc Try.prog Try.f5 false true false false) := by
  refine returnsInHanded_of_change (C := Try.checked) Try.own started (by kernel_rfl) Try.func5
    (ChangeSpec.witness6 (enc := enc) (C := Try.checked) false ⟨#[], #[.slice none 0 0, .slice none 0 0], []⟩ 8 (by kernel_rfl) (by kernel_rfl) (by kernel_rfl) (by kernel_rfl)) ?_
  intro W base args ds gs before hval0 hW hcnd _
  have hval : ∀ (j : Nat) t v, Try.f5.params[j]? = some t → args[j]? = some v → Value.okWide Try.prog W .any base t v := hval0
  have hW' := hW
  obtain ⟨p, q, hA0, hV, rfl, hfz, hnd⟩ := hW
  have hA : DataW.TrodAll enc Try.prog W 0 (fun _ => true) true Try.f5.params.toList args.toList ds p := hA0
  rw [Try.params5] at hA hval
  obtain ⟨v0, v1, d0, d1, p0, p1, rfl, rfl, rfl, h0, h1⟩ := trodAll_two hA
  obtain ⟨rfl, rfl⟩ := trodVars_none hV
  obtain ⟨fuel, h0⟩ := h0
  obtain ⟨fuel1, h1⟩ := h1
  obtain ⟨A, m, c, l, e0, hl, hm, hmc, _⟩ := open_u8s Try.underlying22 Try.underlying5 (by kernel_rfl) h0
  obtain ⟨A2, m2, c2, st, e1, hl2, hm2, _, _, hst⟩ := open_i64_pairs Try.underlying35 Try.underlying39 (by kernel_rfl) rfl rfl (by kernel_rfl) (by kernel_rfl) Try.underlying3 Try.underlying3 h1
  obtain rfl : v0 = .slice A m c := slice_of_cells (hval 0 _ v0 rfl rfl) Try.underlying22 e0
  obtain rfl : v1 = .slice A2 m2 c2 := slice_of_cells (hval 1 _ v1 rfl rfl) Try.underlying35 e1
  have hwalk : Calls Try.prog 5 #[.slice A m c, .slice A2 m2 c2] W fun e w' => e = .returned (.bool true) ∧ Below W.heap.size W w' := by
    by_cases hb : 300 < m
    · exact beReads_long A A2 m c m2 c2 W hb
    · exact beReads_any A A2 m c m2 c2 W.heap.size l st W hl hm hmc (by omega) hl2 hm2 (Nat.le_refl _) (fun k => (hst k).2)
  refine hwalk.mono fun e W' ⟨he, hb⟩ => ⟨_, he, ?_⟩
  exact law_post (tb := 4) Try.laidOut (by kernel_rfl) rfl Try.underlying4 rfl rfl hW' hb

theorem beReads_holds : Rows.BeReadsSaid :=
  OpenClaim.holds_of_wide 5 Try.f5 rfl rfl rfl rfl rfl rfl rfl ⟨rfl, rfl, rfl, rfl, rfl⟩ rfl rfl rfl rfl rfl (by kernel_rfl) Try.func5 (by kernel_rfl)
    (of_decide_eq_true (by kernel_rfl)) (by unfold Func.isWrapper; first | (rw [if_pos (by decide +kernel)]; kernel_rfl) | (rw [if_neg (by decide +kernel)]; exact ⟨rfl, rfl⟩))
    (fun os started H enc _ => beReads_lifted os started H enc)

end Go.Proofs.Ytfjlidngialpaaa
