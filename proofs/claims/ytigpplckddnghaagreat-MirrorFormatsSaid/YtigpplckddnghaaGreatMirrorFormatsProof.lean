/-
  MirrorFormats: for every plan, the law of package mirror's first table answers true, and its argument reads afterwards as it read before. No condition.
-/
import Derived.Test.YtigpplckddnghaaGreatMrF
import Derived.Test.YtigpplckddnghaaGreatOpnN
namespace Go.Proofs.YtigpplckddnghaaGreat
open Go.ChangeShapes Go.WideShapes Go.ChangeAt Go.RowKit Go.Joins Go.Deep

theorem mirrorFormats_any (q : Pn) (w : World) (hq : q.Ok w w.heap.size) :
    Calls Tryz.prog 5 #[q.val] w fun e w' => e = .returned (.bool true) ∧ Below w.heap.size w w' := by
  by_cases h : q.light = true ∧ q.g.Right
  · exact mform_on q w hq h.1 h.2
  · exact mform_off q w hq h

set_option maxRecDepth 100000 in
theorem mirrorFormats_lifted (os : Os) (started : os.Started) (H : Type) (enc : TypeId × Value → H) :
    ReturnsInHanded {} Tryz.checked os 5 .any (Rows.mirrorFormatsSpec.pre6 enc Tryz.prog Tryz.f5 Rows.mirrorFormatsRow.domain false) (Rows.mirrorFormatsSpec.post enc Tryz.prog Tryz.f5 false true false false) := by
  refine returnsInHanded_of_change (C := Tryz.checked) Tryz.own started (by kernel_rfl) Tryz.func5
    (ChangeSpec.witness6 (enc := enc) (C := Tryz.checked) false ⟨#[], #[.agg #[.int .i64 0, .int .i64 0, .int .i64 0, .slice none 0 0, .slice none 0 0]], []⟩ 8 (by kernel_rfl) (by kernel_rfl) (by kernel_rfl) (by kernel_rfl)) ?_
  intro W base args ds gs before hval0 hW hcnd _
  have hval : ∀ (j : Nat) t v, Tryz.f5.params[j]? = some t → args[j]? = some v → Value.okWide Tryz.prog W .any base t v := hval0
  have hW' := hW
  obtain ⟨p, q, hA0, hV, rfl, hfz, hnd⟩ := hW
  have hA : DataW.TrodAll enc Tryz.prog W 0 (fun _ => true) true Tryz.f5.params.toList args.toList ds p := hA0
  rw [Tryz.params5] at hA hval
  obtain ⟨v0, d0, rfl, rfl, h0⟩ := trodAll_one hA
  obtain ⟨rfl, rfl⟩ := trodVars_none hV
  obtain ⟨cs0, rfl, _⟩ := okWide_struct Tryz.underlying43 (hval 0 _ v0 rfl rfl)
  obtain ⟨fuel0, h0⟩ := h0
  obtain ⟨pl, e0, hpl⟩ := open_plan h0
  have hcs0 : cs0 = pl.cells.toArray := by simpa [Value.cells] using congrArg List.toArray e0
  subst hcs0
  have hwalk : Calls Tryz.prog 5 #[.agg pl.cells.toArray] W fun e w' => e = .returned (.bool true) ∧ Below W.heap.size W w' :=
    mirrorFormats_any pl W hpl
  refine hwalk.mono fun e W' ⟨he, hb⟩ => ⟨_, he, ?_⟩
  exact law_post (tb := 4) Tryz.laidOut (by kernel_rfl) rfl Tryz.underlying4 rfl rfl hW' hb

theorem mirrorFormats_holds : Rows.MirrorFormatsSaid :=
  OpenClaim.holds_of_wide 5 Tryz.f5 rfl rfl rfl rfl rfl rfl rfl ⟨rfl, rfl, rfl, rfl, rfl⟩ rfl rfl rfl rfl rfl (by kernel_rfl) Tryz.func5 (by kernel_rfl)
    (of_decide_eq_true (by kernel_rfl)) (by unfold Func.isWrapper; first | (rw [if_pos (by decide +kernel)]; kernel_rfl) | (rw [if_neg (by decide +kernel)]; exact ⟨rfl, rfl⟩))
    (fun os started H enc _ => mirrorFormats_lifted os started H enc)

end Go.Proofs.YtigpplckddnghaaGreat
