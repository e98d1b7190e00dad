/-
  VictimGains: for every row of blocks, every row of places and every number of pages, the law of how much is gained of blocks, and in which order they stand, answers true, and its arguments read afterwards as they read before. No condition.
-/
import Derived.Test.YtabancgcokcfdaaVcY
import Derived.Test.YtabancgcokcfdaaOpen
import Derived.Test.YtabancgcokcfdaaOpnR
import Derived.Test.YtabancgcokcfdaaOpnS
namespace Go.Proofs.Ytabancgcokcfdaa
open Go.ChangeShapes Go.WideShapes Go.ChangeAt Go.RowKit Go.Joins Go.Deep

set_option maxRecDepth 100000 in
theorem victimGains_lifted (os : Os) (started : os.Started) (H : Type) (enc : TypeId × Value → H) :
    ReturnsInHanded {} Try.checked os 4 .any (Rows.victimGainsSpec.pre6 enc Try.prog Try.f4 Rows.victimGainsRow.domain false) (Rows.victimGainsSpec.post enc Try.prog Try.f4 false true false false) := by
  refine returnsInHanded_of_change (C := Try.checked) Try.own started (by kernel_rfl) Try.func4
    (ChangeSpec.witness6 (enc := enc) (C := Try.checked) false ⟨#[], #[.slice none 0 0, .slice none 0 0, .int .i64 0], []⟩ 8 (by kernel_rfl) (by kernel_rfl) (by kernel_rfl) (by kernel_rfl)) ?_
  intro W base args ds gs before hval0 hW hcnd _
  have hval : ∀ (j : Nat) t v, Try.f4.params[j]? = some t → args[j]? = some v → Value.okWide Try.prog W .any base t v := hval0
  have hW' := hW
  obtain ⟨p, q, hA0, hV, rfl, hfz, hnd⟩ := hW
  have hA : DataW.TrodAll enc Try.prog W 0 (fun _ => true) true Try.f4.params.toList args.toList ds p := hA0
  rw [Try.params4] at hA hval
  obtain ⟨v0, v1, v2, d0, d1, d2, p0, p1, p2, rfl, rfl, rfl, h0, h1, h2⟩ := trodAll_three hA
  obtain ⟨rfl, rfl⟩ := trodVars_none hV
  obtain ⟨fuel0, h0⟩ := h0
  obtain ⟨A0, m0, c0, l0, e0, hl0, hm0, hmc0, hcc0, ok0⟩ := open_intsR h0
  obtain rfl : v0 = .slice A0 m0 c0 := slice_of_cells (hval 0 _ v0 rfl rfl) Try.underlying22 e0
  obtain ⟨fuel1, h1⟩ := h1
  obtain ⟨A1, m1, c1, l1, e1, hl1, hm1, hmc1, hcc1, ok1⟩ := open_plsR ⟨fuel1, _, h1⟩
  obtain rfl : v1 = .slice A1 m1 c1 := slice_of_cells (hval 1 _ v1 rfl rfl) Try.underlying23 e1
  obtain ⟨z2, rfl, rfl, rfl, w2⟩ := open_int Try.underlying3 (hval 2 _ v2 rfl rfl) h2
  have b2 : -9223372036854775808 ≤ z2 ∧ z2 ≤ 9223372036854775807 := by
    simp only [Lit.wf, Bool.and_eq_true, decide_eq_true_eq] at w2
    have k1 : IntKind.i64.min = -9223372036854775808 := by rfl
    have k2 : IntKind.i64.max = 9223372036854775807 := by rfl
    rw [k1, k2] at w2
    exact w2
  have hwalk : Calls Try.prog 4 #[.slice A0 m0 c0, .slice A1 m1 c1, .int .i64 z2] W fun e w' => e = .returned (.bool true) ∧ Below W.heap.size W w' :=
    Vc.gains_any A0 A1 m0 c0 m1 c1 z2 l0 l1 W hl0 hm0 ok0 hl1 hm1 b2
  refine hwalk.mono fun e W' ⟨he, hb⟩ => ⟨_, he, ?_⟩
  exact law_post (tb := 4) Try.laidOut (by kernel_rfl) rfl Try.underlying4 rfl rfl hW' hb

theorem victimGains_holds : Rows.VictimGainsSaid :=
  OpenClaim.holds_of_wide 4 Try.f4 rfl rfl rfl rfl rfl rfl rfl ⟨rfl, rfl, rfl, rfl, rfl⟩ rfl rfl rfl rfl rfl (by kernel_rfl) Try.func4 (by kernel_rfl)
    (of_decide_eq_true (by kernel_rfl)) (by unfold Func.isWrapper; first | (rw [if_pos (by decide +kernel)]; kernel_rfl) | (rw [if_neg (by decide +kernel)]; exact ⟨rfl, rfl⟩))
    (fun os started H enc _ => victimGains_lifted os started H enc)

end Go.Proofs.Ytabancgcokcfdaa
