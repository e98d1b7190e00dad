/-
  BeLays: for every slice of bytes, every width, every number and every place, the law of package be's Put and Get answers true, and its argument reads afterwards as it read before. No condition.
-/
import Derived.Test.YtfjlidngialpaaaBeLays
import Derived.Test.YtfjlidngialpaaaOpen
namespace Go.Proofs.Ytfjlidngialpaaa
open Go.ChangeShapes Go.WideShapes Go.ChangeAt Go.RowKit Go.Joins Go.Deep

set_option maxRecDepth 100000 in
theorem beLays_lifted (os : Os) (started : os.Started) (H : Type) (enc : TypeId × Value → H) :
    ReturnsInHanded {} Try.checked os 3 .any (Rows.beLaysSpec.pre6 enc Try.prog Try.f3 Rows.beLaysRow.domain false) (Rows.beLaysSpec.post enc Try.prog Try.f3 false true false false) := by
  refine returnsInHanded_of_change (C := Try.checked) Try.own started (by kernel_rfl) Try.func3
    (ChangeSpec.witness6 (enc := enc) (C := Try.checked) false ⟨#[], #[.agg #[.slice none 0 0, .int .i64 0, .int .u64 0, .int .i64 0]], []⟩ 8 (by kernel_rfl) (by kernel_rfl) (by kernel_rfl) (by kernel_rfl)) ?_
  intro W base args ds gs before hval0 hW hcnd _
  have hval : ∀ (j : Nat) t v, Try.f3.params[j]? = some t → args[j]? = some v → Value.okWide Try.prog W .any base t v := hval0
  have hW' := hW
  obtain ⟨p, q, hA0, hV, rfl, hfz, hnd⟩ := hW
  have hA : DataW.TrodAll enc Try.prog W 0 (fun _ => true) true Try.f3.params.toList args.toList ds p := hA0
  rw [Try.params3] at hA hval
  obtain ⟨v0, d0, rfl, rfl, h0⟩ := trodAll_one hA
  obtain ⟨rfl, rfl⟩ := trodVars_none hV
  obtain ⟨c0, c1, c2, c3, y0, y1, y2, y3, n, rfl, _, _, t0, t1, t2, t3⟩ := open_agg4 Try.underlying25 (by kernel_rfl) (by kernel_rfl) (hval 0 _ v0 rfl rfl) h0
  obtain ⟨A, m, c, l, e0, hl, hm, hmc, _⟩ := open_u8s Try.underlying22 Try.underlying5 (by kernel_rfl) t0
  obtain ⟨wd, e1, _, w1⟩ := DataW.trod_int Try.underlying3 t1
  obtain ⟨x, e2, _, w2⟩ := DataW.trod_int Try.underlying23 t2
  obtain ⟨at_, e3, _, w3⟩ := DataW.trod_int Try.underlying3 t3
  injection e0 with e0 _
  injection e1 with e1 _
  injection e2 with e2 _
  injection e3 with e3 _
  subst e0 e1 e2 e3
  simp only [Lit.wf, Bool.and_eq_true, decide_eq_true_eq] at w1 w2 w3
  have k1 : IntKind.i64.min = -9223372036854775808 := by rfl
  have k2 : IntKind.i64.max = 9223372036854775807 := by rfl
  have k3 : IntKind.u64.min = 0 := by rfl
  have k4 : IntKind.u64.max = 18446744073709551615 := by rfl
  rw [k1, k2] at w1 w3
  rw [k3, k4] at w2
  have hwalk : Calls Try.prog 3 #[.agg #[.slice A m c, .int .i64 wd, .int .u64 x, .int .i64 at_]] W fun e w' => e = .returned (.bool true) ∧ Below W.heap.size W w' := by
    by_cases hb : 200 < m
    · exact beLays_long A m c wd x at_ W hb
    · exact beLays_any A m c W.heap.size l wd x at_ W hl hm (by omega) (Nat.le_refl _) w2.1 (by omega) w1.1 w1.2 w3.1 w3.2
  refine hwalk.mono fun e W' ⟨he, hb⟩ => ⟨_, he, ?_⟩
  exact law_post (tb := 4) Try.laidOut (by kernel_rfl) rfl Try.underlying4 rfl rfl hW' hb

theorem beLays_holds : Rows.BeLaysSaid :=
  OpenClaim.holds_of_wide 3 Try.f3 rfl rfl rfl rfl rfl rfl rfl ⟨rfl, rfl, rfl, rfl, rfl⟩ rfl rfl rfl rfl rfl (by kernel_rfl) Try.func3 (by kernel_rfl)
    (of_decide_eq_true (by kernel_rfl)) (by unfold Func.isWrapper; first | (rw [if_pos (by decide +kernel)]; kernel_rfl) | (rw [if_neg (by decide +kernel)]; exact ⟨rfl, rfl⟩))
    (fun os started H enc _ => beLays_lifted os started H enc)

end Go.Proofs.Ytfjlidngialpaaa
