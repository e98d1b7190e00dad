/-
  WearFinds: for every four of blocks, counts, a block and a gap, the law of which block is worn least and most answers true, and its argument reads afterwards as it read before. No condition.
-/
import Derived.Test.YtpepifbdndcbjaaWrX
import Derived.Test.YtpepifbdndcbjaaOpnI
import Derived.Test.YtpepifbdndcbjaaLaw
namespace Go.Proofs.Ytpepifbdndcbjaa
open Go.ChangeShapes Go.WideShapes Go.ChangeAt Go.RowKit Go.Joins Go.Deep
set_option maxRecDepth 8000

set_option maxRecDepth 100000 in
theorem wearFinds_lifted (os : Os) (started : os.Started) (H : Type) (enc : TypeId × Value → H) :
    ReturnsInHanded {} Try.checked os 3 .any (Rows.wearFindsSpec.pre6 enc Try.prog Try.f3 Rows.wearFindsRow.domain false) (Rows.wearFindsSpec.post enc Try.prog Try.f3 false true false false) := by
  refine returnsInHanded_of_change (C := Try.checked) Try.own started (by kernel_rfl) Try.func3
    (ChangeSpec.witness6 (enc := enc) (C := Try.checked) false ⟨#[], #[.agg #[.slice none 0 0, .slice none 0 0, .int .i64 0, .int .i64 0]], []⟩ 8 (by kernel_rfl) (by kernel_rfl) (by kernel_rfl) (by kernel_rfl)) ?_
  intro W base args ds gs before hval0 hW hcnd _
  have hval : ∀ (j : Nat) t v, Try.f3.params[j]? = some t → args[j]? = some v → Value.okWide Try.prog W .any base t v := hval0
  have hW' := hW
  obtain ⟨p, q, hA0, hV, rfl, hfz, hnd⟩ := hW
  have hA : DataW.TrodAll enc Try.prog W 0 (fun _ => true) true Try.f3.params.toList args.toList ds p := hA0
  rw [Try.params3] at hA hval
  obtain ⟨v0, d0, rfl, rfl, h0⟩ := trodAll_one hA
  obtain ⟨rfl, rfl⟩ := trodVars_none hV
  obtain ⟨cs0, rfl, _⟩ := okWide_struct Try.underlying24 (hval 0 _ v0 rfl rfl)
  obtain ⟨fuel0, h0⟩ := h0
  obtain ⟨A, A2, n, c, n2, c2, b, g, l, ct, e0, hL, hn, hC, hn2, hT⟩ := open_four21 h0
  have hcs0 : cs0 = #[.slice A n c, .slice A2 n2 c2, .int .i64 b, .int .i64 g] := by simpa [Value.cells] using congrArg List.toArray e0
  subst hcs0
  have hwalk : Calls Try.prog 3 #[.agg #[.slice A n c, .slice A2 n2 c2, .int .i64 b, .int .i64 g]] W fun e w' => e = .returned (.bool true) ∧ Below W.heap.size W w' :=
    wearFinds_any A A2 n c n2 c2 b g l ct W hL hC hn hn2 hT
  refine hwalk.mono fun e W' ⟨he, hb⟩ => ⟨_, he, ?_⟩
  exact law_post (tb := 4) Try.laidOut (by kernel_rfl) rfl Try.underlying4 rfl rfl hW' hb

theorem wearFinds_holds : Rows.WearFindsSaid :=
  OpenClaim.holds_of_wide 3 Try.f3 rfl rfl rfl rfl rfl rfl rfl ⟨rfl, rfl, rfl, rfl, rfl⟩ rfl rfl rfl rfl rfl (by kernel_rfl) Try.func3 (by kernel_rfl)
    (of_decide_eq_true (by kernel_rfl)) (by unfold Func.isWrapper; first | (rw [if_pos (by decide +kernel)]; kernel_rfl) | (rw [if_neg (by decide +kernel)]; exact ⟨rfl, rfl⟩))
    (fun os started H enc _ => wearFinds_lifted os started H enc)

end Go.Proofs.Ytpepifbdndcbjaa
