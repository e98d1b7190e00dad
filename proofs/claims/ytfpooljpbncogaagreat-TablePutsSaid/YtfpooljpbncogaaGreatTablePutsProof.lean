/-
  TablePuts: for every table, the law of package table's page of a table answers true, and its argument reads afterwards as it read before. No condition.
-/
import Derived.Test.YtfpooljpbncogaaGreatTbX
import Derived.Test.YtfpooljpbncogaaGreatOpnT
namespace Go.Proofs.YtfpooljpbncogaaGreat
open Go.ChangeShapes Go.WideShapes Go.ChangeAt Go.RowKit Go.Joins Go.Deep

theorem tablePuts_any (x : Tl) (w : World) (hx : x.Ok w w.heap.size) : Calls Tryz.prog 3 #[x.val] w fun e w' => e = .returned (.bool true) ∧ Below w.heap.size w w' := by
  by_cases h : x.t.bad.length ≤ 60 ∧ x.t.wear.length ≤ 60 ∧ x.t.void.length ≤ 60
  · exact tputs_on x w hx h
  · exact tputs_off x w h

set_option maxRecDepth 100000 in
theorem tablePuts_lifted (os : Os) (started : os.Started) (H : Type) (enc : TypeId × Value → H) :
    ReturnsInHanded {} Tryz.checked os 3 .any (Rows.tablePutsSpec.pre6 enc Tryz.prog Tryz.f3 Rows.tablePutsRow.domain false) (Rows.tablePutsSpec.post enc Tryz.prog Tryz.f3 false true false false) := by
  refine returnsInHanded_of_change (C := Tryz.checked) Tryz.own started (by kernel_rfl) Tryz.func3
    (ChangeSpec.witness6 (enc := enc) (C := Tryz.checked) false ⟨#[], #[.agg #[.int .u64 0, .slice none 0 0, .slice none 0 0, .slice none 0 0]], []⟩ 8 (by kernel_rfl) (by kernel_rfl) (by kernel_rfl) (by kernel_rfl)) ?_
  intro W base args ds gs before hval0 hW hcnd _
  have hval : ∀ (j : Nat) t v, Tryz.f3.params[j]? = some t → args[j]? = some v → Value.okWide Tryz.prog W .any base t v := hval0
  have hW' := hW
  obtain ⟨p, q, hA0, hV, rfl, hfz, hnd⟩ := hW
  have hA : DataW.TrodAll enc Tryz.prog W 0 (fun _ => true) true Tryz.f3.params.toList args.toList ds p := hA0
  rw [Tryz.params3] at hA hval
  obtain ⟨v0, d0, rfl, rfl, h0⟩ := trodAll_one hA
  obtain ⟨rfl, rfl⟩ := trodVars_none hV
  obtain ⟨cs0, rfl, _⟩ := okWide_struct Tryz.underlying26 (hval 0 _ v0 rfl rfl)
  obtain ⟨fuel0, h0⟩ := h0
  obtain ⟨x, e0, hx⟩ := open_tableT h0
  have hcs0 : cs0 = x.cells.toArray := by simpa [Value.cells] using congrArg List.toArray e0
  subst hcs0
  have hwalk : Calls Tryz.prog 3 #[.agg x.cells.toArray] W fun e w' => e = .returned (.bool true) ∧ Below W.heap.size W w' := tablePuts_any x W hx
  refine hwalk.mono fun e W' ⟨he, hb⟩ => ⟨_, he, ?_⟩
  exact law_post (tb := 4) Tryz.laidOut (by kernel_rfl) rfl Tryz.underlying4 rfl rfl hW' hb

theorem tablePuts_holds : Rows.TablePutsSaid :=
  OpenClaim.holds_of_wide 3 Tryz.f3 rfl rfl rfl rfl rfl rfl rfl ⟨rfl, rfl, rfl, rfl, rfl⟩ rfl rfl rfl rfl rfl (by kernel_rfl) Tryz.func3 (by kernel_rfl)
    (of_decide_eq_true (by kernel_rfl)) (by unfold Func.isWrapper; first | (rw [if_pos (by decide +kernel)]; kernel_rfl) | (rw [if_neg (by decide +kernel)]; exact ⟨rfl, rfl⟩))
    (fun os started H enc _ => tablePuts_lifted os started H enc)

end Go.Proofs.YtfpooljpbncogaaGreat
