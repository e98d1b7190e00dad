/-
  TableGets: for every slice of bytes, the law of package table's reading of a page answers true, and its argument reads afterwards as it read before. No condition.
-/
import Derived.Test.YtfpooljpbncogaaGreatTbY
import Derived.Test.YtfpooljpbncogaaGreatOpen
namespace Go.Proofs.YtfpooljpbncogaaGreat
open Go.ChangeShapes Go.WideShapes Go.ChangeAt Go.RowKit Go.Joins Go.Deep

set_option maxRecDepth 100000 in
theorem tableGets_lifted (os : Os) (started : os.Started) (H : Type) (enc : TypeId × Value → H) :
    ReturnsInHanded {} Tryz.checked os 4 .any (Rows.tableGetsSpec.pre6 enc Tryz.prog Tryz.f4 Rows.tableGetsRow.domain false) (Rows.tableGetsSpec.post enc Tryz.prog Tryz.f4 false true false false) := by
  refine returnsInHanded_of_change (C := Tryz.checked) Tryz.own started (by kernel_rfl) Tryz.func4
    (ChangeSpec.witness6 (enc := enc) (C := Tryz.checked) false ⟨#[], #[.slice none 0 0], []⟩ 8 (by kernel_rfl) (by kernel_rfl) (by kernel_rfl) (by kernel_rfl)) ?_
  intro W base args ds gs before hval0 hW hcnd _
  have hval : ∀ (j : Nat) t v, Tryz.f4.params[j]? = some t → args[j]? = some v → Value.okWide Tryz.prog W .any base t v := hval0
  have hW' := hW
  obtain ⟨p, q, hA0, hV, rfl, hfz, hnd⟩ := hW
  have hA : DataW.TrodAll enc Tryz.prog W 0 (fun _ => true) true Tryz.f4.params.toList args.toList ds p := hA0
  rw [Tryz.params4] at hA hval
  obtain ⟨v0, d0, rfl, rfl, h0⟩ := trodAll_one hA
  obtain ⟨rfl, rfl⟩ := trodVars_none hV
  obtain ⟨fuel0, h0⟩ := h0
  obtain ⟨A0, m0, c0, l0, e0, hl0, hm0, hmc0, hcc0⟩ := open_u8s Tryz.underlying29 Tryz.underlying5 (by kernel_rfl) h0
  obtain rfl : v0 = .slice A0 m0 c0 := slice_of_cells (hval 0 _ v0 rfl rfl) Tryz.underlying29 e0
  have hwalk : Calls Tryz.prog 4 #[.slice A0 m0 c0] W fun e w' => e = .returned (.bool true) ∧ Below W.heap.size W w' :=
    tableGets_any A0 m0 c0 l0 W hl0 hm0 hmc0
  refine hwalk.mono fun e W' ⟨he, hb⟩ => ⟨_, he, ?_⟩
  exact law_post (tb := 4) Tryz.laidOut (by kernel_rfl) rfl Tryz.underlying4 rfl rfl hW' hb

theorem tableGets_holds : Rows.TableGetsSaid :=
  OpenClaim.holds_of_wide 4 Tryz.f4 rfl rfl rfl rfl rfl rfl rfl ⟨rfl, rfl, rfl, rfl, rfl⟩ rfl rfl rfl rfl rfl (by kernel_rfl) Tryz.func4 (by kernel_rfl)
    (of_decide_eq_true (by kernel_rfl)) (by unfold Func.isWrapper; first | (rw [if_pos (by decide +kernel)]; kernel_rfl) | (rw [if_neg (by decide +kernel)]; exact ⟨rfl, rfl⟩))
    (fun os started H enc _ => tableGets_lifted os started H enc)

end Go.Proofs.YtfpooljpbncogaaGreat
