/-
  TableAdds: for every two tables, every block and every batch, the law of package table's With, Voided, IsBad, IsVoid and Same answers true, and its argument reads afterwards as it read before. No condition.
-/
import Derived.Test.YtigpplckddnghaaGreatTbN
import Derived.Test.YtigpplckddnghaaGreatOpnT
namespace Go.Proofs.YtigpplckddnghaaGreat
open Go.RowKit Go.Deep
open Go.ChangeShapes Go.WideShapes Go.ChangeAt Go.RowKit Go.Joins Go.Deep
set_option maxRecDepth 8000

section
variable {H : Type} {enc : TypeId × Value → H} {W : World} {base : Nat} {held : Bool}
theorem cells_four : Tryz.prog.cellsOf 28 = 10 := by kernel_rfl
set_option maxRecDepth 20000 in
theorem open_fourT {fuel : Nat} {cs : List Value} {x : DataW H × List MemPlace} (h : DataW.trod enc Tryz.prog W base (fun _ => true) held fuel 28 cs = some x) : ∃ (x y : Tl) (z : Int) (u : Nat), cs = (four x y z (u : Int)).toList ∧ x.Ok W W.heap.size ∧ y.Ok W W.heap.size ∧ u < 18446744073709551616 := by
  obtain ⟨hl, hf⟩ := reads_fieldsT Tryz.underlying28 ⟨fuel, x, h⟩
  rw [cells_four] at hl
  have f0 : ReadsT enc W base held 26 ((cs.drop 0).take (Tryz.prog.cellsOf 26)) := hf 0 _ rfl
  have f1 : ReadsT enc W base held 26 ((cs.drop 4).take (Tryz.prog.cellsOf 26)) := hf 1 _ rfl
  have f2 : ReadsT enc W base held 3 ((cs.drop 8).take (Tryz.prog.cellsOf 3)) := hf 2 _ rfl
  have f3 : ReadsT enc W base held 22 ((cs.drop 9).take (Tryz.prog.cellsOf 22)) := hf 3 _ rfl
  simp only [cells_tableT, cells_intT, cells_u64T] at f0 f1 f2 f3
  match cs, hl with
  | [v0, v1, v2, v3, v4, v5, v6, v7, v8, v9], _ =>
    obtain ⟨x, e0, hx⟩ := reads_tableT f0
    obtain ⟨y, e1, hy⟩ := reads_tableT f1
    obtain ⟨z, e2, _⟩ := reads_intT f2
    obtain ⟨u, e3, hu⟩ := reads_u64T f3
    simp [Tl.cells] at e0 e1 e2 e3
    obtain ⟨rfl, rfl, rfl, rfl⟩ := e0
    obtain ⟨rfl, rfl, rfl, rfl⟩ := e1
    subst e2 e3
    exact ⟨x, y, z, u, rfl, hx, hy, hu⟩
end
theorem more_int (l : List Int) (z : Int) (hp : l.Pairwise (· < ·)) (hn : l.length ≤ 36) : ∃ la, (z ∉ l → SortI l z la) ∧ Grown l z (if z ∈ l then l else la) := by
  by_cases hz : z ∈ l
  · exact ⟨[], fun h => absurd hz h, by rw [if_pos hz]; exact grown_in hp hz (by omega)⟩
  · obtain ⟨A, B, e, ha, hb, hs⟩ := sortI_any hp hz hn
    exact ⟨A ++ z :: B, fun _ => hs, by rw [if_neg hz]; exact grown_new hp hz (by omega) e ha hb⟩
theorem more_u64 (l : List Int) (z : Int) (hp : l.Pairwise (· < ·)) (hn : l.length ≤ 36) : ∃ la, (z ∉ l → SortU l z la) ∧ Grown l z (if z ∈ l then l else la) ∧ ∀ q ∈ la, q = z ∨ q ∈ l := by
  by_cases hz : z ∈ l
  · exact ⟨[], fun h => absurd hz h, by rw [if_pos hz]; exact grown_in hp hz (by omega), fun q hq => by cases hq⟩
  · obtain ⟨A, B, e, ha, hb, hs⟩ := sortU_any hp hz hn
    refine ⟨A ++ z :: B, fun _ => hs, by rw [if_neg hz]; exact grown_new hp hz (by omega) e ha hb, fun q hq => ?_⟩
    rw [e]
    simp only [List.mem_append, List.mem_cons] at hq ⊢
    rcases hq with h | h | h
    · exact .inr (.inl h)
    · exact .inl h
    · exact .inr (.inr h)
theorem tableAdds_any (x y : Tl) (z : Int) (u : Nat) (w : World) (hx : x.Ok w w.heap.size) (hy : y.Ok w w.heap.size) (hu : u < 18446744073709551616) : Calls Tryz.prog 3 #[.agg (four x y z (u : Int))] w fun e w' => e = .returned (.bool true) ∧ Below w.heap.size w w' := by
  by_cases hl : (x.t.bad.length ≤ 60 ∧ x.t.wear.length ≤ 60 ∧ x.t.void.length ≤ 60) ∧ (y.t.bad.length ≤ 60 ∧ y.t.wear.length ≤ 60 ∧ y.t.void.length ≤ 60) ∧ x.t.May
  · obtain ⟨la, hA, gB⟩ := more_int x.t.bad z (rise_pair hl.2.2.2.1) (by have := rise_len (b := 34) hl.2.2.2.1; omega)
    obtain ⟨lb, hV, gV, hq⟩ := more_u64 x.t.void (u : Int) (rise_pair hl.2.2.2.2.2.2) hl.2.2.2.2.2.1
    refine tadds_on x y z (u : Int) w hx hy la lb hA hV gB gV (fun q h => ?_) hl
    rcases hq q h with h | h
    · rw [h]; omega
    · exact ⟨hx.pos q h, hx.top q h⟩
  · exact tadds_off x y z (u : Int) w hx hl

set_option maxRecDepth 100000 in
theorem tableAdds_lifted (os : Os) (started : os.Started) (H : Type) (enc : TypeId × Value → H) :
    ReturnsInHanded {} Tryz.checked os 3 .any (Rows.tableAddsSpec.pre6 enc Tryz.prog Tryz.f3 Rows.tableAddsRow.domain false) (Rows.tableAddsSpec.post enc Tryz.prog Tryz.f3 false true false false) := by
  refine returnsInHanded_of_change (C := Tryz.checked) Tryz.own started (by kernel_rfl) Tryz.func3
    (ChangeSpec.witness6 (enc := enc) (C := Tryz.checked) false ⟨#[], #[.agg #[.int .u64 0, .slice none 0 0, .slice none 0 0, .slice none 0 0, .int .u64 0, .slice none 0 0, .slice none 0 0, .slice none 0 0, .int .i64 0, .int .u64 0]], []⟩ 8 (by kernel_rfl) (by kernel_rfl) (by kernel_rfl) (by kernel_rfl)) ?_
  intro W base args ds gs before hval0 hW hcnd _
  have hval : ∀ (j : Nat) t v, Tryz.f3.params[j]? = some t → args[j]? = some v → Value.okWide Tryz.prog W .any base t v := hval0
  have hW' := hW
  obtain ⟨p, q, hA0, hV, rfl, hfz, hnd⟩ := hW
  have hA : DataW.TrodAll enc Tryz.prog W 0 (fun _ => true) true Tryz.f3.params.toList args.toList ds p := hA0
  rw [Tryz.params3] at hA hval
  obtain ⟨v0, d0, rfl, rfl, h0⟩ := trodAll_one hA
  obtain ⟨rfl, rfl⟩ := trodVars_none hV
  obtain ⟨cs0, rfl, _⟩ := okWide_struct Tryz.underlying28 (hval 0 _ v0 rfl rfl)
  obtain ⟨fuel0, h0⟩ := h0
  obtain ⟨x, y, z, u, e0, hx, hy, hu⟩ := open_fourT h0
  have hcs0 : cs0 = four x y z (u : Int) := by simpa [Value.cells] using congrArg List.toArray e0
  subst hcs0
  have hwalk : Calls Tryz.prog 3 #[.agg (four x y z (u : Int))] W fun e W' => e = .returned (.bool true) ∧ Below W.heap.size W W' := tableAdds_any x y z u W hx hy hu
  refine hwalk.mono fun e W' ⟨he, hb⟩ => ⟨_, he, ?_⟩
  exact law_post (tb := 4) Tryz.laidOut (by kernel_rfl) rfl Tryz.underlying4 rfl rfl hW' hb

theorem tableAdds_holds : Rows.TableAddsSaid :=
  OpenClaim.holds_of_wide 3 Tryz.f3 rfl rfl rfl rfl rfl rfl rfl ⟨rfl, rfl, rfl, rfl, rfl⟩ rfl rfl rfl rfl rfl (by kernel_rfl) Tryz.func3 (by kernel_rfl)
    (of_decide_eq_true (by kernel_rfl)) (by unfold Func.isWrapper; first | (rw [if_pos (by decide +kernel)]; kernel_rfl) | (rw [if_neg (by decide +kernel)]; exact ⟨rfl, rfl⟩))
    (fun os started H enc _ => tableAdds_lifted os started H enc)
end Go.Proofs.YtigpplckddnghaaGreat
