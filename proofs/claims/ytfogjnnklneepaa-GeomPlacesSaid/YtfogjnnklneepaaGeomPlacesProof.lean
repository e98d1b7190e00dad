/-
  GeomPlaces: for all sides, every page and every number, the law of package geom's Place and At answers true, and its arguments read afterwards as they read before. No condition.
-/
import Derived.Test.YtfogjnnklneepaaGLawL
import Derived.Test.YtfogjnnklneepaaOpen
namespace Go.Proofs.Ytfogjnnklneepaa
open Go.ChangeShapes Go.WideShapes Go.ChangeAt Go.RowKit Go.Joins Go.Deep

section
variable {H : Type} {enc : TypeId × Value → H} {W : World} {base : Nat} {held : Bool}
theorem cells_int : Try.prog.cellsOf 3 = 1 := by kernel_rfl
theorem cells_geom : Try.prog.cellsOf 26 = 3 := by kernel_rfl
theorem cells_place : Try.prog.cellsOf 28 = 2 := by kernel_rfl
theorem one_int {fuel : Nat} {cs : List Value} {x : DataW H × List MemPlace} (h : DataW.trod enc Try.prog W base (fun _ => true) held fuel 3 cs = some x) : ∃ z : Int, cs = [.int .i64 z] := by
  obtain ⟨z, e, _⟩ := DataW.trod_int Try.underlying3 h
  exact ⟨z, e⟩
/-- Sides that came in are three numbers. -/
theorem open_geom {fuel : Nat} {cs : List Value} {x : DataW H × List MemPlace} (h : DataW.trod enc Try.prog W base (fun _ => true) held fuel 26 cs = some x) : ∃ b p r : Int, cs = [.int .i64 b, .int .i64 p, .int .i64 r] := by
  obtain ⟨xs, n, _, _, hl, hxl, hf⟩ := DataW.trod_struct Try.underlying26 h
  rw [cells_geom] at hl
  have f0 : DataW.trod enc Try.prog W base (fun _ => true) held n 3 ((cs.drop 0).take (Try.prog.cellsOf 3)) = xs[0]? := hf 0 _ rfl
  have f1 : DataW.trod enc Try.prog W base (fun _ => true) held n 3 ((cs.drop 1).take (Try.prog.cellsOf 3)) = xs[1]? := hf 1 _ rfl
  have f2 : DataW.trod enc Try.prog W base (fun _ => true) held n 3 ((cs.drop 2).take (Try.prog.cellsOf 3)) = xs[2]? := hf 2 _ rfl
  rw [List.getElem?_eq_getElem (by rw [hxl]; decide)] at f0 f1 f2
  obtain ⟨b, e0⟩ := one_int f0
  obtain ⟨p, e1⟩ := one_int f1
  obtain ⟨r, e2⟩ := one_int f2
  simp only [cells_int] at e0 e1 e2
  match cs, hl with
  | [v0, v1, v2], _ =>
    simp at e0 e1 e2
    exact ⟨b, p, r, by rw [e0, e1, e2]⟩
/-- A page that came in is two numbers. -/
theorem open_place {fuel : Nat} {cs : List Value} {x : DataW H × List MemPlace} (h : DataW.trod enc Try.prog W base (fun _ => true) held fuel 28 cs = some x) : ∃ x y : Int, cs = [.int .i64 x, .int .i64 y] := by
  obtain ⟨xs, n, _, _, hl, hxl, hf⟩ := DataW.trod_struct Try.underlying28 h
  rw [cells_place] at hl
  have f0 : DataW.trod enc Try.prog W base (fun _ => true) held n 3 ((cs.drop 0).take (Try.prog.cellsOf 3)) = xs[0]? := hf 0 _ rfl
  have f1 : DataW.trod enc Try.prog W base (fun _ => true) held n 3 ((cs.drop 1).take (Try.prog.cellsOf 3)) = xs[1]? := hf 1 _ rfl
  rw [List.getElem?_eq_getElem (by rw [hxl]; decide)] at f0 f1
  obtain ⟨b, e0⟩ := one_int f0
  obtain ⟨p, e1⟩ := one_int f1
  simp only [cells_int] at e0 e1
  match cs, hl with
  | [v0, v1], _ =>
    simp at e0 e1
    exact ⟨b, p, by rw [e0, e1]⟩
end

set_option maxRecDepth 100000 in
theorem geomPlaces_lifted (os : Os) (started : os.Started) (H : Type) (enc : TypeId × Value → H) :
    ReturnsInHanded {} Try.checked os 4 .any (Rows.geomPlacesSpec.pre6 enc Try.prog Try.f4 Rows.geomPlacesRow.domain false) (Rows.geomPlacesSpec.post enc Try.prog Try.f4 false true false false) := by
  refine returnsInHanded_of_change (C := Try.checked) Try.own started (by kernel_rfl) Try.func4
    (ChangeSpec.witness6 (enc := enc) (C := Try.checked) false ⟨#[], #[.agg #[.int .i64 0, .int .i64 0, .int .i64 0], .agg #[.int .i64 0, .int .i64 0], .int .i64 0], []⟩ 8 (by kernel_rfl) (by kernel_rfl) (by kernel_rfl) (by kernel_rfl)) ?_
  intro W base args ds gs before hval0 hW hcnd _
  have hval : ∀ (j : Nat) t v, Try.f4.params[j]? = some t → args[j]? = some v → Value.okWide Try.prog W .any base t v := hval0
  have hW' := hW
  obtain ⟨p, q, hA0, hV, rfl, hfz, hnd⟩ := hW
  have hA : DataW.TrodAll enc Try.prog W 0 (fun _ => true) true Try.f4.params.toList args.toList ds p := hA0
  rw [Try.params4] at hA hval
  obtain ⟨v0, v1, v2, d0, d1, d2, p0, p1, p2, rfl, rfl, rfl, h0, h1, h2⟩ := trodAll_three hA
  obtain ⟨rfl, rfl⟩ := trodVars_none hV
  obtain ⟨cs0, rfl, _⟩ := okWide_struct Try.underlying26 (hval 0 _ v0 rfl rfl)
  obtain ⟨cs1, rfl, _⟩ := okWide_struct Try.underlying28 (hval 1 _ v1 rfl rfl)
  obtain ⟨fuel0, h0⟩ := h0
  obtain ⟨fuel1, h1⟩ := h1
  obtain ⟨b, p, r, e0⟩ := open_geom h0
  obtain ⟨x, y, e1⟩ := open_place h1
  have hcs0 : cs0 = #[.int .i64 b, .int .i64 p, .int .i64 r] := by simpa [Value.cells] using congrArg List.toArray e0
  have hcs1 : cs1 = #[.int .i64 x, .int .i64 y] := by simpa [Value.cells] using congrArg List.toArray e1
  subst hcs0 hcs1
  obtain ⟨z2, rfl, rfl, rfl, w2⟩ := open_int Try.underlying3 (hval 2 _ v2 rfl rfl) h2
  have hwalk : Calls Try.prog 4 #[(⟨b, p, r⟩ : Gm).val, .agg #[.int .i64 x, .int .i64 y], .int .i64 z2] W fun e w' => e = .returned (.bool true) ∧ Below W.heap.size W w' :=
    geomPlaces_any b p r x y z2 W
  refine hwalk.mono fun e W' ⟨he, hb⟩ => ⟨_, he, ?_⟩
  exact law_post (tb := 4) Try.laidOut (by kernel_rfl) rfl Try.underlying4 rfl rfl hW' hb

theorem geomPlaces_holds : Rows.GeomPlacesSaid :=
  OpenClaim.holds_of_wide 4 Try.f4 rfl rfl rfl rfl rfl rfl rfl ⟨rfl, rfl, rfl, rfl, rfl⟩ rfl rfl rfl rfl rfl (by kernel_rfl) Try.func4 (by kernel_rfl)
    (of_decide_eq_true (by kernel_rfl)) (by unfold Func.isWrapper; first | (rw [if_pos (by decide +kernel)]; kernel_rfl) | (rw [if_neg (by decide +kernel)]; exact ⟨rfl, rfl⟩))
    (fun os started H enc _ => geomPlaces_lifted os started H enc)

end Go.Proofs.Ytfogjnnklneepaa
