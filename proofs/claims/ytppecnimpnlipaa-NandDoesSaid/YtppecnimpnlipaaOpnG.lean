/-
  SIDES AND PAGES that came in, opened.
-/
import Derived.Test.YtppecnimpnlipaaOpen
namespace Go.Proofs.Ytppecnimpnlipaa
open Go.ChangeShapes Go.WideShapes Go.ChangeAt Go.RowKit Go.Joins Go.Deep

section
variable {H : Type} {enc : TypeId × Value → H} {W : World} {base : Nat} {held : Bool}
theorem cells_int : Try.prog.cellsOf 3 = 1 := by kernel_rfl
theorem cells_geom : Try.prog.cellsOf 23 = 3 := by kernel_rfl
theorem cells_place : Try.prog.cellsOf 39 = 2 := by kernel_rfl
theorem one_int {fuel : Nat} {cs : List Value} {x : DataW H × List MemPlace} (h : DataW.trod enc Try.prog W base (fun _ => true) held fuel 3 cs = some x) : ∃ z : Int, cs = [.int .i64 z] := by
  obtain ⟨z, e, _⟩ := DataW.trod_int Try.underlying3 h
  exact ⟨z, e⟩
set_option maxRecDepth 100000 in
/-- Sides that came in are three numbers. -/
theorem open_geom {fuel : Nat} {cs : List Value} {x : DataW H × List MemPlace} (h : DataW.trod enc Try.prog W base (fun _ => true) held fuel 23 cs = some x) : ∃ b p r : Int, cs = [.int .i64 b, .int .i64 p, .int .i64 r] := by
  obtain ⟨xs, n, _, _, hl, hxl, hf⟩ := DataW.trod_struct Try.underlying23 h
  rw [cells_geom] at hl
  have f0 : DataW.trod enc Try.prog W base (fun _ => true) held n 3 ((cs.drop 0).take (Try.prog.cellsOf 3)) = xs[0]? := hf 0 _ rfl
  have f1 : DataW.trod enc Try.prog W base (fun _ => true) held n 3 ((cs.drop 1).take (Try.prog.cellsOf 3)) = xs[1]? := hf 1 _ rfl
  have f2 : DataW.trod enc Try.prog W base (fun _ => true) held n 3 ((cs.drop 2).take (Try.prog.cellsOf 3)) = xs[2]? := hf 2 _ rfl
  rw [List.getElem?_eq_getElem (by rw [hxl]; decide)] at f0 f1 f2
  obtain ⟨b, e0⟩ := one_int f0
  obtain ⟨p, e1⟩ := one_int f1
  obtain ⟨r, e2⟩ := one_int f2
  simp only [cells_int] at e0 e1 e2
  match cs, hl with
  | [v0, v1, v2], _ =>
    simp at e0 e1 e2
    exact ⟨b, p, r, by rw [e0, e1, e2]⟩
set_option maxRecDepth 100000 in
/-- A page that came in is two numbers. -/
theorem open_place {fuel : Nat} {cs : List Value} {x : DataW H × List MemPlace} (h : DataW.trod enc Try.prog W base (fun _ => true) held fuel 39 cs = some x) : ∃ x y : Int, cs = [.int .i64 x, .int .i64 y] := by
  obtain ⟨xs, n, _, _, hl, hxl, hf⟩ := DataW.trod_struct Try.underlying39 h
  rw [cells_place] at hl
  have f0 : DataW.trod enc Try.prog W base (fun _ => true) held n 3 ((cs.drop 0).take (Try.prog.cellsOf 3)) = xs[0]? := hf 0 _ rfl
  have f1 : DataW.trod enc Try.prog W base (fun _ => true) held n 3 ((cs.drop 1).take (Try.prog.cellsOf 3)) = xs[1]? := hf 1 _ rfl
  rw [List.getElem?_eq_getElem (by rw [hxl]; decide)] at f0 f1
  obtain ⟨b, e0⟩ := one_int f0
  obtain ⟨p, e1⟩ := one_int f1
  simp only [cells_int] at e0 e1
  match cs, hl with
  | [v0, v1], _ =>
    simp at e0 e1
    exact ⟨b, p, by rw [e0, e1]⟩
end

end Go.Proofs.Ytppecnimpnlipaa
