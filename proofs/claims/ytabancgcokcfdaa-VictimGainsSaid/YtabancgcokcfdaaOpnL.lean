/-
  PLACES that came in, opened. (Cut out of OpnF in round 22.)
-/
import Derived.Test.YtabancgcokcfdaaOpnR
namespace Go.Proofs.Ytabancgcokcfdaa
open Go.ChangeShapes Go.WideShapes Go.ChangeAt Go.RowKit Go.Joins Go.Deep

section
variable {H : Type} {enc : TypeId × Value → H} {W : World} {base : Nat} {held : Bool}
theorem cells_plR : Try.prog.cellsOf 35 = 2 := by kernel_rfl
set_option maxRecDepth 100000 in
theorem reads_plR {cs : List Value} (h : ReadsR enc W base held 35 cs) : ∃ x y : Int, cs = [.int .i64 x, .int .i64 y] ∧ (-9223372036854775808 ≤ x ∧ x ≤ 9223372036854775807) ∧ (-9223372036854775808 ≤ y ∧ y ≤ 9223372036854775807) := by
  obtain ⟨hl, hf⟩ := reads_fieldsR Try.underlying35 h
  rw [cells_plR] at hl
  have f0 : ReadsR enc W base held 3 ((cs.drop 0).take (Try.prog.cellsOf 3)) := hf 0 _ rfl
  have f1 : ReadsR enc W base held 3 ((cs.drop 1).take (Try.prog.cellsOf 3)) := hf 1 _ rfl
  simp only [cells_intR] at f0 f1
  match cs, hl with
  | [v0, v1], _ =>
    obtain ⟨x, e0, h0⟩ := reads_intR f0
    obtain ⟨y, e1, h1⟩ := reads_intR f1
    simp at e0 e1
    exact ⟨x, y, by rw [e0, e1], h0, h1⟩
end
end Go.Proofs.Ytabancgcokcfdaa
