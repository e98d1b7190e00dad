/-
  ROWS OF FINDS that came in, opened.
-/
import Derived.Test.YtjdaoenapmjoeaaOpnR
namespace Go.Proofs.Ytjdaoenapmjoeaa
open Go.ChangeShapes Go.WideShapes Go.ChangeAt Go.RowKit Go.Joins Go.Deep

section
variable {H : Type} {enc : TypeId × Value → H} {W : World} {base : Nat} {held : Bool}
theorem cells_foR : Try.prog.cellsOf 34 = 9 := by kernel_rfl
theorem cells_plR : Try.prog.cellsOf 30 = 2 := by kernel_rfl
theorem cells_hdR : Try.prog.cellsOf 32 = 7 := by kernel_rfl
set_option maxRecDepth 100000 in
theorem reads_plR {cs : List Value} (h : ReadsR enc W base held 30 cs) : ∃ x y : Int, cs = [.int .i64 x, .int .i64 y] ∧ (-9223372036854775808 ≤ x ∧ x ≤ 9223372036854775807) ∧ (-9223372036854775808 ≤ y ∧ y ≤ 9223372036854775807) := by
  obtain ⟨hl, hf⟩ := reads_fieldsR Try.underlying30 h
  rw [cells_plR] at hl
  have f0 : ReadsR enc W base held 3 ((cs.drop 0).take (Try.prog.cellsOf 3)) := hf 0 _ rfl
  have f1 : ReadsR enc W base held 3 ((cs.drop 1).take (Try.prog.cellsOf 3)) := hf 1 _ rfl
  simp only [cells_intR] at f0 f1
  match cs, hl with
  | [v0, v1], _ =>
    obtain ⟨x, e0, h0⟩ := reads_intR f0
    obtain ⟨y, e1, h1⟩ := reads_intR f1
    simp at e0 e1
    exact ⟨x, y, by rw [e0, e1], h0, h1⟩
set_option maxRecDepth 100000 in
theorem reads_hdR {cs : List Value} (h : ReadsR enc W base held 32 cs) : ∃ kd ix ct bt op lp ln : Int, cs = [.int .i64 kd, .int .i64 ix, .int .i64 ct, .int .u64 bt, .int .u64 op, .int .i64 lp, .int .i64 ln] ∧ (-9223372036854775808 ≤ lp ∧ lp ≤ 9223372036854775807) ∧ (0 ≤ bt ∧ bt ≤ 18446744073709551615) := by
  obtain ⟨hl, hf⟩ := reads_fieldsR Try.underlying32 h
  rw [cells_hdR] at hl
  have f0 : ReadsR enc W base held 3 ((cs.drop 0).take (Try.prog.cellsOf 3)) := hf 0 _ rfl
  have f1 : ReadsR enc W base held 3 ((cs.drop 1).take (Try.prog.cellsOf 3)) := hf 1 _ rfl
  have f2 : ReadsR enc W base held 3 ((cs.drop 2).take (Try.prog.cellsOf 3)) := hf 2 _ rfl
  have f3 : ReadsR enc W base held 26 ((cs.drop 3).take (Try.prog.cellsOf 26)) := hf 3 _ rfl
  have f4 : ReadsR enc W base held 26 ((cs.drop 4).take (Try.prog.cellsOf 26)) := hf 4 _ rfl
  have f5 : ReadsR enc W base held 3 ((cs.drop 5).take (Try.prog.cellsOf 3)) := hf 5 _ rfl
  have f6 : ReadsR enc W base held 3 ((cs.drop 6).take (Try.prog.cellsOf 3)) := hf 6 _ rfl
  simp only [cells_intR, cells_u64R] at f0 f1 f2 f3 f4 f5 f6
  match cs, hl with
  | [v0, v1, v2, v3, v4, v5, v6], _ =>
    obtain ⟨x0, e0, _⟩ := reads_intR f0
    obtain ⟨x1, e1, _⟩ := reads_intR f1
    obtain ⟨x2, e2, _⟩ := reads_intR f2
    obtain ⟨x3, e3, b3⟩ := reads_u64R f3
    obtain ⟨x4, e4, _⟩ := reads_u64R f4
    obtain ⟨x5, e5, b5⟩ := reads_intR f5
    obtain ⟨x6, e6, _⟩ := reads_intR f6
    simp at e0 e1 e2 e3 e4 e5 e6
    exact ⟨x0, x1, x2, (x3 : Int), (x4 : Int), x5, x6, by rw [e0, e1, e2, e3, e4, e5, e6], b5, by omega, by omega⟩
set_option maxRecDepth 100000 in
theorem reads_foR {cs : List Value} (h : ReadsR enc W base held 34 cs) : ∃ f : Fo, cs = f.cells ∧ f.Ok := by
  obtain ⟨hl, hf⟩ := reads_fieldsR Try.underlying34 h
  rw [cells_foR] at hl
  have f0 : ReadsR enc W base held 30 ((cs.drop 0).take (Try.prog.cellsOf 30)) := hf 0 _ rfl
  have f1 : ReadsR enc W base held 32 ((cs.drop 2).take (Try.prog.cellsOf 32)) := hf 1 _ rfl
  simp only [cells_plR, cells_hdR] at f0 f1
  match cs, hl with
  | [v0, v1, v2, v3, v4, v5, v6, v7, v8], _ =>
    obtain ⟨x, y, e0, _⟩ := reads_plR f0
    obtain ⟨kd, ix, ct, bt, op, lp, ln, e1, h1, h2⟩ := reads_hdR f1
    simp at e0 e1
    obtain ⟨a0, a1⟩ := e0
    obtain ⟨b0, b1, b2, b3, b4, b5, b6⟩ := e1
    exact ⟨⟨x, y, kd, ix, ct, bt, op, lp, ln⟩, by rw [a0, a1, b0, b1, b2, b3, b4, b5, b6]; rfl, h1, h2⟩
theorem open_finds {fuel : Nat} {cs : List Value} {x : DataW H × List MemPlace} (h : DataW.trod enc Try.prog W base (fun _ => true) held fuel 22 cs = some x) :
    ∃ A n c, ∃ l : List Fo, cs = [.slice A n c] ∧ Lies W W.heap.size A (rowO l) ∧ n = l.length ∧ n ≤ c ∧ c ≤ maxLen ∧ ∀ f ∈ l, f.Ok :=
  reads_rowsR Fo.cells (m := 9) (by omega) Fo.cells_len Try.underlying22 cells_foR (fun cs h => reads_foR h) ⟨fuel, x, h⟩
end
end Go.Proofs.Ytjdaoenapmjoeaa
