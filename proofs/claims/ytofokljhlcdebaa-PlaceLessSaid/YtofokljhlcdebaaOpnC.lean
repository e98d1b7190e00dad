/-
  ROWS OF COPIES that came in, opened.
-/
import Derived.Test.YtofokljhlcdebaaOpnR
import Derived.Test.YtofokljhlcdebaaOpnF
import Derived.Test.YtofokljhlcdebaaPkD
namespace Go.Proofs.Ytofokljhlcdebaa
open Go.ChangeShapes Go.WideShapes Go.ChangeAt Go.RowKit Go.Joins Go.Deep

section
variable {H : Type} {enc : TypeId × Value → H} {W : World} {base : Nat} {held : Bool}
theorem cells_cqR : Try.prog.cellsOf 42 = 3 := by kernel_rfl
theorem cells_plsR : Try.prog.cellsOf 40 = 1 := by kernel_rfl
theorem open_plsR {cs : List Value} (h : ReadsR enc W base true 40 cs) :
    ∃ A n c, ∃ l : List Pl2, cs = [.slice A n c] ∧ Lies W W.heap.size A (rowQ l) ∧ n = l.length ∧ n ≤ c ∧ c ≤ maxLen ∧ ∀ q ∈ l, Ok64 q.1 :=
  reads_rowsR (Pr := fun q : Pl2 => Ok64 q.1) plc (m := 2) (by omega) plc_len Try.underlying40 cells_plR (fun cs h => by obtain ⟨x, y, e, h0, _⟩ := reads_plR h; exact ⟨(x, y), e, h0⟩) h
set_option maxRecDepth 100000 in
theorem reads_cqR {cs : List Value} (h : ReadsR enc W base true 42 cs) : ∃ q : Cq, cs = q.cells ∧ Lies W W.heap.size q.a (rowQ q.ps) ∧ ∀ p ∈ q.ps, Ok64 p.1 := by
  obtain ⟨hl, hf⟩ := reads_fieldsR Try.underlying42 h
  rw [cells_cqR] at hl
  have f0 : ReadsR enc W base true 3 ((cs.drop 0).take (Try.prog.cellsOf 3)) := hf 0 _ rfl
  have f1 : ReadsR enc W base true 3 ((cs.drop 1).take (Try.prog.cellsOf 3)) := hf 1 _ rfl
  have f2 : ReadsR enc W base true 40 ((cs.drop 2).take (Try.prog.cellsOf 40)) := hf 2 _ rfl
  simp only [cells_intR, cells_plsR] at f0 f1 f2
  match cs, hl with
  | [v0, v1, v2], _ =>
    obtain ⟨x, e0, _⟩ := reads_intR f0
    obtain ⟨y, e1, _⟩ := reads_intR f1
    obtain ⟨A, n, c, l, e2, hli, hn, _, _, hok⟩ := open_plsR f2
    simp at e0 e1 e2
    subst hn
    exact ⟨⟨x, y, A, c, l⟩, by rw [e0, e1, e2]; rfl, hli, hok⟩
theorem open_copies {fuel : Nat} {cs : List Value} {x : DataW H × List MemPlace} (h : DataW.trod enc Try.prog W base (fun _ => true) true fuel 37 cs = some x) :
    ∃ A n c, ∃ l : List Cq, cs = [.slice A n c] ∧ Vq W W.heap.size A l ∧ n = l.length ∧ ∀ q ∈ l, ∀ p ∈ q.ps, Ok64 p.1 := by
  obtain ⟨A, n, c, l, e, hl, hn, _, _, hp⟩ := reads_rowsR (Pr := fun q : Cq => Lies W W.heap.size q.a (rowQ q.ps) ∧ ∀ p ∈ q.ps, Ok64 p.1) Cq.cells (m := 3) (by omega) Cq.cells_len Try.underlying37 cells_cqR (fun cs h => reads_cqR h) ⟨fuel, x, h⟩
  exact ⟨A, n, c, l, e, ⟨hl, fun q hq => (hp q hq).1⟩, hn, fun q hq => (hp q hq).2⟩
end
end Go.Proofs.Ytofokljhlcdebaa
