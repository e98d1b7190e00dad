/-
  The statement's Four, opened: places, blocks, bad ones, a block.
-/
import Derived.Test.YtofokljhlcdebaaOpnC
namespace Go.Proofs.Ytofokljhlcdebaa
open Go.ChangeShapes Go.WideShapes Go.ChangeAt Go.RowKit Go.Joins Go.Deep

section
variable {H : Type} {enc : TypeId × Value → H} {W : World} {base : Nat} {held : Bool}
theorem cells_fourR : Try.prog.cellsOf 52 = 4 := by kernel_rfl
theorem cells_intsR : Try.prog.cellsOf 44 = 1 := by kernel_rfl
set_option maxRecDepth 100000 in
theorem open_four20 {fuel : Nat} {cs : List Value} {x : DataW H × List MemPlace} (h : DataW.trod enc Try.prog W base (fun _ => true) true fuel 52 cs = some x) :
    ∃ (A A2 A3 : Option Addr) (n c n2 c2 n3 c3 : Nat) (b : Int) (L : List Pl2) (bl bad : List Int), cs = [.slice A n c, .slice A2 n2 c2, .slice A3 n3 c3, .int .i64 b] ∧ Lies W W.heap.size A (rowQ L) ∧ n = L.length ∧ (∀ q ∈ L, Ok64 q.1) ∧ Lies W W.heap.size A2 (nums .i64 bl) ∧ n2 = bl.length ∧ (∀ z ∈ bl, Ok64 z) ∧ Lies W W.heap.size A3 (nums .i64 bad) ∧ n3 = bad.length := by
  obtain ⟨hl, hf⟩ := reads_fieldsR Try.underlying52 ⟨fuel, x, h⟩
  rw [cells_fourR] at hl
  have f0 : ReadsR enc W base true 40 ((cs.drop 0).take (Try.prog.cellsOf 40)) := hf 0 _ rfl
  have f1 : ReadsR enc W base true 44 ((cs.drop 1).take (Try.prog.cellsOf 44)) := hf 1 _ rfl
  have f2 : ReadsR enc W base true 44 ((cs.drop 2).take (Try.prog.cellsOf 44)) := hf 2 _ rfl
  have f3 : ReadsR enc W base true 3 ((cs.drop 3).take (Try.prog.cellsOf 3)) := hf 3 _ rfl
  simp only [cells_intR, cells_plsR, cells_intsR] at f0 f1 f2 f3
  match cs, hl with
  | [v0, v1, v2, v3], _ =>
    obtain ⟨A, n, c, L, e0, hL, hn, _, _, hok⟩ := open_plsR f0
    obtain ⟨_, _, f1⟩ := f1
    obtain ⟨A2, n2, c2, bl, e1, hbl, hn2, _, _, hok2⟩ := open_intsR f1
    obtain ⟨_, _, f2⟩ := f2
    obtain ⟨A3, n3, c3, bad, e2, hbad, hn3, _, _, _⟩ := open_intsR f2
    obtain ⟨b, e3, _⟩ := reads_intR f3
    simp at e0 e1 e2 e3
    exact ⟨A, A2, A3, n, c, n2, c2, n3, c3, b, L, bl, bad, by rw [e0, e1, e2, e3], hL, hn, hok, hbl, hn2, hok2, hbad, hn3⟩
end
end Go.Proofs.Ytofokljhlcdebaa
