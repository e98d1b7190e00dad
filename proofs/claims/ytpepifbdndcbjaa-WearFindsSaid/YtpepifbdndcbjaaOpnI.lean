/-
  The statement's Four, opened: blocks, counts, a block, a gap.
-/
import Derived.Test.YtpepifbdndcbjaaOpnR
import Derived.Test.YtpepifbdndcbjaaWrH
namespace Go.Proofs.Ytpepifbdndcbjaa
open Go.ChangeShapes Go.WideShapes Go.ChangeAt Go.RowKit Go.Joins Go.Deep

section
variable {H : Type} {enc : TypeId × Value → H} {W : World} {base : Nat} {held : Bool}
theorem cells_fourI : Try.prog.cellsOf 24 = 4 := by kernel_rfl
theorem cells_intsI : Try.prog.cellsOf 22 = 1 := by kernel_rfl
set_option maxRecDepth 100000 in
theorem open_four21 {fuel : Nat} {cs : List Value} {x : DataW H × List MemPlace} (h : DataW.trod enc Try.prog W base (fun _ => true) true fuel 24 cs = some x) :
    ∃ (A A2 : Option Addr) (n c n2 c2 : Nat) (b g : Int) (l ct : List Int), cs = [.slice A n c, .slice A2 n2 c2, .int .i64 b, .int .i64 g] ∧ Lies W W.heap.size A (nums .i64 l) ∧ n = l.length ∧ Lies W W.heap.size A2 (nums .i64 ct) ∧ n2 = ct.length ∧ Top ct := by
  obtain ⟨hl, hf⟩ := reads_fieldsR Try.underlying24 ⟨fuel, x, h⟩
  rw [cells_fourI] at hl
  have f0 : ReadsR enc W base true 22 ((cs.drop 0).take (Try.prog.cellsOf 22)) := hf 0 _ rfl
  have f1 : ReadsR enc W base true 22 ((cs.drop 1).take (Try.prog.cellsOf 22)) := hf 1 _ rfl
  have f2 : ReadsR enc W base true 3 ((cs.drop 2).take (Try.prog.cellsOf 3)) := hf 2 _ rfl
  have f3 : ReadsR enc W base true 3 ((cs.drop 3).take (Try.prog.cellsOf 3)) := hf 3 _ rfl
  simp only [cells_intR, cells_intsI] at f0 f1 f2 f3
  match cs, hl with
  | [v0, v1, v2, v3], _ =>
    obtain ⟨_, _, f0⟩ := f0
    obtain ⟨A, n, c, l, e0, hL, hn, _, _, _⟩ := open_intsR f0
    obtain ⟨_, _, f1⟩ := f1
    obtain ⟨A2, n2, c2, ct, e1, hC, hn2, _, _, hok⟩ := open_intsR f1
    obtain ⟨b, e2, _⟩ := reads_intR f2
    obtain ⟨g, e3, _⟩ := reads_intR f3
    simp at e0 e1 e2 e3
    exact ⟨A, A2, n, c, n2, c2, b, g, l, ct, by rw [e0, e1, e2, e3], hL, hn, hC, hn2, fun z hz => (hok z hz).2⟩
end
end Go.Proofs.Ytpepifbdndcbjaa
