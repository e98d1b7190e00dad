/-
  ROWS OF COPIES that came in, opened.
-/
import Derived.Test.YtofokljhlcdebaaOpnR
import Derived.Test.YtofokljhlcdebaaOpnF
import Derived.Test.YtofokljhlcdebaaPkD
namespace Go.Proofs.Ytofokljhlcdebaa
open Go.ChangeShapes Go.WideShapes Go.ChangeAt Go.RowKit Go.Joins Go.Deep

section
variable {H : Type} {enc : TypeId × Value → H} {W : World} {base : Nat} {held : Bool}
theorem cells_plsR : Try.prog.cellsOf 40 = 1 := by kernel_rfl
theorem open_plsR {cs : List Value} (h : ReadsR enc W base true 40 cs) :
    ∃ A n c, ∃ l : List Pl2, cs = [.slice A n c] ∧ Lies W W.heap.size A (rowQ l) ∧ n = l.length ∧ n ≤ c ∧ c ≤ maxLen ∧ ∀ q ∈ l, Ok64 q.1 :=
  reads_rowsR (Pr := fun q : Pl2 => Ok64 q.1) plc (m := 2) (by omega) plc_len Try.underlying40 cells_plR (fun cs h => by obtain ⟨x, y, e, h0, _⟩ := reads_plR h; exact ⟨(x, y), e, h0⟩) h
end
end Go.Proofs.Ytofokljhlcdebaa
