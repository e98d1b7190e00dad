/-
  ROWS OF PLACES that came in, opened. (Cut out of OpnC in round 22.)
-/
import Derived.Test.YtabancgcokcfdaaOpnL
import Derived.Test.YtabancgcokcfdaaPkB
namespace Go.Proofs.Ytabancgcokcfdaa
open Go.ChangeShapes Go.WideShapes Go.ChangeAt Go.RowKit Go.Joins Go.Deep

section
variable {H : Type} {enc : TypeId × Value → H} {W : World} {base : Nat} {held : Bool}
theorem open_plsR {cs : List Value} (h : ReadsR enc W base true 23 cs) :
    ∃ A n c, ∃ l : List Pl2, cs = [.slice A n c] ∧ Lies W W.heap.size A (rowQ l) ∧ n = l.length ∧ n ≤ c ∧ c ≤ maxLen ∧ ∀ q ∈ l, Ok64 q.1 :=
  reads_rowsR (Pr := fun q : Pl2 => Ok64 q.1) plc (m := 2) (by omega) plc_len Try.underlying23 cells_plR (fun cs h => by obtain ⟨x, y, e, h0, _⟩ := reads_plR h; exact ⟨(x, y), e, h0⟩) h
end
end Go.Proofs.Ytabancgcokcfdaa
