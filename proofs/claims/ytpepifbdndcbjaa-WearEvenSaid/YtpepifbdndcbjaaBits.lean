/-
  Bits of bytes, as plain mathematics: how many are 0, what covers what, what masks leave. Nothing of any program.
-/
import Derived.Below
import Derived.Laws.BitsAllLaws
namespace Go.Proofs.Ytpepifbdndcbjaa

/-- Bytes laid one after another over others. -/
def laid (f : Nat → UInt8) (l : List UInt8) (j : Nat) : List UInt8 := (List.range l.length).map fun p => if p < j then f p else l.getD p 0
end Go.Proofs.Ytpepifbdndcbjaa
