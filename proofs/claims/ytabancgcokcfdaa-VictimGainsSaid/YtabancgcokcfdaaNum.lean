/-
  Numbers as bytes, the highest first, as plain mathematics: nothing of any program.
-/
import Derived.Below
import Derived.Laws.BitsAllLaws
namespace Go.Proofs.Ytabancgcokcfdaa

/-- The lowest k bytes of n, the highest first. -/
def beB : Nat → Nat → List UInt8
  | 0, _ => []
  | k + 1, n => UInt8.ofNat (n / 256 ^ k) :: beB k n

end Go.Proofs.Ytabancgcokcfdaa
