/-
  Bits of bytes, as plain mathematics: how many are 0, what covers what, what masks leave. Nothing of any program.
-/
import Derived.Below
import Derived.Laws.BitsAllLaws
namespace Go.Proofs.Ytabancgcokcfdaa

/-- Bit k of a number. -/
def bitN (x k : Nat) : Nat := x / 2 ^ k % 2
/-- Bit i of bytes, the lowest of each byte first. -/
def bitAt (l : List UInt8) (i : Nat) : Nat := bitN (l.getD (i / 8) 0).toNat (i % 8)
/-- How many of the first i bits are 0. -/
def zc (l : List UInt8) : Nat → Nat
  | 0 => 0
  | i + 1 => zc l i + (1 - bitAt l i)
/-- Bytes laid one after another over others. -/
def laid (f : Nat → UInt8) (l : List UInt8) (j : Nat) : List UInt8 := (List.range l.length).map fun p => if p < j then f p else l.getD p 0
end Go.Proofs.Ytabancgcokcfdaa
