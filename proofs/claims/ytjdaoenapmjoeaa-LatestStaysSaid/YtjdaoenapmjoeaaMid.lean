/-
  SORTING, plain mathematics: what pdqsort does to a list of fewer than fifty elements that are in order but for the last one. Nothing here speaks of one program.
  A STRUCT OUT OF THE MIDST OF A BLOCK. Nothing here speaks of one program.
-/
import Derived.Below
import Derived.Test.YtjdaoenapmjoeaaWords
import Derived.Deep.MidRow
namespace Go.Proofs.Ytjdaoenapmjoeaa
section
namespace So

section
variable {α : Type} (lt : α → α → Bool) (df : α)
def swp (d : List α) (i j : Nat) : List α := (d.set i (d.getD j df)).set j (d.getD i df)
def insI (a : Nat) : Nat → List α → List α
  | 0, d => d
  | j + 1, d => if decide (a < j + 1) && lt (d.getD (j + 1) df) (d.getD j df) then insI a j (swp df d (j + 1) j) else d
def insO (a : Nat) : Nat → Nat → List α → List α
  | 0, _, d => d
  | m + 1, i, d => insO a m (i + 1) (insI lt df a i d)
def insSort (d : List α) (a b : Nat) : List α := insO lt df a (b - (a + 1)) (a + 1) d
def up (d : List α) (a j : Nat) : Nat → Nat → Nat
  | 0, i => i
  | m + 1, i => if decide (i ≤ j) && lt (d.getD i df) (d.getD a df) then up d a j m (i + 1) else i
def dn (d : List α) (a i : Nat) : Nat → Nat
  | 0 => 0
  | j + 1 => if decide (i ≤ j + 1) && !lt (d.getD (j + 1) df) (d.getD a df) then dn d a i j else j + 1
def plp (a : Nat) : Nat → Nat → Nat → List α → Option (Nat × List α)
  | 0, _, _, _ => none
  | m + 1, i, j, d =>
    let i2 := up lt df d a j (j + 1 - i) i
    let j2 := dn lt df d a i2 j
    if j2 < i2 then some (j2, d) else plp a m (i2 + 1) (j2 - 1) (swp df d i2 j2)
def partM (d : List α) (a b p : Nat) : Option (Nat × Bool × List α) :=
  let d1 := swp df d a p
  let i := up lt df d1 a (b - 1) (b - 1 + 1 - (a + 1)) (a + 1)
  let j := dn lt df d1 a i (b - 1)
  if j < i then some (j, true, swp df d1 j a) else
    match plp lt df a 64 (i + 1) (j - 1) (swp df d1 i j) with
    | none => none
    | some r => some (r.1, false, swp df r.2 r.1 a)
def psc (d : List α) (b : Nat) : Nat → Nat → Nat
  | 0, i => i
  | m + 1, i => if decide (i < b) && !lt (d.getD i df) (d.getD (i - 1) df) then psc d b m (i + 1) else i
end

/-! ### the same on other names -/
section
variable {α β : Type} (lt : α → α → Bool) (df : α) (e : α → β) (lt' : β → β → Bool) (he : ∀ x y, lt' (e x) (e y) = lt x y)
include he
end

/-! ### ranks -/
/-- A list of numbers in order, but for the last one. -/
def base (n r : Nat) : List Nat := ((List.range n).filter fun i => decide (i ≠ r)) ++ [r]
end So
end
section
open Go.RowKit

/-- A struct out of the midst of a block. -/
theorem wpl_load_mid {P : Program} {ops : Array Oper} {rest : List Oper} {op : Oper} {a : Act} {w : World} {Q : Exit → Act → World → Prop} (hgd : op.guard = none) (ty : TypeId) (x : Operand) (ho : op.op = .load ty x) (b k : Nat) (cs : List Value) (hc : w.rangeAt b k cs)
    (hx : a.eval x = .pointer (some ⟨b, k, none⟩)) (d : TypeDesc) (hu : P.underlying ty = some d) (hd : d.isRow = true) (n : Nat) (hi : (P.info? ty).map (·.size) = some n) (hn : cs.length = n)
    (h : wpList P ops Q rest (a.put op.dst (.agg cs.toArray)) w) : wpList P ops Q (op :: rest) a w :=
  wpList_load_mid hgd ty x ho b k hx cs d hc hu hd (by rw [hi, hn]) h
end
end Go.Proofs.Ytjdaoenapmjoeaa
