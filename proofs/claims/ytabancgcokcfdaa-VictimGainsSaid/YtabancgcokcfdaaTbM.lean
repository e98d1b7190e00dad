/-
  TABLES AS BYTES, plain mathematics: numbers as cells, tables that may be, their data, what is read of data.
-/
import Derived.Test.YtabancgcokcfdaaWords
import Derived.Test.YtabancgcokcfdaaPgM
namespace Go.Proofs.Ytabancgcokcfdaa
open Go.RowKit

/-- Numbers of a kind as cells. -/
def nums (k : IntKind) (l : List Int) : List Value := l.map fun z => .int k z
theorem nums_len (k : IntKind) (l : List Int) : (nums k l).length = l.length := by simp [nums]
theorem nums_app (k : IntKind) (l m : List Int) : nums k (l ++ m) = nums k l ++ nums k m := by simp [nums]
theorem Lies.num {w : World} {B : Nat} {A : Option Addr} {k : IntKind} {l : List Int} {i : Nat} (h : Lies w B A (nums k l)) (hi : i < l.length) : ∃ a, A = some a ∧ a.block < B ∧ w.cell? (a.add i) = some (.int k (l.getD i 0)) := by
  obtain ⟨a, hA, hb, hc⟩ := h.at_ (k := i) (by rw [nums_len]; exact hi)
  refine ⟨a, hA, hb, hc.trans ?_⟩
  congr 1
  simp [nums, List.getD, List.getElem?_eq_getElem hi]

/-! ### tables -/
structure Tb where
  seq : Nat
  bad : List Int
  wear : List Int
  void : List Int
deriving DecidableEq
/-- A place of a list that rises, from 0 on, below b. -/
def okAt (b : Int) (l : List Int) (i : Nat) : Prop := 0 ≤ l.getD i 0 ∧ l.getD i 0 < b ∧ (0 < i → l.getD (i - 1) 0 < l.getD i 0)
def Rise (b : Int) (l : List Int) : Prop := ∀ i, i < l.length → okAt b l i
def Worn (l : List Int) : Prop := ∀ i, i < l.length → 0 ≤ l.getD i 0 ∧ l.getD i 0 ≤ 65535
instance (b : Int) (l : List Int) : Decidable (Rise b l) := by unfold Rise okAt; infer_instance
instance (l : List Int) : Decidable (Worn l) := by unfold Worn; infer_instance
def Tb.May (t : Tb) : Prop := t.seq < 2147483648 ∧ Rise 34 t.bad ∧ (Worn t.wear ∧ t.wear.length ≤ 34) ∧ t.void.length ≤ 36 ∧ Rise 2147483648 t.void
instance (t : Tb) : Decidable t.May := by unfold Tb.May; infer_instance

/-! ### marks -/
/-- The bits of which p speaks, as a number. -/
def mk8 (p : Nat → Bool) : Nat → Nat
  | 0 => 0
  | k + 1 => mk8 p k + if p k = true then 2 ^ k else 0
/-- The byte i of marks. -/
def mkN (l : List Int) (i : Nat) : Nat := mk8 (fun k => decide (((8 * i + k : Nat) : Int) ∈ l)) 8
/-! ### bytes of a table -/
/-- Numbers of one width, one behind the other. -/
def seqB (k : Nat) (f : Nat → Nat) (n : Nat) : List UInt8 := (List.range n).flatMap fun i => beB k (f i)
def Tb.data (t : Tb) : List UInt8 := seqB 1 (mkN t.bad) 5 ++ seqB 2 (fun b => (t.wear.getD b 0).toNat) 34 ++ beB 1 t.void.length ++ seqB 4 (fun i => (t.void.getD i 0).toNat) t.void.length
def Tb.hd (t : Tb) : Hd := ⟨1, 0, 1, t.seq, 0, (t.wear.length : Int), (t.data.length : Int)⟩
end Go.Proofs.Ytabancgcokcfdaa
