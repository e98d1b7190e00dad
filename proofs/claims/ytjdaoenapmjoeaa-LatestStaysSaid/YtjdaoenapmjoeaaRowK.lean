/-
  What the program knows of its bytes; bytes turned into strings; small laws that every walk's end wants.
  Bits of bytes, as plain mathematics: how many are 0, what covers what, what masks leave. Nothing of any program.
  SMALL LAWS that many walks want: a call that leaves the world; bytes that are set; where a row of one's own begins. (Cut out of Prgm.)
  Numbers as bytes, the highest first, as plain mathematics: nothing of any program.
  PAGES AS BYTES, plain mathematics: heads, the bytes of a page, what is read of them; whatever covers a page, and is another one, is none.
  TABLES AS BYTES, plain mathematics: numbers as cells, tables that may be, their data, what is read of data.
  ROWS THAT ARE KEPT; measures of loops. Nothing here speaks of one function. (Cut out of TbQ, TbF.)
-/
import Derived.Test.YtjdaoenapmjoeaaWords
import Derived.Test.YtjdaoenapmjoeaaProg
import Derived.Deep.AppendLies
import Derived.Deep.RegionLaw
import Derived.OneCell
import Derived.IntWalk
import Derived.Below
import Derived.Laws.BitsAllLaws
import Derived.Deep.QuietTactic
import Derived.BigQuiet
import Derived.Deep.RegionWith
import Derived.StillTailTactics
import Derived.StillTactics
namespace Go.Proofs.Ytjdaoenapmjoeaa
section
open Go.RowKit

theorem ret_int {k : IntKind} {a b : Int} (h : a = b) : Ending.returned (.int k a) = .returned (.int k b) := by rw [h]
theorem wr64 {n : Int} (h : -9223372036854775808 ≤ n ∧ n ≤ 9223372036854775807) : wrap64 n = n := by unfold wrap64; omega
theorem ret_bool {a b : Bool} (h : a = b) : Ending.returned (.bool a) = .returned (.bool b) := by rw [h]
/-- A new block of bytes, as something that lies. -/
theorem Lies.fresh (w : World) (l : List UInt8) (t : TypeId) (fr : Nat × Nat) (cs : Array Value) (hcs : cs.toList = bys l) (g B : Nat) (hg : g = w.heap.size) (hB : g < B) : Lies (w.alloc (.cells cs t fr)) B (some ⟨g, 0, none⟩) (bys l) := by
  subst hg; rw [← hcs]; exact Lies.new w cs t fr _ hB
end
section
/-- Bit k of a number. -/
def bitN (x k : Nat) : Nat := x / 2 ^ k % 2
/-- Bit i of bytes, the lowest of each byte first. -/
def bitAt (l : List UInt8) (i : Nat) : Nat := bitN (l.getD (i / 8) 0).toNat (i % 8)
/-- How many of the first i bits are 0. -/
def zc (l : List UInt8) : Nat → Nat
  | 0 => 0
  | i + 1 => zc l i + (1 - bitAt l i)
/-- Bytes laid one after another over others. -/
def laid (f : Nat → UInt8) (l : List UInt8) (j : Nat) : List UInt8 := (List.range l.length).map fun p => if p < j then f p else l.getD p 0
end
section
open Go.RowKit

theorem Calls.back {f : FuncId} {args : Array Value} {w : World} {v : Value} (h : Calls Try.prog f args w fun e w' => e = .returned v ∧ w = w') : Calls Try.prog f args w fun e w' => e = .returned v ∧ w' = w :=
  h.mono fun _ _ ⟨h1, h2⟩ => ⟨h1, h2.symm⟩
end
section
/-- The lowest k bytes of n, the highest first. -/
def beB : Nat → Nat → List UInt8
  | 0, _ => []
  | k + 1, n => UInt8.ofNat (n / 256 ^ k) :: beB k n
end
section
/-- A head. -/
structure Hd where
  kind : Int
  index : Int
  count : Int
  batch : Nat
  opn : Nat
  lpn : Int
  len : Int
deriving DecidableEq
def Hd.May (h : Hd) : Prop := 1 ≤ h.kind ∧ h.kind ≤ 5 ∧ 1 ≤ h.count ∧ h.count ≤ 16 ∧ 0 ≤ h.index ∧ h.index < h.count ∧ h.batch < 2147483648 ∧ h.opn < 2147483648 ∧ 0 ≤ h.lpn ∧ h.lpn ≤ 65535 ∧ 0 ≤ h.len ∧ h.len ≤ 228
instance (h : Hd) : Decidable h.May := by unfold Hd.May; infer_instance

/-- The first 24 bytes of a page. -/
def hdB (h : Hd) : List UInt8 := beB 1 h.kind.toNat ++ beB 1 h.index.toNat ++ beB 1 h.count.toNat ++ beB 1 0 ++ beB 8 h.batch ++ beB 8 h.opn ++ beB 2 h.lpn.toNat ++ beB 2 h.len.toNat
def bodyB (h : Hd) (d : List UInt8) : List UInt8 := hdB h ++ d ++ List.replicate (228 - d.length) 255
/-- Bytes, and behind them how many of their bits are 0. -/
def sealB (l : List UInt8) : List UInt8 := l ++ beB 4 (zc l (8 * l.length))
def pageB (h : Hd) (d : List UInt8) : List UInt8 := sealB (bodyB h d)
end
section
open Go.RowKit

/-- Numbers of a kind as cells. -/
def nums (k : IntKind) (l : List Int) : List Value := l.map fun z => .int k z
theorem nums_len (k : IntKind) (l : List Int) : (nums k l).length = l.length := by simp [nums]
theorem nums_one (k : IntKind) (l : List Int) : ∀ u ∈ nums k l, u.oneCell' = true := by
  intro u hu; obtain ⟨x, _, rfl⟩ := List.mem_map.1 hu; rfl
theorem Lies.num {w : World} {B : Nat} {A : Option Addr} {k : IntKind} {l : List Int} {i : Nat} (h : Lies w B A (nums k l)) (hi : i < l.length) : ∃ a, A = some a ∧ a.block < B ∧ w.cell? (a.add i) = some (.int k (l.getD i 0)) := by
  obtain ⟨a, hA, hb, hc⟩ := h.at_ (k := i) (by rw [nums_len]; exact hi)
  refine ⟨a, hA, hb, hc.trans ?_⟩
  congr 1
  simp [nums, List.getD, List.getElem?_eq_getElem hi]

/-! ### tables -/
structure Tb where
  seq : Nat
  bad : List Int
  wear : List Int
  void : List Int
deriving DecidableEq
/-- A place of a list that rises, from 0 on, below b. -/
def okAt (b : Int) (l : List Int) (i : Nat) : Prop := 0 ≤ l.getD i 0 ∧ l.getD i 0 < b ∧ (0 < i → l.getD (i - 1) 0 < l.getD i 0)
def Rise (b : Int) (l : List Int) : Prop := ∀ i, i < l.length → okAt b l i
def Worn (l : List Int) : Prop := ∀ i, i < l.length → 0 ≤ l.getD i 0 ∧ l.getD i 0 ≤ 65535
instance (b : Int) (l : List Int) : Decidable (Rise b l) := by unfold Rise okAt; infer_instance
instance (l : List Int) : Decidable (Worn l) := by unfold Worn; infer_instance
def Tb.May (t : Tb) : Prop := t.seq < 2147483648 ∧ Rise 34 t.bad ∧ (Worn t.wear ∧ t.wear.length ≤ 34) ∧ t.void.length ≤ 36 ∧ Rise 2147483648 t.void
instance (t : Tb) : Decidable t.May := by unfold Tb.May; infer_instance

/-! ### marks -/
/-- The bits of which p speaks, as a number. -/
def mk8 (p : Nat → Bool) : Nat → Nat
  | 0 => 0
  | k + 1 => mk8 p k + if p k = true then 2 ^ k else 0
/-- The byte i of marks. -/
def mkN (l : List Int) (i : Nat) : Nat := mk8 (fun k => decide (((8 * i + k : Nat) : Int) ∈ l)) 8
/-! ### bytes of a table -/
/-- Numbers of one width, one behind the other. -/
def seqB (k : Nat) (f : Nat → Nat) (n : Nat) : List UInt8 := (List.range n).flatMap fun i => beB k (f i)
def Tb.data (t : Tb) : List UInt8 := seqB 1 (mkN t.bad) 5 ++ seqB 2 (fun b => (t.wear.getD b 0).toNat) 34 ++ beB 1 t.void.length ++ seqB 4 (fun i => (t.void.getD i 0).toNat) t.void.length
def Tb.hd (t : Tb) : Hd := ⟨1, 0, 1, t.seq, 0, (t.wear.length : Int), (t.data.length : Int)⟩
def Tb.page (t : Tb) : List UInt8 := pageB t.hd t.data
end
section
open Go.RowKit

theorem own_keepT {w w' : World} {B k n : Nat} {e : TypeId} {v : Value} {xs : List Value} (h : w.ownsRow B e k v n xs) (hb : Below w.heap.size w w') : w'.ownsRow B e k v n xs :=
  h.kept (row := none) (grown_below hb) (by cases hv : v.ownBlock <;> simp)
theorem measT {K Z : Nat} (h : K < Z) : Z - (intOf (.int .i64 ((K + 1 : Nat) : Int))).toNat < Z - (intOf (.int .i64 (K : Int))).toNat := by
  show Z - (((K + 1 : Nat) : Int)).toNat < Z - ((K : Int)).toNat
  rw [Int.toNat_natCast, Int.toNat_natCast]
  omega
theorem measT2 {K Z : Nat} {z : Int} (e : z = ((K + 1 : Nat) : Int)) (h : K < Z) : Z - (intOf (.int .i64 z)).toNat < Z - (intOf (.int .i64 (K : Int))).toNat := by
  rw [e]; exact measT h
theorem own_lowS {w : World} {base n size : Nat} {e : TypeId} {v : Value} {xs : List Value} (h : w.ownsRow base e size v n xs) : ∀ q, v.ownBlock = some q → base ≤ q ∧ q < w.heap.size := by
  intro q e
  rcases h.2 with ⟨hv, _⟩ | ⟨g2, cap, cur, hv, h3, h4, _⟩
  · rw [hv] at e; cases e
  · rw [hv] at e
    have e' : some g2 = some q := e
    injection e' with e'
    have := (Array.getElem?_eq_some_iff.1 h4).1
    omega
end
end Go.Proofs.Ytjdaoenapmjoeaa
