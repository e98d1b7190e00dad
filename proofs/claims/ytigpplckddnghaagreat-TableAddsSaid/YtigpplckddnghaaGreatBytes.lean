/-
  What the program knows of its bytes; bytes turned into strings; small laws that every walk's end wants.
-/
import Derived.Test.YtigpplckddnghaaGreatWords
import Derived.Test.YtigpplckddnghaaGreatProg
import Derived.Deep.AppendLies
import Derived.Deep.RegionLaw
import Derived.OneCell
import Derived.IntWalk
namespace Go.Proofs.YtigpplckddnghaaGreat
open Go.RowKit

theorem u8info : (Tryz.prog.info? 5).map (fun i => (i.zero, i.size, i.bytes)) = some (some (.int .u8 0), 1, 1) := by kernel_rfl

theorem u8elems : Elems Tryz.prog 67 5 1 1 := by
  obtain ⟨i0, hi, hz0, hz1, hz2⟩ := info_parts u8info
  exact ⟨Tryz.underlying67, ⟨i0, _, hi, hz0, hz1, hz2, rfl⟩, by decide⟩

theorem strU8 {w : World} {B : Nat} {A : Option Addr} {l : List UInt8} {n : Nat} (c : Nat) (h : Lies w B A (bys l)) (hn : n = l.length) : (convert 67 9 (.slice A n c)).run Tryz.prog w = .ok (.string (str l)) w :=
  run_str 67 9 5 n c h hn Tryz.underlying67 Tryz.underlying5 Tryz.underlying9

theorem own_str {w : World} {base m c : Nat} {A : Option Addr} {l : List UInt8} {n : Nat} (h : w.ownsRow base 5 1 (.slice A m c) n (bys l)) (hm : m = n) : (convert 67 9 (.slice A m c)).run Tryz.prog w = .ok (.string (str l)) w :=
  strU8 c (Lies.of_own h) (by have := h.1; rw [bys_len] at this; omega)

theorem ret_int {k : IntKind} {a b : Int} (h : a = b) : Ending.returned (.int k a) = .returned (.int k b) := by rw [h]
theorem wr64 {n : Int} (h : -9223372036854775808 ≤ n ∧ n ≤ 9223372036854775807) : wrap64 n = n := by unfold wrap64; omega
theorem ret_bool {a b : Bool} (h : a = b) : Ending.returned (.bool a) = .returned (.bool b) := by rw [h]
theorem bys_snoc (f : Nat → UInt8) (j : Nat) : bys ((List.range (j + 1)).map f) = bys ((List.range j).map f) ++ [.int .u8 ((f j).toNat : Int)] := by
  rw [List.range_succ, List.map_append, bys_app]; rfl

/-- A new block of bytes, as something that lies. -/
theorem Lies.fresh (w : World) (l : List UInt8) (t : TypeId) (fr : Nat × Nat) (cs : Array Value) (hcs : cs.toList = bys l) (g B : Nat) (hg : g = w.heap.size) (hB : g < B) : Lies (w.alloc (.cells cs t fr)) B (some ⟨g, 0, none⟩) (bys l) := by
  subst hg; rw [← hcs]; exact Lies.new w cs t fr _ hB

end Go.Proofs.YtigpplckddnghaaGreat
