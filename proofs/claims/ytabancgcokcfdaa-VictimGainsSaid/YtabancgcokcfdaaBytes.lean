/-
  What the program knows of its bytes; bytes turned into strings; small laws that every walk's end wants.
-/
import Derived.Test.YtabancgcokcfdaaWords
import Derived.Test.YtabancgcokcfdaaProg
import Derived.Deep.AppendLies
import Derived.Deep.RegionLaw
import Derived.OneCell
import Derived.IntWalk
namespace Go.Proofs.Ytabancgcokcfdaa
open Go.RowKit

theorem ret_bool {a b : Bool} (h : a = b) : Ending.returned (.bool a) = .returned (.bool b) := by rw [h]
/-- A new block of bytes, as something that lies. -/
theorem Lies.fresh (w : World) (l : List UInt8) (t : TypeId) (fr : Nat × Nat) (cs : Array Value) (hcs : cs.toList = bys l) (g B : Nat) (hg : g = w.heap.size) (hB : g < B) : Lies (w.alloc (.cells cs t fr)) B (some ⟨g, 0, none⟩) (bys l) := by
  subst hg; rw [← hcs]; exact Lies.new w cs t fr _ hB

end Go.Proofs.Ytabancgcokcfdaa
