/-
  LAYER 19: finds whose numbers are whatever they are, as mathematics and as cells.
-/
import Derived.Test.YtofokljhlcdebaaElem
import Derived.Test.YtofokljhlcdebaaRowK
import Derived.Test.YtofokljhlcdebaaTbM
import Derived.RegionTactic
import Derived.Deep.QuietTactic
import Derived.BigQuiet
import Derived.Deep.CutBlock
namespace Go.Proofs.Ytofokljhlcdebaa
open Go.RowKit
set_option maxRecDepth 8000

/-- A find. -/
structure Fo where
  x : Int
  y : Int
  kd : Int
  ix : Int
  ct : Int
  bt : Int
  op : Int
  lp : Int
  ln : Int
deriving DecidableEq, Inhabited
def Fo.cells (f : Fo) : List Value := [.int .i64 f.x, .int .i64 f.y, .int .i64 f.kd, .int .i64 f.ix, .int .i64 f.ct, .int .u64 f.bt, .int .u64 f.op, .int .i64 f.lp, .int .i64 f.ln]
theorem Fo.cells_len (f : Fo) : f.cells.length = 9 := rfl
/-- A find in its box. -/
def BoxO (f : Fo) (k : Nat) (w : World) : Prop := w.heap[k]? = some (.cells f.cells.toArray 34 (0, 0))
section
variable {f : Fo} {k B : Nat} {w w' : World}
theorem BoxO.below (hx : BoxO f k w) (hb : Below B w w') (hk : k < B) : BoxO f k w' := (hb.block k hk).trans hx
theorem BoxO.lt (hx : BoxO f k w) : k < w.heap.size := (Array.getElem?_eq_some_iff.1 hx).1
theorem BoxO.new (f : Fo) (w : World) : BoxO f w.heap.size (w.alloc (.cells f.cells.toArray 34)) := heap_alloc_new w _
theorem BoxO.c (hx : BoxO f k w) (j : Nat) (v : Value) (hj : f.cells[j]? = some v) : w.cell? ⟨k, j, none⟩ = some v := by
  have := World.news_of_block hx j v (by simpa using hj)
  have e : (⟨k, 0, none⟩ : Addr).add j = ⟨k, j, none⟩ := by unfold Addr.add; split <;> simp_all
  rw [e] at this
  exact this
theorem BoxO.range (hx : BoxO f k w) : w.rangeAt k 0 f.cells := by
  intro j v hv
  rw [Nat.zero_add]
  exact hx.c j v hv
end

end Go.Proofs.Ytofokljhlcdebaa
