/-
  LAYER 21, CONTRACTS: the function that tells which of two blocks is put ahead; slices.MinFunc at int; first, Least, Most.
-/
import Derived.Test.YtabancgcokcfdaaWrA
import Derived.Shelf.Abstract
namespace Go.Proofs.Ytabancgcokcfdaa
open Go.RowKit
set_option maxRecDepth 8000

theorem Addr.add_block21 (a : Addr) (i : Nat) : (a.add i).block = a.block := by unfold Addr.add; split <;> rfl
theorem orW_two (x y : Int) : orW [x, y] = orY x y := by
  unfold orW orW orW orY
  by_cases h : x = 0
  · by_cases h2 : y = 0 <;> simp [h, h2]
  · simp [h]
end Go.Proofs.Ytabancgcokcfdaa
