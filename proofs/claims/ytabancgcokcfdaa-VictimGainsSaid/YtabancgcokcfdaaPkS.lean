/-
  SEARCHING at int: slices.BinarySearch in a list that rises.
-/
import Derived.Test.YtabancgcokcfdaaTbM
import Derived.Test.YtabancgcokcfdaaElem
import Derived.Test.YtabancgcokcfdaaRowK
namespace Go.Proofs.Ytabancgcokcfdaa
open Go.RowKit
set_option maxRecDepth 8000
namespace Pk
theorem w6n {x : Nat} (h : x ≤ 1000) : wrap64 (x : Int) = (x : Int) := by unfold wrap64; omega
end Pk
end Go.Proofs.Ytabancgcokcfdaa
