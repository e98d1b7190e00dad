/-
  LAYER 20: PlaceChooses.
-/
import Derived.Test.YtofokljhlcdebaaPkW
namespace Go.Proofs.Ytofokljhlcdebaa
open Go.RowKit Go.Sort
set_option maxRecDepth 8000

theorem fewL_has (l : List Cq) : (fewL l).filter hasPl = fewL l := by
  rw [List.filter_eq_self]
  intro q hq
  unfold hasPl
  exact decide_eq_true (fewL_ps hq).2.1
end Go.Proofs.Ytofokljhlcdebaa
