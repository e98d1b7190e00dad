/-
  A REGION THAT DRAWS ITS ORDER, whose operations each keep a promise in whatever comes later (Flow), with ITS WHOLE FRAME at the end. Nothing here speaks of one program.
-/
import Derived.Test.YtfpooljpbncogaaGreatFlow
import Derived.Test.YtfpooljpbncogaaGreatFlo2
import Derived.Test.YtfpooljpbncogaaGreatFlo3
namespace Go.Proofs.YtfpooljpbncogaaGreat
open Go.RowKit

theorem wp_region_all {P : Program} {ops : Array Oper} {a0 : Act} {w0 : World} {Q : Exit → Act → World → Prop} {id : Nat} (hm : P.follows .mixedOrders = true) (φ : Tmp → Value → World → Prop) (hB : flowB ops a0.tmps.size = true) (hf : FlowsL P ops φ a0 w0 ops.toList)
    (hend : ∀ a w, a.defers = a0.defers → a.tmps.size = a0.tmps.size → Below w0.heap.size w0 w → (∀ t, writesB ops t = true → Keeps (φ t) (a.tmps.getD t undef) w) → (∀ t, writesB ops t = false → a.tmps.getD t undef = a0.tmps.getD t undef) → Q .normal a w) : (Code.region id ops true).wp P Q a0 w0 := by
  refine wp_region_any hm (wpAny_flow hB hf.all (fun a w st => ?_) _ _ _ _ (by simp) (by rw [Array.toList_replicate, List.count_replicate]; simp) ⟨(Below.refl _ w0).drew, rfl, rfl, fun j oj d hj _ hl => ?_, fun _ _ => rfl⟩)
  · refine hend a w st.defers st.size st.below (fun t ht => ?_) st.kept
    obtain ⟨oj, hoj, hd⟩ := Array.any_eq_true'.1 ht
    obtain ⟨j, hj⟩ := Array.getElem?_of_mem hoj
    exact st.done j oj t hj (by simpa using hd) (by
      have : j < ops.size := (Array.getElem?_eq_some_iff.1 hj).1
      simp [this])
  · have : j < ops.size := (Array.getElem?_eq_some_iff.1 hj).1
    simp [this] at hl
/-- An operation that makes memory. -/
theorem FlowOp.made {P : Program} {ops : Array Oper} {φ : Tmp → Value → World → Prop} {o : Oper} {a : Act} {w w' : World} {d : Tmp} {v : Value} (hw : Region.wanted o (yielded ops a.tmps) = true) (hx : o.dst = some d) (hr : (execOp a.eval o).run P w = .ok (.value v) w') (hb : Below w.heap.size w w') (hv : Keeps (φ d) v w') : FlowOp P ops φ o a w := by
  intro K Q h
  rw [if_pos hw]
  unfold Oper.wp
  rw [hr]
  exact h v w' hb (fun d' h' => by rw [hx] at h'; cases h'; exact hv)
end Go.Proofs.YtfpooljpbncogaaGreat
