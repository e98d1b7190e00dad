/-
  Tables loaded in a region; what a page's table is. (Cut out of TbX and TbY.)
-/
import Derived.Test.YtigpplckddnghaaGreatTbU
import Derived.Test.YtigpplckddnghaaGreatFlow
namespace Go.Proofs.YtigpplckddnghaaGreat
open Go.RowKit
set_option maxRecDepth 8000
theorem exec_load_table {o : Oper} {a : Act} {w : World} {x : Tl} {k : Nat} {t : Tmp} (ho : o.op = .load 26 (.tmp t)) (e : a.tmps.getD t undef = .pointer (some ⟨k, 0, none⟩)) (hx : BoxT x k w) : (execOp a.eval o).run Tryz.prog w = .ok (.value (.agg #[.int .u64 (x.t.seq : Int), .slice x.A1 x.t.bad.length x.c1, .slice x.A2 x.t.wear.length x.c2, .slice x.A3 x.t.void.length x.c3])) w :=
  exec_load_mid 26 (.tmp t) ho k 0 e x.cells _ hx.range Tryz.underlying26 rfl infoTb rfl


theorem getT_zero {b : List UInt8} (h : (getT b).2 ≠ 0) : (getT b).1 = zeroT ∧ ((getT b).2 = 8 ∨ (getT b).2 = 6) := by
  unfold getT at *
  by_cases h0 : classN b = 0
  · rw [if_pos h0]; exact ⟨rfl, .inl rfl⟩
  · rw [if_neg h0] at h ⊢
    by_cases h1 : classN b = 1
    · rw [if_pos h1] at h ⊢
      split
      · rename_i h2; rw [if_pos h2] at h; exact absurd rfl h
      · exact ⟨rfl, .inr rfl⟩
    · rw [if_neg h1]; exact ⟨rfl, .inr rfl⟩
theorem getT_class {b : List UInt8} : (classN b = 0 → getT b = (zeroT, 8)) ∧ (classN b = 2 → getT b = (zeroT, 6)) ∧ ((getT b).2 = 0 → (getT b).1.May ∧ (getT b).1.page = b) ∧ (classN b = 1 → (getT b).2 = 0 ∨ getT b = (zeroT, 6)) := by
  refine ⟨fun h => by unfold getT; rw [if_pos h], fun h => by unfold getT; rw [if_neg (by omega), if_neg (by omega)], fun h => ?_, fun h => ?_⟩
  · unfold getT at *
    by_cases h0 : classN b = 0
    · rw [if_pos h0] at h; exact absurd h (by decide)
    · rw [if_neg h0] at h ⊢
      by_cases h1 : classN b = 1
      · rw [if_pos h1] at h ⊢
        by_cases h2 : (readT (headOf b) (dataOf b)).May ∧ (readT (headOf b) (dataOf b)).page = b
        · rw [if_pos h2]; exact h2
        · rw [if_neg h2] at h; exact absurd h (by decide)
      · rw [if_neg h1] at h; exact absurd h (by decide)
  · unfold getT
    rw [if_neg (by omega), if_pos h]
    by_cases h2 : (readT (headOf b) (dataOf b)).May ∧ (readT (headOf b) (dataOf b)).page = b
    · rw [if_pos h2]; exact .inl rfl
    · rw [if_neg h2]; exact .inr rfl

end Go.Proofs.YtigpplckddnghaaGreat
