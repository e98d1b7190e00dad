/-
  'l[j:]' AND 'l[:j]' OF A ROW THAT LIES: laws at the list of operations. Nothing here speaks of one function.
-/
import Derived.Test.YtpepifbdndcbjaaElem
namespace Go.Proofs.Ytpepifbdndcbjaa
open Go.RowKit

/-- 'l[:j]'. -/
theorem wpl_slice_h {P : Program} {ops : Array Oper} {rest : List Oper} {op : Oper} {a : Act} {w : World} {Q : Exit → Act → World → Prop} (hgd : op.guard = none) (t e : TypeId) (x k : Operand) (ho : op.op = .slice t x none (some k) none)
    (A : Option Addr) (n c j m : Nat) (hx : a.eval x = .slice A n c) (hk : a.eval k = .int .i64 (j : Int)) (hj : j ≤ n) (hc : n ≤ c) (ht : P.underlying t = some (.slice (P.elem t))) (he : P.elem t = e) (hi : (P.info? e).map (·.size) = some m)
    (h : wpList P ops Q rest (a.put op.dst (.slice A j c)) w) : wpList P ops Q (op :: rest) a w := by
  have hs : (sizeOf (P.elem t)).run P w = .ok m w := by
    rw [he]
    cases hq : P.info? e with
    | none => simp [hq] at hi
    | some i => simp [hq] at hi; simp [sizeOf, typeInfo, hq, Sem.run_bind, hi]
  have ha : (if c = 0 then A else A.map (·.add (0 * m))) = A := by
    by_cases h0 : c = 0
    · rw [if_pos h0]
    · rw [if_neg h0]; cases A <;> simp [Addr.add]
  have hrun : (Instr.sliceAt t (.slice A n c) none (some (.int .i64 (j : Int))) none).run P w = .ok (.slice A j c) w := by
    rw [run_sliceAt_slice w t _ _ _ _ ht, run_slice_h w t A n c ht .i64 (j : Int) (Int.natCast_nonneg j) (by omega), hs]
    simp only [Result.andThen_ok, sliced, Nat.sub_zero, Int.toNat_natCast, ha]
  refine wpList_plain hgd fun K hK => ?_
  unfold Oper.wp execOp
  simp only [ho, hx, hk, Option.map_some, Option.map_none, Sem.run_bind, hrun, Result.andThen_ok, Sem.run_pure]
  exact hK _ _ h
end Go.Proofs.Ytpepifbdndcbjaa
