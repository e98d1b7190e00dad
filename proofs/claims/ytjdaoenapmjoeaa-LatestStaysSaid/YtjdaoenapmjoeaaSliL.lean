/-
  LAYER 19, THE REFERENCE: Less, Of.
  'l[j:]' AND 'l[:j]' OF A ROW THAT LIES: laws at the list of operations. Nothing here speaks of one function.
-/
import Derived.Test.YtjdaoenapmjoeaaLtO
import Derived.Test.YtjdaoenapmjoeaaElem
namespace Go.Proofs.Ytjdaoenapmjoeaa
section
open Go.RowKit
set_option maxRecDepth 8000

/-- Is a copy ahead of another one? -/
def lessO (f g : Fo) : Bool := if f.op = g.op then (if f.x = g.x then decide (f.y < g.y) else decide (f.x < g.x)) else decide (g.op < f.op)
set_option maxHeartbeats 4000000 in
theorem less_any (f g : Fo) (w : World) :
    Calls Try.prog 16 #[.agg f.cells.toArray, .agg g.cells.toArray] w fun e w' => e = .returned (.bool (lessO f g)) ∧ ∃ q os, w' = Sort.grow (w.drewN q) os := by
  unfold lessO
  rcases f with ⟨fx, fy, kd, ix, ct, bt, op, lp, ln⟩
  rcases g with ⟨gx, gy, kd2, ix2, ct2, bt2, op2, lp2, ln2⟩
  have HX := hide (BoxO.new ⟨fx, fy, kd, ix, ct, bt, op, lp, ln⟩ w)
  have HY := hide (BoxO.new ⟨gx, gy, kd2, ix2, ct2, bt2, op2, lp2, ln2⟩ (w.alloc (.cells (Fo.cells ⟨fx, fy, kd, ix, ct, bt, op, lp, ln⟩).toArray 34)))
  have HX2 := hide (HX.out.below ((Below.refl _ _).alloc (Nat.le_refl _) (.cells (Fo.cells ⟨gx, gy, kd2, ix2, ct2, bt2, op2, lp2, ln2⟩).toArray 34)) (by simp))
  have HB : Hid (∃ q os, (w.alloc (.cells (Fo.cells ⟨fx, fy, kd, ix, ct, bt, op, lp, ln⟩).toArray 34)).alloc (.cells (Fo.cells ⟨gx, gy, kd2, ix2, ct2, bt2, op2, lp2, ln2⟩).toArray 34) = Sort.grow (w.drewN q) os) :=
    hide ⟨0, _, by rw [Sort.alloc_eq_grow, Sort.alloc_eq_grow, Sort.grow_grow]; rfl⟩
  rw [show (w.alloc (.cells (Fo.cells ⟨fx, fy, kd, ix, ct, bt, op, lp, ln⟩).toArray 34)).heap.size = w.heap.size + 1 by simp] at HY
  clear HX
  unfold Fo.cells at *
  dsimp only at *
  obtain ⟨R, hR⟩ : ∃ R, (if op = op2 then (if fx = gx then decide (fy < gy) else decide (fx < gx)) else decide (op2 < op)) = R := ⟨_, rfl⟩
  rw [hR]
  have HR := hide hR
  clear hR
  go_enter Try.func16, Try.ntmps16
  go_upto_region 1 with fail
  generalize (w.alloc (.cells #[.int .i64 fx, .int .i64 fy, .int .i64 kd, .int .i64 ix, .int .i64 ct, .int .u64 bt, .int .u64 op, .int .i64 lp, .int .i64 ln] 34)).alloc (.cells #[.int .i64 gx, .int .i64 gy, .int .i64 kd2, .int .i64 ix2, .int .i64 ct2, .int .u64 bt2, .int .u64 op2, .int .i64 lp2, .int .i64 ln2] 34) = w2 at *
  have x0 := HX2.out.c 0 _ rfl
  have x1 := HX2.out.c 1 _ rfl
  have x6 := HX2.out.c 6 _ rfl
  have y0 := HY.out.c 0 _ rfl
  have y1 := HY.out.c 1 _ rfl
  have y6 := HY.out.c 6 _ rfl
  dsimp only at x0 x1 x6 y0 y1 y6
  by_cases h1 : op = op2
  · have g1 : (op == op2) = true := beq_iff_eq.2 h1
    have hr := HR.out
    rw [if_pos h1] at hr
    by_cases h2 : fx = gx
    · have g2 : (fx == gx) = true := beq_iff_eq.2 h2
      rw [if_pos h2] at hr
      have Hr := hide hr
      clear h1 h2 hr HR
      go_wp2
      go_ret
      exact ⟨ret_bool (by rw [← Hr.out]), HB.out⟩
    · have g2 : (fx == gx) = false := beq_eq_false_iff_ne.2 h2
      rw [if_neg h2] at hr
      have Hr := hide hr
      clear h1 h2 hr HR
      go_wp2
      go_ret
      exact ⟨ret_bool (by rw [← Hr.out]), HB.out⟩
  · have g1 : (op == op2) = false := beq_eq_false_iff_ne.2 h1
    have hr := HR.out
    rw [if_neg h1] at hr
    have Hr := hide hr
    clear h1 hr HR
    go_wp2
    go_ret
    exact ⟨ret_bool (by rw [← Hr.out]), HB.out⟩
end
section
open Go.RowKit

/-- 'l[j:]'. -/
theorem wpl_slice_l {P : Program} {ops : Array Oper} {rest : List Oper} {op : Oper} {a : Act} {w : World} {Q : Exit → Act → World → Prop} (hgd : op.guard = none) (t e : TypeId) (x k : Operand) (ho : op.op = .slice t x (some k) none none)
    (A : Option Addr) (n c j m : Nat) (hx : a.eval x = .slice A n c) (hk : a.eval k = .int .i64 (j : Int)) (hj : j ≤ n) (hc : n ≤ c) (ht : P.underlying t = some (.slice (P.elem t))) (he : P.elem t = e) (hi : (P.info? e).map (·.size) = some m)
    (h : ∀ A', (∀ (B : Nat) (W : World) (vs : List Value), Lies W B A vs → vs.length = n * m → Lies W B A' (vs.drop (j * m))) → wpList P ops Q rest (a.put op.dst (.slice A' (n - j) (c - j))) w) : wpList P ops Q (op :: rest) a w := by
  have hs : (sizeOf (P.elem t)).run P w = .ok m w := by
    rw [he]
    cases hq : P.info? e with
    | none => simp [hq] at hi
    | some i => simp [hq] at hi; simp [sizeOf, typeInfo, hq, Sem.run_bind, hi]
  have hrun : (Instr.sliceAt t (.slice A n c) (some (.int .i64 (j : Int))) none none).run P w = .ok (.slice (if c = j then A else A.map (·.add (j * m))) (n - j) (c - j)) w := by
    rw [run_sliceAt_slice w t _ _ _ _ ht, run_slice_l w t A n c ht .i64 (j : Int) (Int.natCast_nonneg j) (by omega), hs]
    simp [sliced]
  refine wpList_plain hgd fun K hK => ?_
  unfold Oper.wp execOp
  simp only [ho, hx, hk, Option.map_some, Option.map_none, Sem.run_bind, hrun, Result.andThen_ok, Sem.run_pure]
  refine hK _ _ (h _ fun B W vs hl hlen => ?_)
  by_cases hcj : c = j
  · rw [if_pos hcj]
    have : vs.drop (j * m) = [] := by
      rw [List.drop_eq_nil_iff, hlen]
      exact Nat.mul_le_mul_right m (by omega)
    rw [this]
    exact .inl rfl
  · rw [if_neg hcj]
    have h2 := hl.drop (j * m) (j * m + 1 + vs.length) (by omega)
    rwa [if_neg (by omega)] at h2
/-- 'l[:j]'. -/
theorem wpl_slice_h {P : Program} {ops : Array Oper} {rest : List Oper} {op : Oper} {a : Act} {w : World} {Q : Exit → Act → World → Prop} (hgd : op.guard = none) (t e : TypeId) (x k : Operand) (ho : op.op = .slice t x none (some k) none)
    (A : Option Addr) (n c j m : Nat) (hx : a.eval x = .slice A n c) (hk : a.eval k = .int .i64 (j : Int)) (hj : j ≤ n) (hc : n ≤ c) (ht : P.underlying t = some (.slice (P.elem t))) (he : P.elem t = e) (hi : (P.info? e).map (·.size) = some m)
    (h : wpList P ops Q rest (a.put op.dst (.slice A j c)) w) : wpList P ops Q (op :: rest) a w := by
  have hs : (sizeOf (P.elem t)).run P w = .ok m w := by
    rw [he]
    cases hq : P.info? e with
    | none => simp [hq] at hi
    | some i => simp [hq] at hi; simp [sizeOf, typeInfo, hq, Sem.run_bind, hi]
  have ha : (if c = 0 then A else A.map (·.add (0 * m))) = A := by
    by_cases h0 : c = 0
    · rw [if_pos h0]
    · rw [if_neg h0]; cases A <;> simp [Addr.add]
  have hrun : (Instr.sliceAt t (.slice A n c) none (some (.int .i64 (j : Int))) none).run P w = .ok (.slice A j c) w := by
    rw [run_sliceAt_slice w t _ _ _ _ ht, run_slice_h w t A n c ht .i64 (j : Int) (Int.natCast_nonneg j) (by omega), hs]
    simp only [Result.andThen_ok, sliced, Nat.sub_zero, Int.toNat_natCast, ha]
  refine wpList_plain hgd fun K hK => ?_
  unfold Oper.wp execOp
  simp only [ho, hx, hk, Option.map_some, Option.map_none, Sem.run_bind, hrun, Result.andThen_ok, Sem.run_pure]
  exact hK _ _ h
end
end Go.Proofs.Ytjdaoenapmjoeaa
