/-
  THE REFERENCE's Same of bundles (wagtailref11).
-/
import Derived.Test.YtlbgcbekjjkokaaEq31
import Derived.BigQuiet
namespace Go.Proofs.Ytlbgcbekjjkokaa
open Go.RowKit

def sameAll : List Bk → List Bk → Bool
  | x :: l, y :: m => x.eqB y && sameAll l m
  | _, _ => true
theorem sameAll_drop {l m : List Bk} {k : Nat} (h1 : k < l.length) (h2 : k < m.length) : sameAll (l.drop k) (m.drop k) = (l[k].eqB m[k] && sameAll (l.drop (k + 1)) (m.drop (k + 1))) := by
  rw [List.drop_eq_getElem_cons h1, List.drop_eq_getElem_cons h2]; rfl
theorem blk_cells {w : World} {p : Addr} {b : Bk} (h : ∀ j v, b.cells[j]? = some v → w.cell? (p.add j) = some v) :
    w.cell? p = some (.int .u64 (b.ty : Int)) ∧ w.cell? ⟨p.block, p.off + 1, none⟩ = some (.int .u64 (b.num : Int)) ∧ w.cell? ⟨p.block, p.off + 2, none⟩ = some (.int .u64 (b.fl : Int)) ∧ w.cell? ⟨p.block, p.off + 3, none⟩ = some (.int .i64 b.crc) ∧ w.cell? ⟨p.block, p.off + 4, none⟩ = some (.string b.data) :=
  ⟨h 0 _ rfl, h 1 _ rfl, h 2 _ rfl, h 3 _ rfl, h 4 _ rfl⟩
def Bn.sameN (x y : Bn) : Bool := x.p.eqB y.p && (x.pay.eqB y.pay && (decide (x.n = y.n) && sameAll x.bs y.bs))

set_option maxRecDepth 100000 in
set_option maxHeartbeats 4000000 in
theorem rsame_any (x y : Bn) (B : Nat) (w : World) (hx : Lies w B x.A (x.bs.flatMap Bk.cells)) (hy : Lies w B y.A (y.bs.flatMap Bk.cells)) (hxn : x.n = x.bs.length) (hyn : y.n = y.bs.length) (hB : B ≤ w.heap.size) (hbig : x.n ≤ 1000000) :
    Calls Try.prog 11 #[x.val, y.val] w fun e w' => e = .returned (.bool (x.sameN y)) ∧ Below w.heap.size w w' := by
  obtain ⟨z, hz⟩ : ∃ z, z = x.sameN y := ⟨_, rfl⟩
  rw [← hz]
  have Hz := hide hz
  clear hz
  unfold Bn.sameN at Hz
  have hs1 : (w.alloc (.cells x.cells.toArray 33)).heap.size = w.heap.size + 1 := by simp
  have hs2 : ((w.alloc (.cells x.cells.toArray 33)).alloc (.cells y.cells.toArray 33)).heap.size = w.heap.size + 2 := by simp
  have RX := hide (range_alloc (range_new w x.cells 33 (0, 0)) (by omega) (.cells y.cells.toArray 33))
  have RY := hide (show ((w.alloc (.cells x.cells.toArray 33)).alloc (.cells y.cells.toArray 33)).rangeAt (w.heap.size + 1) 0 y.cells from by have := range_new (w.alloc (.cells x.cells.toArray 33)) y.cells 33 (0, 0); rwa [hs1] at this)
  have RXP := hide (range_p RX.out)
  have RYP := hide (range_p RY.out)
  have RXY := hide (range_pay RX.out)
  have RYY := hide (range_pay RY.out)
  have HB := hide (((Below.refl w.heap.size w).alloc (Nat.le_refl _) (.cells x.cells.toArray 33)).alloc (by omega) (.cells y.cells.toArray 33))
  have Q28 := hide (fun W => neq28 x.p y.p W)
  have Q31 := hide (fun W => neq31 x.pay y.pay W)
  have hm28 : Try.prog.eqGuardType Try.prog.depth 28 = false := by kernel_rfl
  have hm31 : Try.prog.eqGuardType Try.prog.depth 31 = false := by kernel_rfl
  have cx19 := RX.out 19 _ rfl
  have cy19 := RY.out 19 _ rfl
  simp only [Nat.zero_add] at cx19 cy19
  have Hx := hide hx
  have Hy := hide hy
  have Hxn := hide hxn
  have Hyn := hide hyn
  clear hx hy hxn hyn
  generalize x.p.eqB y.p = b1 at *
  generalize x.pay.eqB y.pay = b2 at *
  have q28 := Q28.out
  have q31 := Q31.out
  simp only [Bn.val]
  go_enter Try.func11, Try.ntmps11
  go_upto_region 1 with fail
  have hz2 : w.heap.size + 2 ≤ ((w.alloc (.cells x.cells.toArray 33)).alloc (.cells y.cells.toArray 33)).heap.size := by omega
  clear hs1 hs2 Q28 Q31
  generalize ((w.alloc (.cells x.cells.toArray 33)).alloc (.cells y.cells.toArray 33)) = w2 at *
  generalize Value.agg x.cells.toArray = V0 at *
  generalize Value.agg y.cells.toArray = V1 at *
  have g28 := fun W => run_eqGuard_agg (P := Try.prog) W .neq 28 (.tmp 7) (.tmp 9) x.p.cells.toArray y.p.cells.toArray hm28
  have g31 := fun W => run_eqGuard_agg (P := Try.prog) W .neq 31 (.tmp 13) (.tmp 15) x.pay.cells.toArray y.pay.cells.toArray hm31
  cases b1 with
  | false =>
    obtain rfl : z = false := Hz.out
    clear Hz
    go_wp2_with (first
        | (with_reducible refine wpl_load_mid rfl 28 (.tmp 6) rfl (w.heap.size) 0 _ RXP.out rfl _ Try.underlying28 rfl 19 info28 (by with_unfolding_all rfl) ?_)
        | (with_reducible refine wpl_load_mid rfl 28 (.tmp 8) rfl (w.heap.size + 1) 0 _ RYP.out rfl _ Try.underlying28 rfl 19 info28 (by with_unfolding_all rfl) ?_)
        | (with_reducible refine wpl_load_want ?_ 31 (.tmp 12) rfl (w.heap.size) 20 _ RXY.out rfl _ Try.underlying31 rfl 5 info31 (by with_unfolding_all rfl) ?_)
        | (with_reducible refine wpl_load_want ?_ 31 (.tmp 14) rfl (w.heap.size + 1) 20 _ RYY.out rfl _ Try.underlying31 rfl 5 info31 (by with_unfolding_all rfl) ?_))
    go_ret
    exact ⟨rfl, HB.out⟩
  | true =>
    cases b2 with
    | false =>
      obtain rfl : z = false := Hz.out
      clear Hz
      go_wp2_with (first
        | (with_reducible refine wpl_load_mid rfl 28 (.tmp 6) rfl (w.heap.size) 0 _ RXP.out rfl _ Try.underlying28 rfl 19 info28 (by with_unfolding_all rfl) ?_)
        | (with_reducible refine wpl_load_mid rfl 28 (.tmp 8) rfl (w.heap.size + 1) 0 _ RYP.out rfl _ Try.underlying28 rfl 19 info28 (by with_unfolding_all rfl) ?_)
        | (with_reducible refine wpl_load_want ?_ 31 (.tmp 12) rfl (w.heap.size) 20 _ RXY.out rfl _ Try.underlying31 rfl 5 info31 (by with_unfolding_all rfl) ?_)
        | (with_reducible refine wpl_load_want ?_ 31 (.tmp 14) rfl (w.heap.size + 1) 20 _ RYY.out rfl _ Try.underlying31 rfl 5 info31 (by with_unfolding_all rfl) ?_))
      go_ret
      exact ⟨rfl, HB.out⟩
    | true =>
      by_cases hnn : x.n = y.n
      · have hnn' : ((x.n : Int) != (y.n : Int)) = false := by rw [hnn]; simp
        have Hz2 := hide (show z = sameAll x.bs y.bs by have := Hz.out; rw [decide_eq_true hnn] at this; exact this)
        clear Hz
        go_wp2_with (first
        | (with_reducible refine wpl_load_mid rfl 28 (.tmp 6) rfl (w.heap.size) 0 _ RXP.out rfl _ Try.underlying28 rfl 19 info28 (by with_unfolding_all rfl) ?_)
        | (with_reducible refine wpl_load_mid rfl 28 (.tmp 8) rfl (w.heap.size + 1) 0 _ RYP.out rfl _ Try.underlying28 rfl 19 info28 (by with_unfolding_all rfl) ?_)
        | (with_reducible refine wpl_load_want ?_ 31 (.tmp 12) rfl (w.heap.size) 20 _ RXY.out rfl _ Try.underlying31 rfl 5 info31 (by with_unfolding_all rfl) ?_)
        | (with_reducible refine wpl_load_want ?_ 31 (.tmp 14) rfl (w.heap.size + 1) 20 _ RYY.out rfl _ Try.underlying31 rfl 5 info31 (by with_unfolding_all rfl) ?_))
        clear q28 q31 g28 g31
        go_loopw [5] (fun s5 wr => ∃ k : Nat, k ≤ x.n ∧ s5 = .int .i64 (k : Int) ∧ Below w2.heap.size w2 wr ∧ Hid (z = sameAll (x.bs.drop k) (y.bs.drop k))) (fun s5 wr => x.n - (intOf s5).toNat)
        case atStart => exact ⟨0, Nat.zero_le _, rfl, Below.refl _ _, hide (by rw [List.drop_zero, List.drop_zero]; exact Hz2.out)⟩
        case round =>
          obtain ⟨k, hk, rfl, hb, HK⟩ := hrel
          have Hb := hide hb
          have dx19 : wr.cell? ⟨w.heap.size, 19, none⟩ = some (.slice x.A x.n x.c) := (hb.cell (p := ⟨w.heap.size, 19, none⟩) (show w.heap.size < w2.heap.size by omega)).trans cx19
          have dy19 : wr.cell? ⟨w.heap.size + 1, 19, none⟩ = some (.slice y.A y.n y.c) := (hb.cell (p := ⟨w.heap.size + 1, 19, none⟩) (show w.heap.size + 1 < w2.heap.size by omega)).trans cy19
          have HBr := hide (HB.out.trans (hb.mono (by omega)))
          clear hb
          by_cases hlt : k < x.n
          · have hlt' : (k : Int) < (x.n : Int) := by omega
            have hlty : (k : Int) < (y.n : Int) := by omega
            have hkx : k < x.bs.length := by rw [← Hxn.out]; exact hlt
            have hky : k < y.bs.length := by rw [← Hyn.out, ← hnn]; exact hlt
            obtain ⟨a, ha, _, hca⟩ := (Hx.out.below (HBr.out.mono hB)).elem (f := Bk.cells) (m := 5) Bk.cells_len hkx (by omega)
            obtain ⟨a', ha', _, hca'⟩ := (Hy.out.below (HBr.out.mono hB)).elem (f := Bk.cells) (m := 5) Bk.cells_len hky (by omega)
            rw [ha] at dx19
            rw [ha'] at dy19
            obtain ⟨f0, f1, f2, f3, f4⟩ := blk_cells hca
            obtain ⟨e0, e1, e2, e3, e4⟩ := blk_cells hca'
            have q := fun W => neq31 x.bs[k] y.bs[k] W
            have Hst := hide (show z = (x.bs[k].eqB y.bs[k] && sameAll (x.bs.drop (k + 1)) (y.bs.drop (k + 1))) by rw [← sameAll_drop hkx hky]; exact HK.out)
            have hq1 := fun W (p q : Operand) X Y => run_eqGuard_agg (P := Try.prog) W .neq 31 p q X Y hm31
            clear hca hca' HK Hz2
            simp only [Bk.cells] at q
            generalize x.bs[k].eqB y.bs[k] = b3 at *
            generalize x.bs[k] = u at *
            generalize y.bs[k] = v at *
            rcases u with ⟨u0, u1, u2, u3, u4⟩
            rcases v with ⟨v0, v1, v2, v3, v4⟩
            simp only at f0 f1 f2 f3 f4 e0 e1 e2 e3 e4 q
            cases b3 with
            | true =>
              have Hst2 := hide (show z = sameAll (x.bs.drop (k + 1)) (y.bs.drop (k + 1)) from Hst.out)
              clear Hst
              go_wp2_with (go_quiet (fail))
              go_roundw
              case rel => exact ⟨k + 1, by omega, by go_num, bel_drewN Hb.out _, Hst2⟩
              case measure => simp [intOf]; omega
            | false =>
              obtain rfl : z = false := Hst.out
              clear Hst
              go_wp2_with (go_quiet (fail))
              go_ret
              exact ⟨rfl, bel_drewN HBr.out _⟩
          · have hlt' : ¬ (k : Int) < (x.n : Int) := by omega
            obtain rfl : z = true := by rw [HK.out, List.drop_eq_nil_of_le (by have := Hxn.out; omega)]; rfl
            clear HK Hz2
            go_wp2
            go_ret
            exact ⟨rfl, HBr.out⟩
      · have hnn' : ((x.n : Int) != (y.n : Int)) = true := by rw [bne, beq_eq_false_iff_ne.2 (show (x.n : Int) ≠ (y.n : Int) by omega)]; rfl
        obtain rfl : z = false := by have := Hz.out; rw [decide_eq_false hnn] at this; exact this
        clear Hz hnn
        go_wp2_with (first
        | (with_reducible refine wpl_load_mid rfl 28 (.tmp 6) rfl (w.heap.size) 0 _ RXP.out rfl _ Try.underlying28 rfl 19 info28 (by with_unfolding_all rfl) ?_)
        | (with_reducible refine wpl_load_mid rfl 28 (.tmp 8) rfl (w.heap.size + 1) 0 _ RYP.out rfl _ Try.underlying28 rfl 19 info28 (by with_unfolding_all rfl) ?_)
        | (with_reducible refine wpl_load_want ?_ 31 (.tmp 12) rfl (w.heap.size) 20 _ RXY.out rfl _ Try.underlying31 rfl 5 info31 (by with_unfolding_all rfl) ?_)
        | (with_reducible refine wpl_load_want ?_ 31 (.tmp 14) rfl (w.heap.size + 1) 20 _ RYY.out rfl _ Try.underlying31 rfl 5 info31 (by with_unfolding_all rfl) ?_))
        go_ret
        exact ⟨rfl, HB.out⟩

end Go.Proofs.Ytlbgcbekjjkokaa
