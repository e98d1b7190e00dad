/-
  LAYER 19, CONTRACTS: cmp.Compare, cmp.Or, order.
-/
import Derived.Test.YtjdaoenapmjoeaaLtM
import Derived.Test.YtjdaoenapmjoeaaSoU2
import Derived.Shelf.SlSortCmp.KitK
import Derived.StillTailTactics
namespace Go.Proofs.Ytjdaoenapmjoeaa
open Go.RowKit
set_option maxRecDepth 8000

def cmpZ (x y : Int) : Int := if x < y then -1 else if y < x then 1 else 0
theorem nan3_u64 (x : Int) (W : World) : Calls Try.prog 63 #[.int .u64 x] W fun e w' => e = .returned (.bool false) ∧ W = w' := So.nan_u64 x W
theorem nan3_int (x : Int) (W : World) : Calls Try.prog 32 #[.int .i64 x] W fun e w' => e = .returned (.bool false) ∧ W = w' := by
  have h : (x != x) = false := by simp
  go_enter Try.func32, Try.ntmps32
  go_wp2
  go_ret
  exact ⟨rfl, rfl⟩
set_option maxHeartbeats 1000000 in
theorem cmp_u64 (x y : Int) (W : World) : Calls Try.prog 40 #[.int .u64 x, .int .u64 y] W fun e w' => e = .returned (.int .i64 (cmpZ x y)) ∧ W = w' := by
  have FX := hide (nan3_u64 x W)
  have FY := hide (nan3_u64 y W)
  obtain ⟨R, hR⟩ : ∃ R, cmpZ x y = R := ⟨_, rfl⟩
  rw [hR]
  have HR : Hid ((if x < y then -1 else if y < x then 1 else 0) = R) := hide hR
  clear hR
  go_enter Try.func40, Try.ntmps40
  go_wp2_with fail
  (with_reducible refine FX.out.mono ?_)
  rintro e w' ⟨rfl, rfl⟩
  go_wp2_with fail
  (with_reducible refine FY.out.mono ?_)
  rintro e w' ⟨rfl, rfl⟩
  by_cases h1 : x < y
  · have hr := HR.out
    rw [if_pos h1] at hr
    subst hr
    have b1 : decide (x < y) = true := decide_eq_true h1
    clear h1 HR
    go_wp2
    go_ret
    exact ⟨rfl, rfl⟩
  · have hr := HR.out
    rw [if_neg h1] at hr
    have b1 : decide (x < y) = false := decide_eq_false h1
    by_cases h2 : y < x
    · rw [if_pos h2] at hr
      subst hr
      have b2 : decide (y < x) = true := decide_eq_true h2
      clear h1 h2 HR
      go_wp2
      go_ret
      exact ⟨rfl, rfl⟩
    · rw [if_neg h2] at hr
      subst hr
      have b2 : decide (y < x) = false := decide_eq_false h2
      clear h1 h2 HR
      go_wp2
      go_ret
      exact ⟨rfl, rfl⟩
set_option maxHeartbeats 1000000 in
theorem cmp_int (x y : Int) (W : World) : Calls Try.prog 21 #[.int .i64 x, .int .i64 y] W fun e w' => e = .returned (.int .i64 (cmpZ x y)) ∧ W = w' := by
  have FX := hide (nan3_int x W)
  have FY := hide (nan3_int y W)
  obtain ⟨R, hR⟩ : ∃ R, cmpZ x y = R := ⟨_, rfl⟩
  rw [hR]
  have HR : Hid ((if x < y then -1 else if y < x then 1 else 0) = R) := hide hR
  clear hR
  go_enter Try.func21, Try.ntmps21
  go_wp2_with fail
  (with_reducible refine FX.out.mono ?_)
  rintro e w' ⟨rfl, rfl⟩
  go_wp2_with fail
  (with_reducible refine FY.out.mono ?_)
  rintro e w' ⟨rfl, rfl⟩
  by_cases h1 : x < y
  · have hr := HR.out
    rw [if_pos h1] at hr
    subst hr
    have b1 : decide (x < y) = true := decide_eq_true h1
    clear h1 HR
    go_wp2
    go_ret
    exact ⟨rfl, rfl⟩
  · have hr := HR.out
    rw [if_neg h1] at hr
    have b1 : decide (x < y) = false := decide_eq_false h1
    by_cases h2 : y < x
    · rw [if_pos h2] at hr
      subst hr
      have b2 : decide (y < x) = true := decide_eq_true h2
      clear h1 h2 HR
      go_wp2
      go_ret
      exact ⟨rfl, rfl⟩
    · rw [if_neg h2] at hr
      subst hr
      have b2 : decide (y < x) = false := decide_eq_false h2
      clear h1 h2 HR
      go_wp2
      go_ret
      exact ⟨rfl, rfl⟩
/-- The first one that is not 0. -/
def orZ : List Int → Int
  | [] => 0
  | z :: l => if z = 0 then orZ l else z
set_option maxHeartbeats 1000000 in
theorem or_int (A : Option Addr) (n c B : Nat) (l : List Int) (w : World) (hl : Lies w B A (nums .i64 l)) (hn : n = l.length) (hbig : n ≤ 1000) :
    Calls Try.prog 39 #[.slice A n c] w fun e w' => e = .returned (.int .i64 (orZ l)) ∧ w = w' := by
  have Hl := hide hl
  have Hn := hide hn
  have Hb := hide hbig
  obtain ⟨R, hR⟩ : ∃ R, orZ l = R := ⟨_, rfl⟩
  rw [hR]
  have HR : Hid (orZ (l.drop 0) = R) := hide hR
  clear hl hn hbig hR
  go_enter Try.func39, Try.ntmps39
  go_wp2
  go_loop [5, 8] (fun _ i => ∃ j : Nat, j ≤ n ∧ i = .int .i64 (j : Int) ∧ Hid (orZ (l.drop j) = R)) (fun _ i => n - (intOf i).toNat)
  case atStart => exact ⟨0, Nat.zero_le _, rfl, HR⟩
  case round =>
    clear HR
    obtain ⟨j, hj, rfl, HR⟩ := hrel
    by_cases hlt : j < n
    · have hlt' : (j : Int) < (n : Int) := by omega
      have hjl : j < l.length := by rw [← Hn.out]; exact hlt
      obtain ⟨a, rfl, hab, hca⟩ := Hl.out.num hjl
      have e1 : wrap64 ((j : Int) + 1) = ((j + 1 : Nat) : Int) := by have := Hb.out; unfold wrap64; omega
      have Hd := hide (show (if l.getD j 0 = 0 then orZ (l.drop (j + 1)) else l.getD j 0) = R by
        rw [← HR.out, List.drop_eq_getElem_cons hjl, orZ]
        simp [List.getD, List.getElem?_eq_getElem hjl])
      generalize l.getD j 0 = u at *
      clear hjl HR
      by_cases hz : u = 0
      · have Hq := hide (show orZ (l.drop (j + 1)) = R by have := Hd.out; rwa [if_pos hz] at this)
        subst hz
        clear Hd
        go_wp2
        go_round
        case rel => exact ⟨j + 1, hlt, congrArg (Value.int .i64) e1, Hq⟩
        case measure => first | exact measT hlt | exact measT2 e1 hlt
      · have hu : u = R := by have := Hd.out; rwa [if_neg hz] at this
        have hb : (u != 0) = true := bne_iff_ne.2 hz
        subst hu
        clear Hd
        go_wp2
        go_ret
        exact ⟨rfl, rfl⟩
    · obtain rfl : j = n := by omega
      have hu : 0 = R := by rw [← HR.out, List.drop_eq_nil_of_le (by rw [Hn.out]; exact Nat.le_refl _), orZ]
      subst hu
      go_wp2
      go_ret
      exact ⟨rfl, rfl⟩
/-- Which of two finds comes first. -/
def cmpO (a b : Fo) : Int := orZ [cmpZ b.op a.op, cmpZ a.x b.x, cmpZ a.y b.y]
set_option maxHeartbeats 4000000 in
theorem order_any (f g : Fo) (w : World) :
    Calls Try.prog 29 #[.agg f.cells.toArray, .agg g.cells.toArray] w fun e w' => e = .returned (.int .i64 (cmpO f g)) ∧ ∃ q os, w' = Sort.grow (w.drewN q) os := by
  unfold cmpO
  rcases f with ⟨fx, fy, kd, ix, ct, bt, op, lp, ln⟩
  rcases g with ⟨gx, gy, kd2, ix2, ct2, bt2, op2, lp2, ln2⟩
  have HX := hide (BoxO.new ⟨fx, fy, kd, ix, ct, bt, op, lp, ln⟩ w)
  have HY := hide (BoxO.new ⟨gx, gy, kd2, ix2, ct2, bt2, op2, lp2, ln2⟩ (w.alloc (.cells (Fo.cells ⟨fx, fy, kd, ix, ct, bt, op, lp, ln⟩).toArray 34)))
  have HX2 := hide (HX.out.below ((Below.refl _ _).alloc (Nat.le_refl _) (.cells (Fo.cells ⟨gx, gy, kd2, ix2, ct2, bt2, op2, lp2, ln2⟩).toArray 34)) (by simp))
  have HW : Hid (∃ q os, (w.alloc (.cells (Fo.cells ⟨fx, fy, kd, ix, ct, bt, op, lp, ln⟩).toArray 34)).alloc (.cells (Fo.cells ⟨gx, gy, kd2, ix2, ct2, bt2, op2, lp2, ln2⟩).toArray 34) = Sort.grow (w.drewN q) os) :=
    hide ⟨0, _, by rw [Sort.alloc_eq_grow, Sort.alloc_eq_grow, Sort.grow_grow]; rfl⟩
  rw [show (w.alloc (.cells (Fo.cells ⟨fx, fy, kd, ix, ct, bt, op, lp, ln⟩).toArray 34)).heap.size = w.heap.size + 1 by simp] at HY
  unfold Fo.cells at *
  dsimp only at *
  obtain ⟨z1, h1⟩ : ∃ z, cmpZ op2 op = z := ⟨_, rfl⟩
  obtain ⟨z2, h2⟩ : ∃ z, cmpZ fx gx = z := ⟨_, rfl⟩
  obtain ⟨z3, h3⟩ : ∃ z, cmpZ fy gy = z := ⟨_, rfl⟩
  have F1 := hide (fun W => cmp_u64 op2 op W)
  have F2 := hide (fun W => cmp_int fx gx W)
  have F3 := hide (fun W => cmp_int fy gy W)
  rw [h1] at F1 ⊢
  rw [h2] at F2 ⊢
  rw [h3] at F3 ⊢
  clear h1 h2 h3 HX
  go_enter Try.func29, Try.ntmps29
  go_upto_region 1 with fail
  generalize (w.alloc (.cells #[.int .i64 fx, .int .i64 fy, .int .i64 kd, .int .i64 ix, .int .i64 ct, .int .u64 bt, .int .u64 op, .int .i64 lp, .int .i64 ln] 34)).alloc (.cells #[.int .i64 gx, .int .i64 gy, .int .i64 kd2, .int .i64 ix2, .int .i64 ct2, .int .u64 bt2, .int .u64 op2, .int .i64 lp2, .int .i64 ln2] 34) = w2 at *
  have x0 : w2.drew.cell? ⟨w.heap.size, 0, none⟩ = _ := HX2.out.c 0 _ rfl
  have x1 : w2.drew.cell? ⟨w.heap.size, 1, none⟩ = _ := HX2.out.c 1 _ rfl
  have x6 : w2.drew.cell? ⟨w.heap.size, 6, none⟩ = _ := HX2.out.c 6 _ rfl
  have y0 : w2.drew.cell? ⟨w.heap.size + 1, 0, none⟩ = _ := HY.out.c 0 _ rfl
  have y1 : w2.drew.cell? ⟨w.heap.size + 1, 1, none⟩ = _ := HY.out.c 1 _ rfl
  have y6 : w2.drew.cell? ⟨w.heap.size + 1, 6, none⟩ = _ := HY.out.c 6 _ rfl
  have G1 := hide (Calls.back (F1.out w2.drew))
  have G2 := hide (Calls.back (F2.out w2.drew))
  have G3 := hide (Calls.back (F3.out w2.drew))
  refine wp_region_still_tail 21 (by kernel_rfl) (by kernel_rfl) ?_
  simp only [List.take_succ_cons, List.take_zero, List.drop_succ_cons, List.drop_zero]
  repeat still_step
  still_call G1.out
  repeat still_step
  still_call G2.out
  repeat still_step
  still_call G3.out
  repeat still_step
  refine wpStill_nil ?_
  change wpList _ _ _ _ _ w2.drew
  have FO := hide (or_int (some ⟨w2.drew.heap.size, 0, none⟩) 3 3 (w2.drew.heap.size + 1) [z1, z2, z3] (w2.drew.alloc (.cells #[.int .i64 z1, .int .i64 z2, .int .i64 z3] 3)) (Lies.new w2.drew #[.int .i64 z1, .int .i64 z2, .int .i64 z3] 3 (0, 0) _ (Nat.lt_succ_self _)) rfl (by decide))
  have HW2 : Hid (∃ q os, w2.drew.alloc (.cells #[.int .i64 z1, .int .i64 z2, .int .i64 z3] 3) = Sort.grow (w.drewN q) os) := hide (by
    obtain ⟨q, os, e⟩ := HW.out
    refine ⟨q + 1, os ++ #[.cells #[.int .i64 z1, .int .i64 z2, .int .i64 z3] 3], ?_⟩
    rw [e, Sort.alloc_eq_grow, Sort.drew_grow, Sort.grow_grow]; rfl)
  clear x0 x1 x6 y0 y1 y6 G1 G2 G3 HX2 HY HW
  generalize w2.drew = w3 at *
  go_wp2_with fail
  (with_reducible refine FO.out.mono ?_)
  rintro e w4 ⟨rfl, rfl⟩
  go_wp2
  go_ret
  exact ⟨rfl, HW2.out⟩
end Go.Proofs.Ytjdaoenapmjoeaa
