/-
  CONTRACTS: lists of numbers looked at (Has, Is, Index, Contains, Equal, Ints); both Same; IsBad, IsVoid, light. (By gen/TbE.gen.py.)
  CONTRACTS: both Same, IsBad, IsVoid, light. (By gen/TbF.gen.py.)
-/
import Derived.Test.YtigpplckddnghaaGreatTbD
namespace Go.Proofs.YtigpplckddnghaaGreat
open Go.RowKit
set_option maxRecDepth 8000

theorem drop_getD (l : List Int) (j : Nat) (h : j < l.length) : l.drop j = l.getD j 0 :: l.drop (j + 1) := by
  rw [List.drop_eq_getElem_cons h]; simp [List.getD, List.getElem?_eq_getElem h]

theorem has16_any (A : Option Addr) (n c B : Nat) (l : List Int) (z : Int) (w : World) (hl : Lies w B A (nums .i64 l)) (hn : n = l.length) (hbig : n ≤ 1000000) :
    Calls Tryz.prog 11 #[.slice A n c, .int .i64 z] w fun e w' => e = .returned (.bool (decide (z ∈ l))) ∧ w = w' := by
  have Hl := hide hl
  have Hn := hide hn
  obtain ⟨R, hR⟩ : ∃ R, R = decide (z ∈ l) := ⟨_, rfl⟩
  rw [← hR]
  have HR := hide hR
  clear hl hn hR
  go_enter Tryz.func11, Tryz.ntmps11
  go_wp2
  go_loop [5] (fun i => ∃ j : Nat, j ≤ n ∧ i = .int .i64 (j : Int) ∧ Hid (R = decide (z ∈ l.drop j))) (fun i => n - (intOf i).toNat)
  case atStart => exact ⟨0, Nat.zero_le _, rfl, hide (by rw [HR.out]; rfl)⟩
  case round =>
    obtain ⟨j, hj, rfl, hd⟩ := hrel
    by_cases hlt : j < n
    · have hjl : j < l.length := by rw [← Hn.out]; exact hlt
      have hlt' : (j : Int) < (n : Int) := by omega
      obtain ⟨a, rfl, hab, hca⟩ := Hl.out.num hjl
      have Hd := hide (drop_getD l j hjl)
      have e1 : wrap64 ((j : Int) + 1) = ((j + 1 : Nat) : Int) := by unfold wrap64; omega
      generalize l.getD j 0 = u at *
      clear hjl
      by_cases hz : u = z
      · subst hz
        have hR2 : R = true := by rw [hd.out, Hd.out]; simp
        go_wp2
        go_ret
        exact ⟨by first | rfl | exact ret_bool hR2.symm, rfl⟩
      · have hb : (u == z) = false := beq_eq_false_iff_ne.2 hz
        have Hnew := hide (show R = decide (z ∈ l.drop (j + 1)) by rw [hd.out, Hd.out]; exact decide_eq_decide.2 (by simp [Ne.symm hz]))
        go_wp2
        go_round
        case rel => exact ⟨j + 1, by omega, rfl, Hnew⟩
        case measure => simp [intOf]; omega
    · obtain rfl : j = n := by omega
      have hR2 : R = false := by rw [hd.out, List.drop_eq_nil_of_le (by rw [Hn.out]; exact Nat.le_refl _)]; rfl
      go_wp2
      go_ret
      exact ⟨by first | rfl | exact ret_bool hR2.symm, rfl⟩

set_option maxHeartbeats 1000000 in
theorem ints_any (A A2 : Option Addr) (n c n2 c2 B : Nat) (l m : List Int) (w : World) (hl : Lies w B A (nums .i64 l)) (hn : n = l.length) (hl2 : Lies w B A2 (nums .i64 m)) (hn2 : n2 = m.length) (hbig : n ≤ 1000000) (hB : B ≤ w.heap.size) :
    Calls Tryz.prog 40 #[.slice A n c, .slice A2 n2 c2] w fun e w' => e = .returned (.bool (decide (l = m))) ∧ Below w.heap.size w w' := by
  have Hl := hide hl
  have Hn := hide hn
  have Hl2 := hide hl2
  have Hn2 := hide hn2
  have HB := hide hB
  obtain ⟨R, hR⟩ : ∃ R, Hid (R = decide (l = m)) := ⟨_, hide rfl⟩
  rw [← hR.out]
  clear hl hn hl2 hn2 hB
  by_cases he : n = n2
  · subst he
    go_enter Tryz.func40, Tryz.ntmps40
    go_wp2
    go_loopw [5] (fun i wr => ∃ j : Nat, j ≤ n ∧ i = .int .i64 (j : Int) ∧ Hid (R = decide (l.drop j = m.drop j)) ∧ Hid (Below w.heap.size w wr)) (fun i _ => n - (intOf i).toNat)
    case atStart => exact ⟨0, Nat.zero_le _, rfl, hide (by rw [hR.out]; rfl), hide (Below.refl _ _)⟩
    case round =>
      obtain ⟨j, hj, rfl, hd, HW⟩ := hrel
      by_cases hlt : j < n
      · have hlt' : (j : Int) < (n : Int) := by omega
        have h1 : j < l.length := by rw [← Hn.out]; exact hlt
        have h2 : j < m.length := by rw [← Hn2.out]; exact hlt
        obtain ⟨a, rfl, _, hc⟩ := (Hl.out.below (HW.out.mono HB.out)).num h1
        obtain ⟨a2, rfl, _, hc2⟩ := (Hl2.out.below (HW.out.mono HB.out)).num h2
        have Hd := hide (drop_getD l j h1)
        have Hd2 := hide (drop_getD m j h2)
        have e1 : wrap64 ((j : Int) + 1) = ((j + 1 : Nat) : Int) := by unfold wrap64; omega
        generalize l.getD j 0 = x at *
        generalize m.getD j 0 = y at *
        clear h1 h2
        by_cases hxy : x = y
        · subst hxy
          have hb : (x != x) = false := by simp
          have Hnew := hide (show R = decide (l.drop (j + 1) = m.drop (j + 1)) by rw [hd.out, Hd.out, Hd2.out]; exact decide_eq_decide.2 (by simp))
          go_wp2
          go_quiet (fail)
          go_wp2
          go_roundw
          case rel => exact ⟨j + 1, by omega, rfl, Hnew, hide (bel_drewN HW.out _)⟩
          case measure => simp [intOf]; omega
        · have hb : (x != y) = true := bne_iff_ne.2 hxy
          have hR2 := hide (show R = false by rw [hd.out, Hd.out, Hd2.out]; exact decide_eq_false (fun h => hxy (by injection h)))
          go_wp2
          go_quiet (fail)
          go_wp2
          go_ret
          exact ⟨ret_bool hR2.out.symm, bel_drewN HW.out _⟩
      · obtain rfl : j = n := by omega
        have hR2 := hide (show R = true by rw [hd.out, List.drop_eq_nil_of_le (by rw [Hn.out]; exact Nat.le_refl _), List.drop_eq_nil_of_le (by rw [← Hn2.out]; exact Nat.le_refl _)]; rfl)
        go_wp2
        go_ret
        exact ⟨ret_bool hR2.out.symm, HW.out⟩
  · have hne : ((n : Int) != (n2 : Int)) = true := by rw [bne_iff_ne]; omega
    have hne2 : ¬ (n : Int) = (n2 : Int) := by omega
    have hR2 := hide (show R = false by rw [hR.out]; exact decide_eq_false (fun h => he (by rw [Hn.out, Hn2.out, h])))
    clear he
    go_enter Tryz.func40, Tryz.ntmps40
    go_wp2
    go_ret
    exact ⟨ret_bool hR2.out.symm, Below.refl _ _⟩

/-- Two tables in their boxes. -/
structure Two (w : World) (x y : Tl) (W : World) : Prop where
  bx : BoxT x w.heap.size W
  by_ : BoxT y (w.heap.size + 1) W
  below : Below w.heap.size w W
theorem Two.new (w : World) (x y : Tl) : Two w x y ((w.alloc (.cells x.cells.toArray 26)).alloc (.cells y.cells.toArray 26)) :=
  ⟨(BoxT.new x w).below ((Below.refl _ _).alloc (Nat.le_refl _) _) (BoxT.new x w).lt, by
    have := BoxT.new y (w.alloc (.cells x.cells.toArray 26))
    rwa [show (w.alloc (.cells x.cells.toArray 26)).heap.size = w.heap.size + 1 by simp] at this, ((Below.refl w.heap.size w).alloc (Nat.le_refl _) _).alloc (by simp) _⟩
theorem Two.later {w W W' : World} {x y : Tl} (h : Two w x y W) (hb : Below W.heap.size W W') : Two w x y W' := ⟨h.bx.below hb h.bx.lt, h.by_.below hb h.by_.lt, h.below.trans (hb.mono h.below.size)⟩
theorem measT {K Z : Nat} (h : K < Z) : Z - (intOf (.int .i64 ((K + 1 : Nat) : Int))).toNat < Z - (intOf (.int .i64 (K : Int))).toNat := by
  show Z - (((K + 1 : Nat) : Int)).toNat < Z - ((K : Int)).toNat
  rw [Int.toNat_natCast, Int.toNat_natCast]
  omega
theorem measT2 {K Z : Nat} {z : Int} (e : z = ((K + 1 : Nat) : Int)) (h : K < Z) : Z - (intOf (.int .i64 z)).toNat < Z - (intOf (.int .i64 (K : Int))).toNat := by
  rw [e]; exact measT h
theorem tb_eq {s t : Tb} (h0 : s.seq = t.seq) (h1 : s.bad = t.bad) (h2 : s.wear = t.wear) (h3 : s.void = t.void) : s = t := by
  cases s; cases t; simp_all

set_option maxHeartbeats 4000000 in
theorem same16_any (x y : Tl) (B : Nat) (w : World) (hx : x.Ok w B) (hy : y.Ok w B) (hf : x.Few) (hg : y.Few) (hB : B ≤ w.heap.size) : Calls Tryz.prog 16 #[x.val, y.val] w fun e w' => e = .returned (.bool (decide (x.t = y.t))) ∧ Below w.heap.size w w' := by
  have T0 := hide (Two.new w x y)
  have F1 := hide (fun W (hW : Below w.heap.size w W) => ints_any x.A1 y.A1 x.t.bad.length x.c1 y.t.bad.length y.c1 B x.t.bad y.t.bad W (hx.l1.below (hW.mono hB)) rfl (hy.l1.below (hW.mono hB)) rfl (by have := hf.f1; omega) (Nat.le_trans hB hW.size))
  have F2 := hide (fun W (hW : Below w.heap.size w W) => ints_any x.A2 y.A2 x.t.wear.length x.c2 y.t.wear.length y.c2 B x.t.wear y.t.wear W (hx.l2.below (hW.mono hB)) rfl (hy.l2.below (hW.mono hB)) rfl (by have := hf.f2; omega) (Nat.le_trans hB hW.size))
  have L3 := hide (fun W (hW : Below w.heap.size w W) => hx.l3.below (hW.mono hB))
  have M3 := hide (fun W (hW : Below w.heap.size w W) => hy.l3.below (hW.mono hB))
  have n3 := hf.f3
  have m3 := hg.f3
  have e0 : x.val = .agg #[.int .u64 (x.t.seq : Int), .slice x.A1 x.t.bad.length x.c1, .slice x.A2 x.t.wear.length x.c2, .slice x.A3 x.t.void.length x.c3] := rfl
  have e1 : x.cells.toArray = #[.int .u64 (x.t.seq : Int), .slice x.A1 x.t.bad.length x.c1, .slice x.A2 x.t.wear.length x.c2, .slice x.A3 x.t.void.length x.c3] := rfl
  have e2 : y.val = .agg #[.int .u64 (y.t.seq : Int), .slice y.A1 y.t.bad.length y.c1, .slice y.A2 y.t.wear.length y.c2, .slice y.A3 y.t.void.length y.c3] := rfl
  have e3 : y.cells.toArray = #[.int .u64 (y.t.seq : Int), .slice y.A1 y.t.bad.length y.c1, .slice y.A2 y.t.wear.length y.c2, .slice y.A3 y.t.void.length y.c3] := rfl
  rw [e0, e2]
  rw [e1, e3] at T0
  obtain ⟨R, hR⟩ : ∃ R, Hid (R = decide (x.t = y.t)) := ⟨_, hide rfl⟩
  rw [← hR.out]
  clear hx hy hf hg hB e0 e1 e2 e3
  by_cases h0 : x.t.seq = y.t.seq
  · by_cases h1 : x.t.bad = y.t.bad
    · by_cases h2 : x.t.wear = y.t.wear
      · by_cases h3 : x.t.void.length = y.t.void.length
        · have s2 : (x.t.seq : Int) = (y.t.seq : Int) := by omega
          have z0 : ((x.t.seq : Int) != (y.t.seq : Int)) = false := by rw [s2]; simp
          clear s2
          obtain ⟨n, hn⟩ : ∃ n, Hid (n = x.t.void.length) := ⟨_, hide rfl⟩
          have hq : ((x.t.void.length : Int) != (y.t.void.length : Int)) = false := by rw [h3]; simp
          rw [decide_eq_true h1] at F1
          rw [decide_eq_true h2] at F2
          have hyes : True := trivial
          try (have H0 := hide h0)
          try clear h0
          try (have H1 := hide h1)
          try clear h1
          try (have H2 := hide h2)
          try clear h2
          try (have H3 := hide h3)
          try clear h3
          go_enter Tryz.func16, Tryz.ntmps16
          go_upto_region 1 with fail
          generalize hw1 : (w.alloc (.cells #[.int .u64 (x.t.seq : Int), .slice x.A1 x.t.bad.length x.c1, .slice x.A2 x.t.wear.length x.c2, .slice x.A3 x.t.void.length x.c3] 26)).alloc (.cells #[.int .u64 (y.t.seq : Int), .slice y.A1 y.t.bad.length y.c1, .slice y.A2 y.t.wear.length y.c2, .slice y.A3 y.t.void.length y.c3] 26) = w1 at *
          have T1 : Hid (Two w x y w1) := T0
          clear T0 hw1
          have cx0 := T1.out.bx.c 0 _ rfl
          have cx1 := T1.out.bx.c 1 _ rfl
          have cx2 := T1.out.bx.c 2 _ rfl
          have cx3 := T1.out.bx.c 3 _ rfl
          have cy0 := T1.out.by_.c 0 _ rfl
          have cy1 := T1.out.by_.c 1 _ rfl
          have cy2 := T1.out.by_.c 2 _ rfl
          have cy3 := T1.out.by_.c 3 _ rfl
          go_wp2_with fail
          (with_reducible refine (F1.out _ T1.out.below).mono ?_)
          rintro e w2 ⟨rfl, hb⟩
          have T2 := hide (T1.out.later hb)
          clear hb
          clear cx0 cx1 cx2 cx3 cy0 cy1 cy2 cy3
          have cx0 := T2.out.bx.c 0 _ rfl
          have cx1 := T2.out.bx.c 1 _ rfl
          have cx2 := T2.out.bx.c 2 _ rfl
          have cx3 := T2.out.bx.c 3 _ rfl
          have cy0 := T2.out.by_.c 0 _ rfl
          have cy1 := T2.out.by_.c 1 _ rfl
          have cy2 := T2.out.by_.c 2 _ rfl
          have cy3 := T2.out.by_.c 3 _ rfl
          go_wp2_with fail
          (with_reducible refine (F2.out _ T2.out.below).mono ?_)
          rintro e w3 ⟨rfl, hb⟩
          have T3 := hide (T2.out.later hb)
          clear hb
          clear cx0 cx1 cx2 cx3 cy0 cy1 cy2 cy3
          have cx0 := T3.out.bx.c 0 _ rfl
          have cx1 := T3.out.bx.c 1 _ rfl
          have cx2 := T3.out.bx.c 2 _ rfl
          have cx3 := T3.out.bx.c 3 _ rfl
          have cy0 := T3.out.by_.c 0 _ rfl
          have cy1 := T3.out.by_.c 1 _ rfl
          have cy2 := T3.out.by_.c 2 _ rfl
          have cy3 := T3.out.by_.c 3 _ rfl
          go_wp2
          clear cx0 cx1 cx2 cx3 cy0 cy1 cy2 cy3
          clear hq
          go_loopw [5] (fun i wr => ∃ j : Nat, j ≤ n ∧ i = .int .i64 (j : Int) ∧ Hid (R = decide (x.t.void.drop j = y.t.void.drop j)) ∧ Hid (Two w x y wr)) (fun i _ => n - (intOf i).toNat)
          case atStart => exact ⟨0, Nat.zero_le _, rfl, hide (by rw [hR.out]; exact decide_eq_decide.2 ⟨fun h => by rw [h], fun h => tb_eq H0.out H1.out H2.out h⟩), T3⟩
          case round =>
            obtain ⟨j, hj, rfl, hd, HT⟩ := hrel
            have cx := HT.out.bx.c 3 (.slice x.A3 n x.c3) (by rw [hn.out]; rfl)
            have cy := HT.out.by_.c 3 (.slice y.A3 n y.c3) (by rw [hn.out, H3.out]; rfl)
            by_cases hlt : j < n
            · have hlt' : (j : Int) < (n : Int) := by omega
              have q1 : j < x.t.void.length := by rw [← hn.out]; exact hlt
              have q2 : j < y.t.void.length := by rw [← H3.out]; exact q1
              obtain ⟨a, ha, _, hc⟩ := (L3.out _ HT.out.below).num q1
              obtain ⟨a2, ha2, _, hc2⟩ := (M3.out _ HT.out.below).num q2
              rw [ha] at cx
              rw [ha2] at cy
              have Hd := hide (drop_getD x.t.void j q1)
              have Hd2 := hide (drop_getD y.t.void j q2)
              have e1 : wrap64 ((j : Int) + 1) = ((j + 1 : Nat) : Int) := by unfold wrap64; omega
              generalize x.t.void.getD j 0 = u at *
              generalize y.t.void.getD j 0 = v at *
              clear q1 q2
              by_cases huv : u = v
              · subst huv
                have hb : (u != u) = false := by simp
                have Hnew := hide (show R = decide (x.t.void.drop (j + 1) = y.t.void.drop (j + 1)) by rw [hd.out, Hd.out, Hd2.out]; exact decide_eq_decide.2 (by simp))
                go_wp2
                go_quiet (fail)
                go_wp2
                go_roundw
                case rel => exact ⟨j + 1, hlt, congrArg (Value.int .i64) e1, Hnew, hide (HT.out.later (bel_drewN (Below.refl _ _) _))⟩
                case measure => first | exact measT hlt | exact measT2 e1 hlt
              · have hb : (u != v) = true := bne_iff_ne.2 huv
                have hR2 := hide (show R = false by rw [hd.out, Hd.out, Hd2.out]; exact decide_eq_false (fun h => huv (by injection h)))
                go_wp2
                go_quiet (fail)
                go_wp2
                go_ret
                exact ⟨ret_bool hR2.out.symm, bel_drewN HT.out.below _⟩
            · obtain rfl : j = n := by omega
              have hR2 := hide (show R = true by rw [hd.out, List.drop_eq_nil_of_le (by rw [hn.out]; exact Nat.le_refl _), List.drop_eq_nil_of_le (by rw [hn.out, H3.out]; exact Nat.le_refl _)]; rfl)
              go_wp2
              go_ret
              exact ⟨ret_bool hR2.out.symm, HT.out.below⟩
        · have s2 : (x.t.seq : Int) = (y.t.seq : Int) := by omega
          have z0 : ((x.t.seq : Int) != (y.t.seq : Int)) = false := by rw [s2]; simp
          clear s2
          have hR2 := hide (show R = false by rw [hR.out]; exact decide_eq_false (fun h => h3 (by rw [h])))
          have hne : ((x.t.void.length : Int) != (y.t.void.length : Int)) = true := bne_iff_ne.2 (fun h => h3 (by omega))
          have hne2 : ¬ (x.t.void.length : Int) = (y.t.void.length : Int) := fun h => h3 (by omega)
          rw [decide_eq_true h1] at F1
          rw [decide_eq_true h2] at F2
          have hyes : True := trivial
          try (have H0 := hide h0)
          try clear h0
          try (have H1 := hide h1)
          try clear h1
          try (have H2 := hide h2)
          try clear h2
          try (have H3 := hide h3)
          try clear h3
          go_enter Tryz.func16, Tryz.ntmps16
          go_upto_region 1 with fail
          generalize hw1 : (w.alloc (.cells #[.int .u64 (x.t.seq : Int), .slice x.A1 x.t.bad.length x.c1, .slice x.A2 x.t.wear.length x.c2, .slice x.A3 x.t.void.length x.c3] 26)).alloc (.cells #[.int .u64 (y.t.seq : Int), .slice y.A1 y.t.bad.length y.c1, .slice y.A2 y.t.wear.length y.c2, .slice y.A3 y.t.void.length y.c3] 26) = w1 at *
          have T1 : Hid (Two w x y w1) := T0
          clear T0 hw1
          have cx0 := T1.out.bx.c 0 _ rfl
          have cx1 := T1.out.bx.c 1 _ rfl
          have cx2 := T1.out.bx.c 2 _ rfl
          have cx3 := T1.out.bx.c 3 _ rfl
          have cy0 := T1.out.by_.c 0 _ rfl
          have cy1 := T1.out.by_.c 1 _ rfl
          have cy2 := T1.out.by_.c 2 _ rfl
          have cy3 := T1.out.by_.c 3 _ rfl
          go_wp2_with fail
          (with_reducible refine (F1.out _ T1.out.below).mono ?_)
          rintro e w2 ⟨rfl, hb⟩
          have T2 := hide (T1.out.later hb)
          clear hb
          clear cx0 cx1 cx2 cx3 cy0 cy1 cy2 cy3
          have cx0 := T2.out.bx.c 0 _ rfl
          have cx1 := T2.out.bx.c 1 _ rfl
          have cx2 := T2.out.bx.c 2 _ rfl
          have cx3 := T2.out.bx.c 3 _ rfl
          have cy0 := T2.out.by_.c 0 _ rfl
          have cy1 := T2.out.by_.c 1 _ rfl
          have cy2 := T2.out.by_.c 2 _ rfl
          have cy3 := T2.out.by_.c 3 _ rfl
          go_wp2_with fail
          (with_reducible refine (F2.out _ T2.out.below).mono ?_)
          rintro e w3 ⟨rfl, hb⟩
          have T3 := hide (T2.out.later hb)
          clear hb
          clear cx0 cx1 cx2 cx3 cy0 cy1 cy2 cy3
          have cx0 := T3.out.bx.c 0 _ rfl
          have cx1 := T3.out.bx.c 1 _ rfl
          have cx2 := T3.out.bx.c 2 _ rfl
          have cx3 := T3.out.bx.c 3 _ rfl
          have cy0 := T3.out.by_.c 0 _ rfl
          have cy1 := T3.out.by_.c 1 _ rfl
          have cy2 := T3.out.by_.c 2 _ rfl
          have cy3 := T3.out.by_.c 3 _ rfl
          go_wp2
          go_ret
          exact ⟨ret_bool hR2.out.symm, T3.out.below⟩

      · have s2 : (x.t.seq : Int) = (y.t.seq : Int) := by omega
        have z0 : ((x.t.seq : Int) != (y.t.seq : Int)) = false := by rw [s2]; simp
        clear s2
        have hR2 := hide (show R = false by rw [hR.out]; exact decide_eq_false (fun h => h2 (by rw [h])))
        rw [decide_eq_true h1] at F1
        rw [decide_eq_false h2] at F2
        have hyes : True := trivial
        try (have H0 := hide h0)
        try clear h0
        try (have H1 := hide h1)
        try clear h1
        try (have H2 := hide h2)
        try clear h2
        try (have H3 := hide h3)
        try clear h3
        go_enter Tryz.func16, Tryz.ntmps16
        go_upto_region 1 with fail
        generalize hw1 : (w.alloc (.cells #[.int .u64 (x.t.seq : Int), .slice x.A1 x.t.bad.length x.c1, .slice x.A2 x.t.wear.length x.c2, .slice x.A3 x.t.void.length x.c3] 26)).alloc (.cells #[.int .u64 (y.t.seq : Int), .slice y.A1 y.t.bad.length y.c1, .slice y.A2 y.t.wear.length y.c2, .slice y.A3 y.t.void.length y.c3] 26) = w1 at *
        have T1 : Hid (Two w x y w1) := T0
        clear T0 hw1
        have cx0 := T1.out.bx.c 0 _ rfl
        have cx1 := T1.out.bx.c 1 _ rfl
        have cx2 := T1.out.bx.c 2 _ rfl
        have cx3 := T1.out.bx.c 3 _ rfl
        have cy0 := T1.out.by_.c 0 _ rfl
        have cy1 := T1.out.by_.c 1 _ rfl
        have cy2 := T1.out.by_.c 2 _ rfl
        have cy3 := T1.out.by_.c 3 _ rfl
        go_wp2_with fail
        (with_reducible refine (F1.out _ T1.out.below).mono ?_)
        rintro e w2 ⟨rfl, hb⟩
        have T2 := hide (T1.out.later hb)
        clear hb
        clear cx0 cx1 cx2 cx3 cy0 cy1 cy2 cy3
        have cx0 := T2.out.bx.c 0 _ rfl
        have cx1 := T2.out.bx.c 1 _ rfl
        have cx2 := T2.out.bx.c 2 _ rfl
        have cx3 := T2.out.bx.c 3 _ rfl
        have cy0 := T2.out.by_.c 0 _ rfl
        have cy1 := T2.out.by_.c 1 _ rfl
        have cy2 := T2.out.by_.c 2 _ rfl
        have cy3 := T2.out.by_.c 3 _ rfl
        go_wp2_with fail
        (with_reducible refine (F2.out _ T2.out.below).mono ?_)
        rintro e w3 ⟨rfl, hb⟩
        have T3 := hide (T2.out.later hb)
        clear hb
        clear cx0 cx1 cx2 cx3 cy0 cy1 cy2 cy3
        have cx0 := T3.out.bx.c 0 _ rfl
        have cx1 := T3.out.bx.c 1 _ rfl
        have cx2 := T3.out.bx.c 2 _ rfl
        have cx3 := T3.out.bx.c 3 _ rfl
        have cy0 := T3.out.by_.c 0 _ rfl
        have cy1 := T3.out.by_.c 1 _ rfl
        have cy2 := T3.out.by_.c 2 _ rfl
        have cy3 := T3.out.by_.c 3 _ rfl
        go_wp2
        go_ret
        exact ⟨ret_bool hR2.out.symm, T3.out.below⟩

    · have s2 : (x.t.seq : Int) = (y.t.seq : Int) := by omega
      have z0 : ((x.t.seq : Int) != (y.t.seq : Int)) = false := by rw [s2]; simp
      clear s2
      have hR2 := hide (show R = false by rw [hR.out]; exact decide_eq_false (fun h => h1 (by rw [h])))
      rw [decide_eq_false h1] at F1
      have hyes : True := trivial
      try (have H0 := hide h0)
      try clear h0
      try (have H1 := hide h1)
      try clear h1
      try (have H2 := hide h2)
      try clear h2
      try (have H3 := hide h3)
      try clear h3
      go_enter Tryz.func16, Tryz.ntmps16
      go_upto_region 1 with fail
      generalize hw1 : (w.alloc (.cells #[.int .u64 (x.t.seq : Int), .slice x.A1 x.t.bad.length x.c1, .slice x.A2 x.t.wear.length x.c2, .slice x.A3 x.t.void.length x.c3] 26)).alloc (.cells #[.int .u64 (y.t.seq : Int), .slice y.A1 y.t.bad.length y.c1, .slice y.A2 y.t.wear.length y.c2, .slice y.A3 y.t.void.length y.c3] 26) = w1 at *
      have T1 : Hid (Two w x y w1) := T0
      clear T0 hw1
      have cx0 := T1.out.bx.c 0 _ rfl
      have cx1 := T1.out.bx.c 1 _ rfl
      have cx2 := T1.out.bx.c 2 _ rfl
      have cx3 := T1.out.bx.c 3 _ rfl
      have cy0 := T1.out.by_.c 0 _ rfl
      have cy1 := T1.out.by_.c 1 _ rfl
      have cy2 := T1.out.by_.c 2 _ rfl
      have cy3 := T1.out.by_.c 3 _ rfl
      go_wp2_with fail
      (with_reducible refine (F1.out _ T1.out.below).mono ?_)
      rintro e w2 ⟨rfl, hb⟩
      have T2 := hide (T1.out.later hb)
      clear hb
      clear cx0 cx1 cx2 cx3 cy0 cy1 cy2 cy3
      have cx0 := T2.out.bx.c 0 _ rfl
      have cx1 := T2.out.bx.c 1 _ rfl
      have cx2 := T2.out.bx.c 2 _ rfl
      have cx3 := T2.out.bx.c 3 _ rfl
      have cy0 := T2.out.by_.c 0 _ rfl
      have cy1 := T2.out.by_.c 1 _ rfl
      have cy2 := T2.out.by_.c 2 _ rfl
      have cy3 := T2.out.by_.c 3 _ rfl
      go_wp2
      go_ret
      exact ⟨ret_bool hR2.out.symm, T2.out.below⟩

  · have hR2 := hide (show R = false by rw [hR.out]; exact decide_eq_false (fun h => h0 (by rw [h])))
    have s0 : (((x.t.seq : Int) != (y.t.seq : Int))) = true := bne_iff_ne.2 (fun h => h0 (by omega))
    have s1 : ¬ (x.t.seq : Int) = (y.t.seq : Int) := fun h => h0 (by omega)
    clear h0 F1 F2
    have hyes : True := trivial
    try (have H0 := hide h0)
    try clear h0
    try (have H1 := hide h1)
    try clear h1
    try (have H2 := hide h2)
    try clear h2
    try (have H3 := hide h3)
    try clear h3
    go_enter Tryz.func16, Tryz.ntmps16
    go_upto_region 1 with fail
    generalize hw1 : (w.alloc (.cells #[.int .u64 (x.t.seq : Int), .slice x.A1 x.t.bad.length x.c1, .slice x.A2 x.t.wear.length x.c2, .slice x.A3 x.t.void.length x.c3] 26)).alloc (.cells #[.int .u64 (y.t.seq : Int), .slice y.A1 y.t.bad.length y.c1, .slice y.A2 y.t.wear.length y.c2, .slice y.A3 y.t.void.length y.c3] 26) = w1 at *
    have T1 : Hid (Two w x y w1) := T0
    clear T0 hw1
    have cx0 := T1.out.bx.c 0 _ rfl
    have cx1 := T1.out.bx.c 1 _ rfl
    have cx2 := T1.out.bx.c 2 _ rfl
    have cx3 := T1.out.bx.c 3 _ rfl
    have cy0 := T1.out.by_.c 0 _ rfl
    have cy1 := T1.out.by_.c 1 _ rfl
    have cy2 := T1.out.by_.c 2 _ rfl
    have cy3 := T1.out.by_.c 3 _ rfl
    go_wp2
    go_ret
    exact ⟨ret_bool hR2.out.symm, T1.out.below⟩
end Go.Proofs.YtigpplckddnghaaGreat
