/-
  CONTRACT of awake (layer 17).
  MirrorOne, of a plan that is not looked at. (By gen/MrO.gen.py.)
-/
import Derived.Test.YtigpplckddnghaaMrY
import Derived.Test.YtigpplckddnghaaPlan
namespace Go.Proofs.Ytigpplckddnghaa
section
open Go.RowKit
set_option maxRecDepth 8000

theorem Mi.fresh (g : Gm) (bl : List Int) (l : List Flt) (h2 : 2 ≤ (Dv.fresh g bl l).nb) : Mi (Dv.fresh g bl l) 0 :=
  ⟨h2, fun _ _ => List.length_replicate, fun _ _ => Nat.zero_le _, fun _ _ _ _ _ => rfl, fun _ _ _ _ => .inl rfl⟩
theorem tabs_fresh (g : Gm) (bl : List Int) (l : List Flt) (r : Nat) : (Dv.fresh g bl l).tabs r = [] :=
  tabsF_end (m := 0) (Nat.zero_le _) (fun _ _ _ => tabOf_blank)
theorem newest_fresh (g : Gm) (bl : List Int) (l : List Flt) : (Dv.fresh g bl l).newest = none := by
  unfold Dv.newest
  rw [tabs_fresh, tabs_fresh]
  rfl
def g17 : Gm := ⟨8, 4, 0⟩
theorem g17_right : g17.Right := by unfold g17 Gm.Right; decide
def t17a : Tb := ⟨1, [], [], []⟩
def t17b : Tb := ⟨2, [5], [], []⟩
def D17 : Dv := Dv.fresh g17 [] []
def D17a : Dv := D17.progd 0 (firstT 8).page
def D17b : Dv := D17a.progd 1 t17a.page
def D17c : Dv := D17b.progd 0 t17b.page
theorem t17a_may : t17a.May := by decide
theorem t17b_may : t17b.May := by decide
theorem math17 : D17.formatR = (firstT 8, 0, D17a) ∧ D17a.writeR t17a.page = (0, D17b) ∧ D17b.writeR t17b.page = (0, D17c) ∧ D17c.newest = some (t17b, 0) ∧ D17c.tabs 1 = [t17a] := by
  have hg : D17.g.b = (D17.nb : Int) ∧ D17.g.p = (D17.np : Int) := ⟨rfl, rfl⟩
  have o0 : D17.older = 0 := by unfold Dv.older D17; rw [newest_fresh]
  have c0 := (Mi.fresh g17 [] [] (by decide)).clean (t := firstT 8) rfl (by show D17.nx D17.older < _; rw [o0]; decide) (by show D17.bad D17.older = false; rw [o0]; rfl) rfl hg (firstT_may (by decide)) (Nat.le_refl _)
  rw [show Dv.fresh g17 [] [] = D17 from rfl, o0] at c0
  obtain ⟨w0, m0, n0, _, _⟩ := c0
  have o1 : D17a.older = 1 := by unfold Dv.older; rw [show D17a.newest = some (firstT 8, 0) from n0]; rfl
  have c1 := m0.clean (t := t17a) rfl (by show D17a.nx D17a.older < _; rw [o1]; decide) (by show D17a.bad D17a.older = false; rw [o1]; rfl) rfl hg t17a_may (by decide)
  rw [show D17.progd 0 (firstT 8).page = D17a from rfl, o1] at c1
  obtain ⟨w1, m1, n1, _, s1⟩ := c1
  have o2 : D17b.older = 0 := by unfold Dv.older; rw [show D17b.newest = some (t17a, 1) from n1]; rfl
  have c2 := m1.clean (t := t17b) rfl (by show D17b.nx D17b.older < _; rw [o2]; decide) (by show D17b.bad D17b.older = false; rw [o2]; rfl) rfl hg t17b_may (by decide)
  rw [show D17a.progd 1 t17a.page = D17b from rfl, o2] at c2
  obtain ⟨w2, m2, n2, r2, s2⟩ := c2
  refine ⟨?_, w1, w2, n2, ?_⟩
  · have hnew : D17.newest = none := newest_fresh _ _ _
    unfold Dv.formatR
    simp only [hnew]
    rw [if_neg (by decide), show D17.nb = 8 from rfl, w0, if_pos rfl]
    rfl
  · rw [show D17c.tabs 1 = D17b.tabs 1 from r2, show D17b.tabs 1 = D17a.tabs 1 ++ [t17a] from s1]
    have : D17a.tabs 1 = [] := by
      have c0 := (Mi.fresh g17 [] [] (by decide)).prog_tabs (r := 0) (t := firstT 8) (by decide) (by decide) (firstT_may (by decide))
      rw [show D17a.tabs 1 = D17.tabs 1 from c0.1]
      exact tabs_fresh _ _ _ _
    rw [this]
    rfl
theorem off_dev {w : World} {B0 B : Nat} {D : Dv} {k kb kp km : Nat} (h : DevAt w B0 B D k kb kp km) {b : Nat} (hb : B ≤ b) : b ∉ [k, kb, kp] := by
  have := h.hi
  simp only [List.mem_cons, List.not_mem_nil, or_false, not_or]
  omega
theorem low_dev {w W W' : World} {B0 B : Nat} {D : Dv} {k kb kp km : Nat} (h : DevAt w B0 B D k kb kp km) (ht : Tch [k, kb, kp] W W') (hB : B0 ≤ W.heap.size) : Below B0 W W' :=
  ht.below hB (fun b hb => by
    have := h.lo
    simp only [List.mem_cons, List.not_mem_nil, or_false] at hb
    omega)
set_option maxHeartbeats 8000000 in
theorem awake17_any (w : World) : Calls Try.prog 7 #[] w fun e w' => e = .returned (.bool true) ∧ Below w.heap.size w w' := by
  have F0 := hide (new_ok g17 none none 0 0 0 0 w.heap.size [] [] w g17_right (.inl rfl) rfl (by decide) (.inl rfl) rfl (by decide) (by simp) (Nat.le_refl _))
  rw [show g17.val = .agg #[.int .i64 8, .int .i64 4, .int .i64 0] from rfl] at F0
  obtain ⟨m1, m2, m3, m4, m5⟩ := math17
  go_enter Try.func7, Try.ntmps7
  go_wp2_with fail
  (with_reducible refine F0.out.mono ?_)
  rintro e w1 ⟨k, kb, kp, km, rfl, h1, hb⟩
  have H1 : Hid (DevAt w1 w.heap.size w1.heap.size D17 k kb kp km) := hide h1
  have HB1 := hide hb
  have F1 := hide (mformat_any H1.out (Nat.le_refl _) rfl (by decide))
  unfold FormatEnd at F1
  rw [m1] at F1
  clear h1 hb F0 m1
  go_wp2_with fail
  (with_reducible refine F1.out.mono ?_)
  rintro e w2 ⟨x, rfl, hxt, hok, hfew, h2, ht2⟩
  have e0 : x.val = .agg #[.int .u64 (x.t.seq : Int), .slice x.A1 x.t.bad.length x.c1, .slice x.A2 x.t.wear.length x.c2, .slice x.A3 x.t.void.length x.c3] := rfl
  have e1 : x.cells.toArray = #[.int .u64 (x.t.seq : Int), .slice x.A1 x.t.bad.length x.c1, .slice x.A2 x.t.wear.length x.c2, .slice x.A3 x.t.void.length x.c3] := rfl
  rw [e0]
  have hb3 := (Below.refl w2.heap.size w2).alloc (Nat.le_refl _) (.cells x.cells.toArray 39)
  have HB3 := hide (((HB1.out.trans (low_dev H1.out ht2 HB1.out.size))).trans (hb3.mono (Nat.le_trans HB1.out.size ht2.size)))
  have HX3 := hide (BoxT.new x w2)
  have H3 := hide (h2.below (hb3.mono ht2.size))
  have HS3 := hide (show w1.heap.size ≤ w2.heap.size from ht2.size)
  have HS3' := hide (Nat.le_trans ht2.size hb3.size)
  have Hwl := hide (show x.t.wear.length = 8 by rw [hxt]; rfl)
  rw [e1] at HB3 HX3 H3 HS3'
  clear hxt hok hfew h2 ht2 hb3 F1 e0 e1
  go_upto_region 3 with fail
  generalize w2.alloc (.cells #[.int .u64 (x.t.seq : Int), .slice x.A1 x.t.bad.length x.c1, .slice x.A2 x.t.wear.length x.c2, .slice x.A3 x.t.void.length x.c3] 39) = w3 at *
  generalize w2.heap.size = kx at *
  have Fw := hide (mwrite_any H3.out HS3'.out rfl (by decide) ⟨t17a, none, none, none, 0, 0, 0⟩ 0 ⟨.inl rfl, .inl rfl, .inl rfl, Nat.le_refl _, Nat.le_refl _, Nat.le_refl _, fun y hy => absurd hy (by simp [t17a]), (by decide), fun y hy => absurd hy (by simp [t17a])⟩ ⟨by decide, by decide, by decide⟩ t17a_may (Nat.zero_le _))
  rw [show (Tl.mk t17a none none none 0 0 0).val = .agg #[.int .u64 1, .slice none 0 0, .slice none 0 0, .slice none 0 0] from rfl] at Fw
  dsimp only at Fw
  rw [m2] at Fw
  go_wp2_with fail
  (with_reducible refine Fw.out.mono ?_)
  rintro e w4 ⟨rfl, h4, ht4⟩
  have HB4 := hide (HB3.out.trans (low_dev H3.out ht4 HB3.out.size))
  have HX4 : Hid (BoxT x kx w4) := hide ((ht4.block kx HX3.out.lt (off_dev H3.out HS3.out)).trans HX3.out)
  have HS4 := hide (Nat.le_trans HS3'.out ht4.size)
  have H4 := hide h4
  clear h4 ht4 Fw H3 HB3 HX3 HS3' m2
  have hb5 := (Below.refl w4.heap.size w4).alloc (Nat.le_refl _) (.cells #[.int .i64 5] 3)
  have HB5 := hide (HB4.out.trans (hb5.mono HB4.out.size))
  have HX5 := hide (HX4.out.below hb5 HX4.out.lt)
  have HS5 := hide (Nat.le_trans HS4.out hb5.size)
  have H5 := hide (H4.out.below (hb5.mono HS4.out))
  have HL5 := hide (Lies.new w4 #[.int .i64 5] 3 (0, 0) (w4.heap.size + 1) (Nat.lt_succ_self _))
  have Fw := hide (mwrite_any H5.out HS5.out rfl (by decide) ⟨t17b, some ⟨w4.heap.size, 0, none⟩, none, none, 1, 0, 0⟩ (w4.heap.size + 1) ⟨HL5.out, .inl rfl, .inl rfl, Nat.le_refl _, Nat.le_refl _, Nat.le_refl _, fun y hy => absurd hy (by simp [t17b]), (by show (2 : Nat) < 18446744073709551616; decide), fun y hy => absurd hy (by simp [t17b])⟩ ⟨by show (1 : Nat) ≤ 1000; decide, by show (0 : Nat) ≤ 1000; decide, by show (0 : Nat) ≤ 1000; decide⟩ t17b_may (by simp))
  rw [show (Tl.mk t17b (some ⟨w4.heap.size, 0, none⟩) none none 1 0 0).val = .agg #[.int .u64 2, .slice (some ⟨w4.heap.size, 0, none⟩) 1 1, .slice none 0 0, .slice none 0 0] from rfl] at Fw
  dsimp only at Fw
  rw [m3] at Fw
  clear hb5 HL5 HX4 HB4 H4 HS4
  go_wp2_with fail
  (with_reducible refine Fw.out.mono ?_)
  rintro e w6 ⟨rfl, h6, ht6⟩
  have HB6 := hide (HB5.out.trans (low_dev H5.out ht6 HB5.out.size))
  have HX6 : Hid (BoxT x kx w6) := hide ((ht6.block kx HX5.out.lt (off_dev H5.out HS3.out)).trans HX5.out)
  have HS6 := hide (Nat.le_trans HS5.out ht6.size)
  have H6 := hide h6
  clear h6 ht6 Fw H5 HB5 HX5 HS5 m3
  have Fn := hide (mnew_any H6.out HS6.out rfl)
  rw [m4, show newV (some (t17b, 0)) = (t17b, 0, 0) from rfl] at Fn
  go_wp2_with fail
  (with_reducible refine Fn.out.mono ?_)
  rintro e w7 ⟨y, rfl, hyt, hok, hfew, hhi, hb⟩
  have e0 : y.val = .agg #[.int .u64 (y.t.seq : Int), .slice y.A1 y.t.bad.length y.c1, .slice y.A2 y.t.wear.length y.c2, .slice y.A3 y.t.void.length y.c3] := rfl
  have e1 : y.cells.toArray = #[.int .u64 (y.t.seq : Int), .slice y.A1 y.t.bad.length y.c1, .slice y.A2 y.t.wear.length y.c2, .slice y.A3 y.t.void.length y.c3] := rfl
  rw [e0]
  have hb8 := (Below.refl w7.heap.size w7).alloc (Nat.le_refl _) (.cells y.cells.toArray 39)
  have HB8 := hide ((HB6.out.trans (hb.mono HB6.out.size)).trans (hb8.mono (Nat.le_trans HB6.out.size hb.size)))
  have HX8 := hide ((HX6.out.below hb HX6.out.lt).below hb8 (Nat.lt_of_lt_of_le HX6.out.lt hb.size))
  have HY8 := hide (BoxT.new y w7)
  have H8 := hide ((H6.out.below (hb.mono HS6.out)).below (hb8.mono (Nat.le_trans HS6.out hb.size)))
  have HS8 := hide (Nat.le_trans HS6.out (Nat.le_trans hb.size hb8.size))
  have Hy := hide (show y.t.seq = 2 ∧ y.t.bad.length = 1 by rw [hyt]; exact ⟨rfl, rfl⟩)
  rw [e1] at HB8 HX8 HY8 H8 HS8
  clear hyt hok hfew hhi hb hb8 Fn H6 HB6 HX6 HS6 m4 e0 e1
  go_upto_region 6 with fail
  generalize w7.alloc (.cells #[.int .u64 (y.t.seq : Int), .slice y.A1 y.t.bad.length y.c1, .slice y.A2 y.t.wear.length y.c2, .slice y.A3 y.t.void.length y.c3] 39) = w8 at *
  generalize w7.heap.size = ky at *
  have Ft := hide (mtabs_any H8.out HS8.out rfl 1 (by decide))
  rw [m5, show ((1 : Nat) : Int) = 1 from rfl] at Ft
  have c2 : w8.cell? ⟨kx, 2, none⟩ = some (.slice x.A2 8 x.c2) := by have := HX8.out.c 2 _ rfl; rwa [Hwl.out] at this
  have d0 : w8.cell? ⟨ky, 0, none⟩ = some (.int .u64 2) := by have := HY8.out.c 0 _ rfl; rwa [Hy.out.1] at this
  have d1 : w8.cell? ⟨ky, 1, none⟩ = some (.slice y.A1 1 y.c1) := by have := HY8.out.c 1 _ rfl; rwa [Hy.out.2] at this
  go_wp2_with fail
  (with_reducible refine Ft.out.mono ?_)
  rintro e w9 ⟨l, A, c, rfl, htl, _, _, _, hb⟩
  have hl : l.length = 1 := htl.len
  rw [hl]
  have HB9 := hide (HB8.out.trans (hb.mono HB8.out.size))
  clear hb htl hl Ft c2 d0 d1
  go_wp2
  go_ret
  exact ⟨rfl, HB9.out⟩
end
section
open Go.RowKit
set_option maxRecDepth 8000
set_option maxHeartbeats 4000000 in
theorem mone_off (q : Pn) (A : Option Addr) (n c : Nat) (w : World) (hq : q.Ok w w.heap.size) (hl : ¬ (q.light = true ∧ q.g.Right ∧ (0 : Int) ∉ q.bl ∧ (1 : Int) ∉ q.bl)) :
    Calls Try.prog 3 #[q.val, .slice A n c] w fun e w' => e = .returned (.bool true) ∧ Below w.heap.size w w' := by
  have b1 := (Below.refl w.heap.size w).alloc (Nat.le_refl _) (.cells #[.int .i64 q.g.b, .int .i64 q.g.p, .int .i64 q.g.r, .slice q.A1 q.n1 q.c1, .slice q.A2 q.n2 q.c2] 27)
  have Hb1 := hide b1
  have hx1 : BoxQ q w.heap.size (w.alloc (.cells #[.int .i64 q.g.b, .int .i64 q.g.p, .int .i64 q.g.r, .slice q.A1 q.n1 q.c1, .slice q.A2 q.n2 q.c2] 27)) := heap_alloc_new w _
  have Hx1 := hide hx1
  have Hs1 := hide (show w.heap.size < (w.alloc (.cells #[.int .i64 q.g.b, .int .i64 q.g.p, .int .i64 q.g.r, .slice q.A1 q.n1 q.c1, .slice q.A2 q.n2 q.c2] 27)).heap.size by simp)
  have FL := hide (light_any q w.heap.size _ (hq.below b1) b1.size)
  have FR := hide (fun W => right13_any q.g W)
  have FH := hide (fun W (hW : Below w.heap.size w W) z => has16_any q.A1 q.n1 q.c1 w.heap.size q.bl z W ((hq.below hW).l1))
  have Hn := hide hq.h1
  have Hl := hide hl
  clear b1 hx1 hq hl
  unfold Pn.val at *
  cases hlight : q.light with
  | false =>
    rw [hlight] at FL
    clear hlight
    unfold Gm.val at FR
    go_enter Try.func3, Try.ntmps3
    go_wp2_with fail
    (with_reducible refine FL.out.mono ?_)
    rintro e w2 ⟨rfl, hb⟩
    have HB2 := hide (Hb1.out.trans (hb.mono Hb1.out.size))
    have HX2 := hide (Hx1.out.below hb Hs1.out)
    have HS2 := hide (Nat.lt_of_lt_of_le Hs1.out hb.size)
    clear hb FL Hb1 Hx1 Hs1
    go_wp2_with fail
    (with_reducible refine (awake17_any _).mono ?_)
    rintro e w9 ⟨rfl, hb⟩
    have HB9 := hide (HB2.out.trans (hb.mono HB2.out.size))
    clear hb
    go_wp2
    go_ret
    exact ⟨rfl, HB9.out⟩
  | true =>
    by_cases hr : q.g.Right
    · rw [decide_eq_true hr] at FR
      by_cases h0 : (0 : Int) ∈ q.bl
      · have F0 := hide (fun W hW => FH.out W hW 0 Hn.out (by unfold Pn.light at hlight; simp only [Bool.and_eq_true, decide_eq_true_eq] at hlight; omega))
        rw [decide_eq_true h0] at F0
        clear h0 hr FH
        rw [hlight] at FL
        have hn60 : q.n1 ≤ 60 := by unfold Pn.light at hlight; simp only [Bool.and_eq_true, decide_eq_true_eq] at hlight; exact hlight.1.1
        have Hn60 := hide hn60
        clear hn60
        clear hlight
        unfold Gm.val at FR
        go_enter Try.func3, Try.ntmps3
        go_wp2_with fail
        (with_reducible refine FL.out.mono ?_)
        rintro e w2 ⟨rfl, hb⟩
        have HB2 := hide (Hb1.out.trans (hb.mono Hb1.out.size))
        have HX2 := hide (Hx1.out.below hb Hs1.out)
        have HS2 := hide (Nat.lt_of_lt_of_le Hs1.out hb.size)
        clear hb FL Hb1 Hx1 Hs1
        have c0 := HX2.out.c 0 _ rfl
        have c1 := HX2.out.c 1 _ rfl
        have c2 := HX2.out.c 2 _ rfl
        go_wp2_with fail
        (with_reducible refine (FR.out _).mono ?_)
        rintro e w3 ⟨rfl, hb⟩
        have HB3 := hide (HB2.out.trans (hb.mono HB2.out.size))
        have HX3 := hide (HX2.out.below hb HS2.out)
        clear hb FR HX2 HB2 HS2 c0 c1 c2
        have c3 := HX3.out.c 3 _ rfl
        go_wp2_with fail
        (with_reducible refine (F0.out _ HB3.out).mono ?_)
        rintro e w4 ⟨rfl, rfl⟩
        clear c3
        go_wp2_with fail
        (with_reducible refine (awake17_any _).mono ?_)
        rintro e w9 ⟨rfl, hb⟩
        have HB9 := hide (HB3.out.trans (hb.mono HB3.out.size))
        clear hb
        go_wp2
        go_ret
        exact ⟨rfl, HB9.out⟩
      · have F0 := hide (fun W hW => FH.out W hW 0 Hn.out (by unfold Pn.light at hlight; simp only [Bool.and_eq_true, decide_eq_true_eq] at hlight; omega))
        rw [decide_eq_false h0] at F0
        have h1 : (1 : Int) ∈ q.bl := Classical.byContradiction fun h1 => Hl.out ⟨hlight, hr, h0, h1⟩
        have F1 := hide (fun W hW => FH.out W hW 1 Hn.out (by unfold Pn.light at hlight; simp only [Bool.and_eq_true, decide_eq_true_eq] at hlight; omega))
        rw [decide_eq_true h1] at F1
        clear h0 h1 hr FH
        rw [hlight] at FL
        have hn60 : q.n1 ≤ 60 := by unfold Pn.light at hlight; simp only [Bool.and_eq_true, decide_eq_true_eq] at hlight; exact hlight.1.1
        have Hn60 := hide hn60
        clear hn60
        clear hlight
        unfold Gm.val at FR
        go_enter Try.func3, Try.ntmps3
        go_wp2_with fail
        (with_reducible refine FL.out.mono ?_)
        rintro e w2 ⟨rfl, hb⟩
        have HB2 := hide (Hb1.out.trans (hb.mono Hb1.out.size))
        have HX2 := hide (Hx1.out.below hb Hs1.out)
        have HS2 := hide (Nat.lt_of_lt_of_le Hs1.out hb.size)
        clear hb FL Hb1 Hx1 Hs1
        have c0 := HX2.out.c 0 _ rfl
        have c1 := HX2.out.c 1 _ rfl
        have c2 := HX2.out.c 2 _ rfl
        go_wp2_with fail
        (with_reducible refine (FR.out _).mono ?_)
        rintro e w3 ⟨rfl, hb⟩
        have HB3 := hide (HB2.out.trans (hb.mono HB2.out.size))
        have HX3 := hide (HX2.out.below hb HS2.out)
        clear hb FR HX2 HB2 HS2 c0 c1 c2
        have c3 := HX3.out.c 3 _ rfl
        go_wp2_with fail
        (with_reducible refine (F0.out _ HB3.out).mono ?_)
        rintro e w4 ⟨rfl, rfl⟩
        go_wp2_with fail
        (with_reducible refine (F1.out _ HB3.out).mono ?_)
        rintro e w4 ⟨rfl, rfl⟩
        clear c3
        go_wp2_with fail
        (with_reducible refine (awake17_any _).mono ?_)
        rintro e w9 ⟨rfl, hb⟩
        have HB9 := hide (HB3.out.trans (hb.mono HB3.out.size))
        clear hb
        go_wp2
        go_ret
        exact ⟨rfl, HB9.out⟩
    · rw [decide_eq_false hr] at FR
      clear hr
      rw [hlight] at FL
      have hn60 : q.n1 ≤ 60 := by unfold Pn.light at hlight; simp only [Bool.and_eq_true, decide_eq_true_eq] at hlight; exact hlight.1.1
      have Hn60 := hide hn60
      clear hn60
      clear hlight
      unfold Gm.val at FR
      go_enter Try.func3, Try.ntmps3
      go_wp2_with fail
      (with_reducible refine FL.out.mono ?_)
      rintro e w2 ⟨rfl, hb⟩
      have HB2 := hide (Hb1.out.trans (hb.mono Hb1.out.size))
      have HX2 := hide (Hx1.out.below hb Hs1.out)
      have HS2 := hide (Nat.lt_of_lt_of_le Hs1.out hb.size)
      clear hb FL Hb1 Hx1 Hs1
      have c0 := HX2.out.c 0 _ rfl
      have c1 := HX2.out.c 1 _ rfl
      have c2 := HX2.out.c 2 _ rfl
      go_wp2_with fail
      (with_reducible refine (FR.out _).mono ?_)
      rintro e w3 ⟨rfl, hb⟩
      have HB3 := hide (HB2.out.trans (hb.mono HB2.out.size))
      have HX3 := hide (HX2.out.below hb HS2.out)
      clear hb FR HX2 HB2 HS2 c0 c1 c2
      go_wp2_with fail
      (with_reducible refine (awake17_any _).mono ?_)
      rintro e w9 ⟨rfl, hb⟩
      have HB9 := hide (HB3.out.trans (hb.mono HB3.out.size))
      clear hb
      go_wp2
      go_ret
      exact ⟨rfl, HB9.out⟩
end
end Go.Proofs.Ytigpplckddnghaa
