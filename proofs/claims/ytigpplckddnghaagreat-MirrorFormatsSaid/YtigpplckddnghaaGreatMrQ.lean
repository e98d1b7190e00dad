/-
  CONTRACT of awake (layer 17).
  MirrorFormats, of a plan that is not looked at. (By gen/MrD.gen.py.)
  MIRRORS, plain: how the statements' reference reads a page's table, and that it is the page's table (tab_ref).
-/
import Derived.Test.YtigpplckddnghaaGreatMrY
import Derived.Test.YtigpplckddnghaaGreatPlan
import Derived.Test.YtigpplckddnghaaGreatMrI
namespace Go.Proofs.YtigpplckddnghaaGreat
section
open Go.RowKit
set_option maxRecDepth 8000

theorem Mi.fresh (g : Gm) (bl : List Int) (l : List Flt) (h2 : 2 ≤ (Dv.fresh g bl l).nb) : Mi (Dv.fresh g bl l) 0 :=
  ⟨h2, fun _ _ => List.length_replicate, fun _ _ => Nat.zero_le _, fun _ _ _ _ _ => rfl, fun _ _ _ _ => .inl rfl⟩
theorem tabs_fresh (g : Gm) (bl : List Int) (l : List Flt) (r : Nat) : (Dv.fresh g bl l).tabs r = [] :=
  tabsF_end (m := 0) (Nat.zero_le _) (fun _ _ _ => tabOf_blank)
theorem newest_fresh (g : Gm) (bl : List Int) (l : List Flt) : (Dv.fresh g bl l).newest = none := by
  unfold Dv.newest
  rw [tabs_fresh, tabs_fresh]
  rfl
def g17 : Gm := ⟨8, 4, 0⟩
theorem g17_right : g17.Right := by unfold g17 Gm.Right; decide
def t17a : Tb := ⟨1, [], [], []⟩
def t17b : Tb := ⟨2, [5], [], []⟩
def D17 : Dv := Dv.fresh g17 [] []
def D17a : Dv := D17.progd 0 (firstT 8).page
def D17b : Dv := D17a.progd 1 t17a.page
def D17c : Dv := D17b.progd 0 t17b.page
theorem t17a_may : t17a.May := by decide
theorem t17b_may : t17b.May := by decide
theorem math17 : D17.formatR = (firstT 8, 0, D17a) ∧ D17a.writeR t17a.page = (0, D17b) ∧ D17b.writeR t17b.page = (0, D17c) ∧ D17c.newest = some (t17b, 0) ∧ D17c.tabs 1 = [t17a] := by
  have hg : D17.g.b = (D17.nb : Int) ∧ D17.g.p = (D17.np : Int) := ⟨rfl, rfl⟩
  have o0 : D17.older = 0 := by unfold Dv.older D17; rw [newest_fresh]
  have c0 := (Mi.fresh g17 [] [] (by decide)).clean (t := firstT 8) rfl (by show D17.nx D17.older < _; rw [o0]; decide) (by show D17.bad D17.older = false; rw [o0]; rfl) rfl hg (firstT_may (by decide)) (Nat.le_refl _)
  rw [show Dv.fresh g17 [] [] = D17 from rfl, o0] at c0
  obtain ⟨w0, m0, n0, _, _⟩ := c0
  have o1 : D17a.older = 1 := by unfold Dv.older; rw [show D17a.newest = some (firstT 8, 0) from n0]; rfl
  have c1 := m0.clean (t := t17a) rfl (by show D17a.nx D17a.older < _; rw [o1]; decide) (by show D17a.bad D17a.older = false; rw [o1]; rfl) rfl hg t17a_may (by decide)
  rw [show D17.progd 0 (firstT 8).page = D17a from rfl, o1] at c1
  obtain ⟨w1, m1, n1, _, s1⟩ := c1
  have o2 : D17b.older = 0 := by unfold Dv.older; rw [show D17b.newest = some (t17a, 1) from n1]; rfl
  have c2 := m1.clean (t := t17b) rfl (by show D17b.nx D17b.older < _; rw [o2]; decide) (by show D17b.bad D17b.older = false; rw [o2]; rfl) rfl hg t17b_may (by decide)
  rw [show D17a.progd 1 t17a.page = D17b from rfl, o2] at c2
  obtain ⟨w2, m2, n2, r2, s2⟩ := c2
  refine ⟨?_, w1, w2, n2, ?_⟩
  · have hnew : D17.newest = none := newest_fresh _ _ _
    unfold Dv.formatR
    simp only [hnew]
    rw [if_neg (by decide), show D17.nb = 8 from rfl, w0, if_pos rfl]
    rfl
  · rw [show D17c.tabs 1 = D17b.tabs 1 from r2, show D17b.tabs 1 = D17a.tabs 1 ++ [t17a] from s1]
    have : D17a.tabs 1 = [] := by
      have c0 := (Mi.fresh g17 [] [] (by decide)).prog_tabs (r := 0) (t := firstT 8) (by decide) (by decide) (firstT_may (by decide))
      rw [show D17a.tabs 1 = D17.tabs 1 from c0.1]
      exact tabs_fresh _ _ _ _
    rw [this]
    rfl
theorem off_dev {w : World} {B0 B : Nat} {D : Dv} {k kb kp km : Nat} (h : DevAt w B0 B D k kb kp km) {b : Nat} (hb : B ≤ b) : b ∉ [k, kb, kp] := by
  have := h.hi
  simp only [List.mem_cons, List.not_mem_nil, or_false, not_or]
  omega
theorem low_dev {w W W' : World} {B0 B : Nat} {D : Dv} {k kb kp km : Nat} (h : DevAt w B0 B D k kb kp km) (ht : Tch [k, kb, kp] W W') (hB : B0 ≤ W.heap.size) : Below B0 W W' :=
  ht.below hB (fun b hb => by
    have := h.lo
    simp only [List.mem_cons, List.not_mem_nil, or_false] at hb
    omega)
set_option maxHeartbeats 8000000 in
theorem awake17_any (w : World) : Calls Tryz.prog 19 #[] w fun e w' => e = .returned (.bool true) ∧ Below w.heap.size w w' := by
  have F0 := hide (new_ok g17 none none 0 0 0 0 w.heap.size [] [] w g17_right (.inl rfl) rfl (by decide) (.inl rfl) rfl (by decide) (by simp) (Nat.le_refl _))
  rw [show g17.val = .agg #[.int .i64 8, .int .i64 4, .int .i64 0] from rfl] at F0
  obtain ⟨m1, m2, m3, m4, m5⟩ := math17
  go_enter Tryz.func19, Tryz.ntmps19
  go_wp2_with fail
  (with_reducible refine F0.out.mono ?_)
  rintro e w1 ⟨k, kb, kp, km, rfl, h1, hb⟩
  have H1 : Hid (DevAt w1 w.heap.size w1.heap.size D17 k kb kp km) := hide h1
  have HB1 := hide hb
  have F1 := hide (mformat_any H1.out (Nat.le_refl _) rfl (by decide))
  unfold FormatEnd at F1
  rw [m1] at F1
  clear h1 hb F0 m1
  go_wp2_with fail
  (with_reducible refine F1.out.mono ?_)
  rintro e w2 ⟨x, rfl, hxt, hok, hfew, h2, ht2⟩
  have e0 : x.val = .agg #[.int .u64 (x.t.seq : Int), .slice x.A1 x.t.bad.length x.c1, .slice x.A2 x.t.wear.length x.c2, .slice x.A3 x.t.void.length x.c3] := rfl
  have e1 : x.cells.toArray = #[.int .u64 (x.t.seq : Int), .slice x.A1 x.t.bad.length x.c1, .slice x.A2 x.t.wear.length x.c2, .slice x.A3 x.t.void.length x.c3] := rfl
  rw [e0]
  have hb3 := (Below.refl w2.heap.size w2).alloc (Nat.le_refl _) (.cells x.cells.toArray 26)
  have HB3 := hide (((HB1.out.trans (low_dev H1.out ht2 HB1.out.size))).trans (hb3.mono (Nat.le_trans HB1.out.size ht2.size)))
  have HX3 := hide (BoxT.new x w2)
  have H3 := hide (h2.below (hb3.mono ht2.size))
  have HS3 := hide (show w1.heap.size ≤ w2.heap.size from ht2.size)
  have HS3' := hide (Nat.le_trans ht2.size hb3.size)
  have Hwl := hide (show x.t.wear.length = 8 by rw [hxt]; rfl)
  rw [e1] at HB3 HX3 H3 HS3'
  clear hxt hok hfew h2 ht2 hb3 F1 e0 e1
  go_upto_region 3 with fail
  generalize w2.alloc (.cells #[.int .u64 (x.t.seq : Int), .slice x.A1 x.t.bad.length x.c1, .slice x.A2 x.t.wear.length x.c2, .slice x.A3 x.t.void.length x.c3] 26) = w3 at *
  generalize w2.heap.size = kx at *
  have Fw := hide (mwrite_any H3.out HS3'.out rfl (by decide) ⟨t17a, none, none, none, 0, 0, 0⟩ 0 ⟨.inl rfl, .inl rfl, .inl rfl, Nat.le_refl _, Nat.le_refl _, Nat.le_refl _, fun y hy => absurd hy (by simp [t17a]), (by decide), fun y hy => absurd hy (by simp [t17a])⟩ ⟨by decide, by decide, by decide⟩ t17a_may (Nat.zero_le _))
  rw [show (Tl.mk t17a none none none 0 0 0).val = .agg #[.int .u64 1, .slice none 0 0, .slice none 0 0, .slice none 0 0] from rfl] at Fw
  dsimp only at Fw
  rw [m2] at Fw
  go_wp2_with fail
  (with_reducible refine Fw.out.mono ?_)
  rintro e w4 ⟨rfl, h4, ht4⟩
  have HB4 := hide (HB3.out.trans (low_dev H3.out ht4 HB3.out.size))
  have HX4 : Hid (BoxT x kx w4) := hide ((ht4.block kx HX3.out.lt (off_dev H3.out HS3.out)).trans HX3.out)
  have HS4 := hide (Nat.le_trans HS3'.out ht4.size)
  have H4 := hide h4
  clear h4 ht4 Fw H3 HB3 HX3 HS3' m2
  have hb5 := (Below.refl w4.heap.size w4).alloc (Nat.le_refl _) (.cells #[.int .i64 5] 3)
  have HB5 := hide (HB4.out.trans (hb5.mono HB4.out.size))
  have HX5 := hide (HX4.out.below hb5 HX4.out.lt)
  have HS5 := hide (Nat.le_trans HS4.out hb5.size)
  have H5 := hide (H4.out.below (hb5.mono HS4.out))
  have HL5 := hide (Lies.new w4 #[.int .i64 5] 3 (0, 0) (w4.heap.size + 1) (Nat.lt_succ_self _))
  have Fw := hide (mwrite_any H5.out HS5.out rfl (by decide) ⟨t17b, some ⟨w4.heap.size, 0, none⟩, none, none, 1, 0, 0⟩ (w4.heap.size + 1) ⟨HL5.out, .inl rfl, .inl rfl, Nat.le_refl _, Nat.le_refl _, Nat.le_refl _, fun y hy => absurd hy (by simp [t17b]), (by show (2 : Nat) < 18446744073709551616; decide), fun y hy => absurd hy (by simp [t17b])⟩ ⟨by show (1 : Nat) ≤ 1000; decide, by show (0 : Nat) ≤ 1000; decide, by show (0 : Nat) ≤ 1000; decide⟩ t17b_may (by simp))
  rw [show (Tl.mk t17b (some ⟨w4.heap.size, 0, none⟩) none none 1 0 0).val = .agg #[.int .u64 2, .slice (some ⟨w4.heap.size, 0, none⟩) 1 1, .slice none 0 0, .slice none 0 0] from rfl] at Fw
  dsimp only at Fw
  rw [m3] at Fw
  clear hb5 HL5 HX4 HB4 H4 HS4
  go_wp2_with fail
  (with_reducible refine Fw.out.mono ?_)
  rintro e w6 ⟨rfl, h6, ht6⟩
  have HB6 := hide (HB5.out.trans (low_dev H5.out ht6 HB5.out.size))
  have HX6 : Hid (BoxT x kx w6) := hide ((ht6.block kx HX5.out.lt (off_dev H5.out HS3.out)).trans HX5.out)
  have HS6 := hide (Nat.le_trans HS5.out ht6.size)
  have H6 := hide h6
  clear h6 ht6 Fw H5 HB5 HX5 HS5 m3
  have Fn := hide (mnew_any H6.out HS6.out rfl)
  rw [m4, show newV (some (t17b, 0)) = (t17b, 0, 0) from rfl] at Fn
  go_wp2_with fail
  (with_reducible refine Fn.out.mono ?_)
  rintro e w7 ⟨y, rfl, hyt, hok, hfew, hhi, hb⟩
  have e0 : y.val = .agg #[.int .u64 (y.t.seq : Int), .slice y.A1 y.t.bad.length y.c1, .slice y.A2 y.t.wear.length y.c2, .slice y.A3 y.t.void.length y.c3] := rfl
  have e1 : y.cells.toArray = #[.int .u64 (y.t.seq : Int), .slice y.A1 y.t.bad.length y.c1, .slice y.A2 y.t.wear.length y.c2, .slice y.A3 y.t.void.length y.c3] := rfl
  rw [e0]
  have hb8 := (Below.refl w7.heap.size w7).alloc (Nat.le_refl _) (.cells y.cells.toArray 26)
  have HB8 := hide ((HB6.out.trans (hb.mono HB6.out.size)).trans (hb8.mono (Nat.le_trans HB6.out.size hb.size)))
  have HX8 := hide ((HX6.out.below hb HX6.out.lt).below hb8 (Nat.lt_of_lt_of_le HX6.out.lt hb.size))
  have HY8 := hide (BoxT.new y w7)
  have H8 := hide ((H6.out.below (hb.mono HS6.out)).below (hb8.mono (Nat.le_trans HS6.out hb.size)))
  have HS8 := hide (Nat.le_trans HS6.out (Nat.le_trans hb.size hb8.size))
  have Hy := hide (show y.t.seq = 2 ∧ y.t.bad.length = 1 by rw [hyt]; exact ⟨rfl, rfl⟩)
  rw [e1] at HB8 HX8 HY8 H8 HS8
  clear hyt hok hfew hhi hb hb8 Fn H6 HB6 HX6 HS6 m4 e0 e1
  go_upto_region 6 with fail
  generalize w7.alloc (.cells #[.int .u64 (y.t.seq : Int), .slice y.A1 y.t.bad.length y.c1, .slice y.A2 y.t.wear.length y.c2, .slice y.A3 y.t.void.length y.c3] 26) = w8 at *
  generalize w7.heap.size = ky at *
  have Ft := hide (mtabs_any H8.out HS8.out rfl 1 (by decide))
  rw [m5, show ((1 : Nat) : Int) = 1 from rfl] at Ft
  have c2 : w8.cell? ⟨kx, 2, none⟩ = some (.slice x.A2 8 x.c2) := by have := HX8.out.c 2 _ rfl; rwa [Hwl.out] at this
  have d0 : w8.cell? ⟨ky, 0, none⟩ = some (.int .u64 2) := by have := HY8.out.c 0 _ rfl; rwa [Hy.out.1] at this
  have d1 : w8.cell? ⟨ky, 1, none⟩ = some (.slice y.A1 1 y.c1) := by have := HY8.out.c 1 _ rfl; rwa [Hy.out.2] at this
  go_wp2_with fail
  (with_reducible refine Ft.out.mono ?_)
  rintro e w9 ⟨l, A, c, rfl, htl, _, _, _, hb⟩
  have hl : l.length = 1 := htl.len
  rw [hl]
  have HB9 := hide (HB8.out.trans (hb.mono HB8.out.size))
  clear hb htl hl Ft c2 d0 d1
  go_wp2
  go_ret
  exact ⟨rfl, HB9.out⟩
end
section
open Go.RowKit
set_option maxRecDepth 8000
set_option maxHeartbeats 4000000 in
theorem mform_off (q : Pn) (w : World) (hq : q.Ok w w.heap.size) (hl : ¬ (q.light = true ∧ q.g.Right)) :
    Calls Tryz.prog 5 #[q.val] w fun e w' => e = .returned (.bool true) ∧ Below w.heap.size w w' := by
  have b1 := (Below.refl w.heap.size w).alloc (Nat.le_refl _) (.cells #[.int .i64 q.g.b, .int .i64 q.g.p, .int .i64 q.g.r, .slice q.A1 q.n1 q.c1, .slice q.A2 q.n2 q.c2] 43)
  have Hb1 := hide b1
  have hx1 : BoxQ q w.heap.size (w.alloc (.cells #[.int .i64 q.g.b, .int .i64 q.g.p, .int .i64 q.g.r, .slice q.A1 q.n1 q.c1, .slice q.A2 q.n2 q.c2] 43)) := heap_alloc_new w _
  have Hx1 := hide hx1
  have Hs1 := hide (show w.heap.size < (w.alloc (.cells #[.int .i64 q.g.b, .int .i64 q.g.p, .int .i64 q.g.r, .slice q.A1 q.n1 q.c1, .slice q.A2 q.n2 q.c2] 43)).heap.size by simp)
  have FL := hide (light_any q w.heap.size _ (hq.below b1) b1.size)
  have FR := hide (fun W => right13_any q.g W)
  have Hl := hide hl
  clear b1 hx1 hq hl
  unfold Pn.val at *
  cases hlight : q.light with
  | false =>
    rw [hlight] at FL
    clear hlight
    unfold Gm.val at FR
    go_enter Tryz.func5, Tryz.ntmps5
    go_wp2_with fail
    (with_reducible refine FL.out.mono ?_)
    rintro e w2 ⟨rfl, hb⟩
    have HB2 := hide (Hb1.out.trans (hb.mono Hb1.out.size))
    have HX2 := hide (Hx1.out.below hb Hs1.out)
    have HS2 := hide (Nat.lt_of_lt_of_le Hs1.out hb.size)
    clear hb FL Hb1 Hx1 Hs1
    go_wp2_with fail
    (with_reducible refine (awake17_any _).mono ?_)
    rintro e w9 ⟨rfl, hb⟩
    have HB9 := hide (HB2.out.trans (hb.mono HB2.out.size))
    clear hb
    go_wp2
    go_ret
    exact ⟨rfl, HB9.out⟩
  | true =>
    by_cases hr : q.g.Right
    · exact absurd ⟨hlight, hr⟩ Hl.out
    · rw [decide_eq_false hr] at FR
      clear hr
      rw [hlight] at FL
      clear hlight
      unfold Gm.val at FR
      go_enter Tryz.func5, Tryz.ntmps5
      go_wp2_with fail
      (with_reducible refine FL.out.mono ?_)
      rintro e w2 ⟨rfl, hb⟩
      have HB2 := hide (Hb1.out.trans (hb.mono Hb1.out.size))
      have HX2 := hide (Hx1.out.below hb Hs1.out)
      have HS2 := hide (Nat.lt_of_lt_of_le Hs1.out hb.size)
      clear hb FL Hb1 Hx1 Hs1
      have c0 := HX2.out.c 0 _ rfl
      have c1 := HX2.out.c 1 _ rfl
      have c2 := HX2.out.c 2 _ rfl
      go_wp2_with fail
      (with_reducible refine (FR.out _).mono ?_)
      rintro e w3 ⟨rfl, hb⟩
      have HB3 := hide (HB2.out.trans (hb.mono HB2.out.size))
      have HX3 := hide (HX2.out.below hb HS2.out)
      clear hb FR HX2 HB2 HS2 c0 c1 c2
      go_wp2_with fail
      (with_reducible refine (awake17_any _).mono ?_)
      rintro e w9 ⟨rfl, hb⟩
      have HB9 := hide (HB3.out.trans (hb.mono HB3.out.size))
      clear hb
      go_wp2
      go_ret
      exact ⟨rfl, HB9.out⟩
end
section
open Go.RowKit

/-- The table that the reference reads out of a head and its data. -/
def readR (h : Hd) (d : List UInt8) : Tb := ⟨h.batch, ints ((List.range 34).filter fun i => decide (bitAt d i = 1)), ints ((List.range (min h.lpn.toNat 34)).map fun i => numAt d ((5 + 2 * i : Nat) : Int) 2), ints ((List.range (d.getD 73 0).toNat).map fun i => numAt d ((74 + 4 * i : Nat) : Int) 4)⟩
theorem seqB_split (k : Nat) (f : Nat → Nat) (i : Nat) : ∀ n, i < n → ∃ m, seqB k f n = seqB k f i ++ (beB k (f i) ++ m)
  | 0, h => by omega
  | n + 1, h => by
    rw [seqB_succ]
    by_cases e : i = n
    · subst e; exact ⟨[], by simp⟩
    · obtain ⟨m, hm⟩ := seqB_split k f i n (by omega)
      exact ⟨m ++ beB k (f n), by rw [hm]; simp⟩
theorem seqB_num (k : Nat) (f : Nat → Nat) (a r : List UInt8) (i n : Nat) (hi : i < n) (hf : f i < 256 ^ k) (p : Nat) (hp : p = a.length + k * i) : numAt (a ++ (seqB k f n ++ r)) (p : Int) k = f i := by
  obtain ⟨m, hm⟩ := seqB_split k f i n hi
  rw [hm, show a ++ (seqB k f i ++ (beB k (f i) ++ m) ++ r) = (a ++ seqB k f i) ++ (beB k (f i) ++ (m ++ r)) by simp]
  exact numAt_mid _ _ _ _ _ (by rw [List.length_append, seqB_len, hp]) hf
theorem data_bit (t : Tb) (i : Nat) (hi : i < 34) : bitAt t.data i = if (i : Int) ∈ t.bad then 1 else 0 := by
  have hd : (t.data.getD (i / 8) 0).toNat = mkN t.bad (i / 8) := by
    have h1 : i / 8 < 5 := by omega
    unfold Tb.data
    rw [List.append_assoc, List.append_assoc, List.getD_eq_getElem?_getD, List.getElem?_append_left (by rw [seqB_len]; omega)]
    obtain ⟨m, hm⟩ := seqB_split 1 (mkN t.bad) (i / 8) 5 h1
    rw [hm, List.getElem?_append_right (by rw [seqB_len]; omega), seqB_len, show i / 8 - 1 * (i / 8) = 0 by omega]
    show ((UInt8.ofNat (mkN t.bad (i / 8) / 256 ^ 0))).toNat = _
    have := mkN_lt t.bad (i / 8)
    rw [Nat.pow_zero, Nat.div_one]
    simp only [UInt8.toNat_ofNat']
    omega
  unfold bitAt bitN
  rw [hd, mkN_bit]
theorem readR_back {t : Tb} (hm : t.May) : readR t.hd t.data = t := by
  obtain ⟨h1, h2, ⟨h3, h4⟩, h5, h6⟩ := hm
  have hw : ∀ i, (t.wear.getD i 0).toNat < 256 ^ 2 := by
    intro i
    by_cases hi : i < t.wear.length
    · have := h3 i hi; omega
    · simp [List.getD, List.getElem?_eq_none (show t.wear.length ≤ i by omega)]
  have hv : ∀ i, (t.void.getD i 0).toNat < 256 ^ 4 := by
    intro i
    by_cases hi : i < t.void.length
    · have := h6 i hi; unfold okAt at this; omega
    · simp [List.getD, List.getElem?_eq_none (show t.void.length ≤ i by omega)]
  have b1 : ints ((List.range 34).filter fun i => decide (bitAt t.data i = 1)) = t.bad := by
    rw [show (List.range 34).filter (fun i => decide (bitAt t.data i = 1)) = (List.range' 0 34).filter (fun (b : Nat) => decide ((b : Int) ∈ t.bad)) from ?_]
    · exact bads_back t.bad 34 0 (rise_pair h2) (fun x hx => by have := rise_in h2 x hx; omega)
    · rw [← List.range_eq_range']
      apply List.filter_congr
      intro b hb
      have hb := List.mem_range.1 hb
      rw [data_bit t b hb]
      by_cases hq : (b : Int) ∈ t.bad <;> simp [hq]
  have n1 : ∀ i, i < 34 → numAt t.data ((5 + 2 * i : Nat) : Int) 2 = (t.wear.getD i 0).toNat := by
    intro i hi
    unfold Tb.data
    rw [List.append_assoc, List.append_assoc]
    exact seqB_num 2 (fun b => (t.wear.getD b 0).toNat) _ _ i 34 hi (hw i) _ (by rw [seqB_len])
  have n2 : ∀ i, i < t.void.length → numAt t.data ((74 + 4 * i : Nat) : Int) 4 = (t.void.getD i 0).toNat := by
    intro i hi
    have := seqB_num 4 (fun b => (t.void.getD b 0).toNat) (seqB 1 (mkN t.bad) 5 ++ seqB 2 (fun b => (t.wear.getD b 0).toNat) 34 ++ beB 1 t.void.length) [] i t.void.length hi (hv i) (74 + 4 * i) (by rw [List.length_append, List.length_append, seqB_len, seqB_len, beB_len])
    rw [List.append_nil] at this
    exact this
  have n3 : (t.data.getD 73 0).toNat = t.void.length := by
    unfold Tb.data
    rw [List.append_assoc, List.getD_eq_getElem?_getD, List.getElem?_append_right (by rw [List.length_append, seqB_len, seqB_len]; omega), List.length_append, seqB_len, seqB_len, List.getElem?_append_left (by rw [beB_len]; omega)]
    show ((UInt8.ofNat (t.void.length / 256 ^ 0))).toNat = _
    rw [Nat.pow_zero, Nat.div_one]
    simp only [UInt8.toNat_ofNat']
    omega
  have b2 : ints ((List.range (min t.hd.lpn.toNat 34)).map fun i => numAt t.data ((5 + 2 * i : Nat) : Int) 2) = t.wear := by
    have e : min t.hd.lpn.toNat 34 = t.wear.length := by
      show min ((t.wear.length : Int)).toNat 34 = _
      rw [Int.toNat_natCast]; omega
    rw [e, List.map_congr_left (g := fun i => (t.wear.getD i 0).toNat) (fun i hi => n1 i (by have := List.mem_range.1 hi; omega))]
    have := wear_back t.wear t.wear.length (Nat.le_refl _) (fun i hi => (h3 i hi).1)
    rwa [List.take_of_length_le (by simp)] at this
  have b3 : ints ((List.range (t.data.getD 73 0).toNat).map fun i => numAt t.data ((74 + 4 * i : Nat) : Int) 4) = t.void := by
    rw [n3, List.map_congr_left (g := fun i => (t.void.getD i 0).toNat) (fun i hi => n2 i (List.mem_range.1 hi))]
    have := wear_back t.void t.void.length (Nat.le_refl _) (fun i hi => (h6 i hi).1)
    rwa [List.take_of_length_le (by simp)] at this
  unfold readR
  rw [b1, b2, b3]
  rfl
/-- What the reference takes for a page's table. -/
def RefTab (b : List UInt8) : Prop := rightB b = true ∧ (headOf b).kind = 1 ∧ 74 ≤ (dataOf b).length ∧ (readR (headOf b) (dataOf b)).May ∧ (readR (headOf b) (dataOf b)).page = b
theorem tab_ref_yes {b : List UInt8} (h : RefTab b) : tabOf b = some (readR (headOf b) (dataOf b)) := by
  have := tabOf_page h.2.2.2.1
  rwa [h.2.2.2.2] at this
theorem tab_ref_no {b : List UInt8} (h : ¬ RefTab b) : tabOf b = none := by
  cases hu : tabOf b with
  | none => rfl
  | some u =>
    exfalso
    obtain ⟨h1, h2, h3⟩ := tabOf_some hu
    have hd : u.data.length = u.hd.len.toNat := by show _ = ((u.data.length : Int)).toNat; rw [Int.toNat_natCast]
    obtain ⟨e1, e2⟩ := page_back u.hd u.data (Tb.hd_may h1) hd
    have e3 : headOf b = u.hd := by rw [← h2]; exact e1
    have e4 : dataOf b = u.data := by rw [← h2]; exact e2
    refine h ⟨h3, by rw [e3]; rfl, by rw [e4, Tb.data_len]; omega, ?_, ?_⟩
    · rw [e3, e4, readR_back h1]; exact h1
    · rw [e3, e4, readR_back h1]; exact h2
end
end Go.Proofs.YtigpplckddnghaaGreat
