/-
  MirrorOne: its loop. (By gen/MrP.gen.py.)
-/
import Derived.Test.YtigpplckddnghaaMrO
namespace Go.Proofs.Ytigpplckddnghaa
open Go.RowKit
set_option maxRecDepth 8000
/-- A table of another number. -/
def Tl.num (x : Tl) (s : Nat) : Tl := ⟨⟨s, x.t.bad, x.t.wear, x.t.void⟩, x.A1, x.A2, x.A3, x.c1, x.c2, x.c3⟩
theorem Tl.Ok.num {x : Tl} {w : World} {B s : Nat} (h : x.Ok w B) (hs : s < 18446744073709551616) : (x.num s).Ok w B := ⟨h.l1, h.l2, h.l3, h.k1, h.k2, h.k3, h.pos, hs, h.top⟩
theorem May.few {x : Tl} (h : x.t.May) : x.Few := ⟨by have := rise_len (b := 34) h.2.1; omega, by have := h.2.2.1.2; omega, by have := h.2.2.2.1; omega⟩
theorem Dv.writeR_ops (D : Dv) (p : List UInt8) : (D.writeR p).2.ops ≤ D.ops + 2 := by
  unfold Dv.writeR
  split
  · split
    · exact Nat.le_trans (Dv.progR_ops _ _ _ _) (Nat.succ_le_succ (Dv.eraR_ops _ _))
    · exact Nat.le_succ_of_le (Dv.eraR_ops _ _)
  · exact Nat.le_succ_of_le (Dv.progR_ops _ _ _ _)
/-- What the loop knows behind j writes. -/
structure OneS (w : World) (B0 B : Nat) (k kb kp km kw j : Nat) (is : Bool) (D : Dv) (z : Tl) (W : World) : Prop where
  dev : DevAt W B0 B D k kb kp km
  big : B ≤ kw
  low : w.heap.size ≤ B0 ∧ B0 ≤ B
  mi : Mi D j
  dn : D.dn = false
  ops : D.ops ≤ 2 * j
  box : BoxT z kw W
  ok : z.Ok w w.heap.size
  few : z.Few
  yes : is = true → ∃ r, D.newest = some (z.t, r)
  no : is = false → D.newest = none
  below : Below w.heap.size w W
section
variable {w W W' : World} {B0 B k kb kp km kw j : Nat} {is : Bool} {D D' : Dv} {z y : Tl}
theorem OneS.bigW (h : OneS w B0 B k kb kp km kw j is D z W) : B ≤ W.heap.size := Nat.le_trans h.big (Nat.le_of_lt h.box.lt)
theorem OneS.later (h : OneS w B0 B k kb kp km kw j is D z W) (hb : Below W.heap.size W W') : OneS w B0 B k kb kp km kw j is D z W' :=
  ⟨h.dev.below (hb.mono h.bigW), h.big, h.low, h.mi, h.dn, h.ops, h.box.below hb h.box.lt, h.ok, h.few, h.yes, h.no, h.below.trans (hb.mono h.below.size)⟩
theorem OneS.next (h : OneS w B0 B k kb kp km kw j is D z W) : OneS w B0 B k kb kp km kw (j + 1) is D z W :=
  ⟨h.dev, h.big, h.low, h.mi.mono (Nat.le_succ _), h.dn, by have := h.ops; omega, h.box, h.ok, h.few, h.yes, h.no, h.below⟩
end

theorem Mi.newest_lt {D : Dv} {S : Nat} {u : Tb} {r : Nat} (h : Mi D S) (e : D.newest = some (u, r)) : u.seq < S := by
  unfold Dv.newest at e
  cases ha : last (D.tabs 0) with
  | none =>
    rw [ha] at e
    cases hb : last (D.tabs 1) with
    | none => rw [hb] at e; cases e
    | some b =>
      rw [hb] at e
      injection e with e; injection e with e _
      rw [← e]; exact (h.below (by decide) (last_spec _ hb).1).2
  | some a =>
    rw [ha] at e
    cases hb : last (D.tabs 1) with
    | none =>
      rw [hb] at e
      injection e with e; injection e with e _
      rw [← e]; exact (h.below (by decide) (last_spec _ ha).1).2
    | some b =>
      rw [hb, comb_two] at e
      split at e <;> (injection e with e; injection e with e _; rw [← e])
      · exact (h.below (by decide) (last_spec _ hb).1).2
      · exact (h.below (by decide) (last_spec _ ha).1).2
set_option maxHeartbeats 16000000 in
theorem mone_on (q : Pn) (A : Option Addr) (n c : Nat) (l : List Tl) (w : World) (hq : q.Ok w w.heap.size) (hlight : q.light = true) (hr : q.g.Right) (h0 : (0 : Int) ∉ q.bl) (h1 : (1 : Int) ∉ q.bl) (hA : Lies w w.heap.size A (rowT l)) (hn : n = l.length) (hnc : n ≤ 9223372036854775807) (hok : ∀ x ∈ l, x.Ok w w.heap.size) (hlong : ∀ x ∈ l, x.Long) :
    Calls Try.prog 3 #[q.val, .slice A n c] w fun e w' => e = .returned (.bool true) ∧ Below w.heap.size w w' := by
  have b1 := (Below.refl w.heap.size w).alloc (Nat.le_refl _) (.cells #[.int .i64 q.g.b, .int .i64 q.g.p, .int .i64 q.g.r, .slice q.A1 q.n1 q.c1, .slice q.A2 q.n2 q.c2] 27)
  have Hb1 := hide b1
  have hx1 : BoxQ q w.heap.size (w.alloc (.cells #[.int .i64 q.g.b, .int .i64 q.g.p, .int .i64 q.g.r, .slice q.A1 q.n1 q.c1, .slice q.A2 q.n2 q.c2] 27)) := heap_alloc_new w _
  have Hx1 := hide hx1
  have Hs1 := hide (show w.heap.size < (w.alloc (.cells #[.int .i64 q.g.b, .int .i64 q.g.p, .int .i64 q.g.r, .slice q.A1 q.n1 q.c1, .slice q.A2 q.n2 q.c2] 27)).heap.size by simp)
  have hnum : q.n1 ≤ 60 ∧ q.n2 ≤ 40 := by
    unfold Pn.light at hlight
    simp only [Bool.and_eq_true, decide_eq_true_eq] at hlight
    exact hlight.1
  have FL := hide (light_any q w.heap.size _ (hq.below b1) b1.size)
  rw [hlight] at FL
  have FR := hide (fun W => right13_any q.g W)
  rw [decide_eq_true hr] at FR
  have F0 := hide (fun W (hW : Below w.heap.size w W) => has16_any q.A1 q.n1 q.c1 w.heap.size q.bl 0 W ((hq.below hW).l1) hq.h1 (by omega))
  rw [decide_eq_false h0] at F0
  have F1 := hide (fun W (hW : Below w.heap.size w W) => has16_any q.A1 q.n1 q.c1 w.heap.size q.bl 1 W ((hq.below hW).l1) hq.h1 (by omega))
  rw [decide_eq_false h1] at F1
  have FN := hide (fun W (hW : Below w.heap.size w W) => new_ok q.g q.A1 q.A2 q.n1 q.c1 q.n2 q.c2 w.heap.size q.bl q.fl W hr (hq.below hW).l1 hq.h1 (by omega) (hq.below hW).l2 hq.h2 (by omega) (hq.below hW).h3 hW.size)
  have HA := hide hA
  have Hn := hide hn
  have Hnc := hide hnc
  have Hok := hide hok
  have Hlong := hide hlong
  have Hr := hide hr
  clear b1 hx1 hq hlight hr h0 h1 hA hn hnc hok hlong hnum
  unfold Pn.val at *
  unfold Gm.val at FR FN
  go_enter Try.func3, Try.ntmps3
  go_wp2_with fail
  (with_reducible refine FL.out.mono ?_)
  rintro e w2 ⟨rfl, hb⟩
  have HB2 := hide (Hb1.out.trans (hb.mono Hb1.out.size))
  have HX2 := hide (Hx1.out.below hb Hs1.out)
  have HS2 := hide (Nat.lt_of_lt_of_le Hs1.out hb.size)
  clear hb FL Hb1 Hx1 Hs1
  have c0 := HX2.out.c 0 _ rfl
  have c1 := HX2.out.c 1 _ rfl
  have c2 := HX2.out.c 2 _ rfl
  go_wp2_with fail
  (with_reducible refine (FR.out _).mono ?_)
  rintro e w3 ⟨rfl, hb⟩
  have HB3 := hide (HB2.out.trans (hb.mono HB2.out.size))
  have HX3 := hide (HX2.out.below hb HS2.out)
  have HS3 := hide (Nat.lt_of_lt_of_le HS2.out hb.size)
  clear hb FR HX2 HB2 HS2 c0 c1 c2
  have c3 := HX3.out.c 3 _ rfl
  go_wp2_with fail
  (with_reducible refine (F0.out _ HB3.out).mono ?_)
  rintro e w4 ⟨rfl, rfl⟩
  go_wp2_with fail
  (with_reducible refine (F1.out _ HB3.out).mono ?_)
  rintro e w4 ⟨rfl, rfl⟩
  clear c3 F0 F1
  go_wp2_with fail
  (with_reducible refine (awake17_any _).mono ?_)
  rintro e w4 ⟨rfl, hb⟩
  have HB4 := hide (HB3.out.trans (hb.mono HB3.out.size))
  have HX4 := hide (HX3.out.below hb HS3.out)
  clear hb HX3 HB3 HS3
  have c0 := HX4.out.c 0 _ rfl
  have c1 := HX4.out.c 1 _ rfl
  have c2 := HX4.out.c 2 _ rfl
  have c3 := HX4.out.c 3 _ rfl
  have c4 := HX4.out.c 4 _ rfl
  go_wp2_with fail
  (with_reducible refine (FN.out _ HB4.out).mono ?_)
  rintro e w5 ⟨k, kb, kp, km, rfl, h5, hb⟩
  have hb6 := (Below.refl w5.heap.size w5).alloc (Nat.le_refl _) (.cells #[.int .u64 0, .slice none 0 0, .slice none 0 0, .slice none 0 0] 39)
  have hnb := h5.sides.1
  have S0 : Hid (OneS w w4.heap.size w5.heap.size k kb kp km w5.heap.size 0 false (Dv.fresh q.g q.bl q.fl) zeroTl (w5.alloc (.cells #[.int .u64 0, .slice none 0 0, .slice none 0 0, .slice none 0 0] 39))) := hide
    ⟨h5.below hb6, Nat.le_refl _, ⟨HB4.out.size, hb.size⟩, Mi.fresh _ _ _ (by omega), rfl, Nat.zero_le _, BoxT.new zeroTl w5, zeroTl_ok _ _, zeroTl_few, fun h => absurd h (by decide), fun _ => newest_fresh _ _ _, (HB4.out.trans (hb.mono HB4.out.size)).trans (hb6.mono (Nat.le_trans HB4.out.size hb.size))⟩
  clear h5 hb hb6 hnb FN HX4 c0 c1 c2 c3 c4
  go_wp2
  generalize w5.alloc (.cells #[.int .u64 0, .slice none 0 0, .slice none 0 0, .slice none 0 0] 39) = w6 at *
  generalize w5.heap.size = kw at *
  have S0 : Hid (OneS w w4.heap.size kw k kb kp km kw 0 false (Dv.fresh q.g q.bl q.fl) zeroTl w6) := S0
  go_loopw [8, 9, 10, 11, 12, 13, 14, 15, 16, 17] (fun b s i _ _ _ _ _ _ _ wr => ∃ (j : Nat) (is : Bool) (D : Dv) (z : Tl), j ≤ l.length ∧ j ≤ 30 ∧ b = .bool is ∧ s = .int .u64 (j : Int) ∧ i = .int .i64 (j : Int) ∧ Hid (OneS w w4.heap.size kw k kb kp km kw j is D z wr)) (fun _ _ i _ _ _ _ _ _ _ _ => 30 - (intOf i).toNat)
  case atStart => exact ⟨0, false, _, zeroTl, Nat.zero_le _, Nat.zero_le _, rfl, rfl, rfl, S0⟩
  case round =>
    obtain ⟨j, is, D, z, hjl, hj30, rfl, rfl, rfl, HS⟩ := hrel
    clear S0
    have hnl : (n : Int) = (l.length : Int) := by rw [Hn.out]
    by_cases hj : j < l.length
    · by_cases h30 : j < 30
      · have hlt' : (j : Int) < (n : Int) := by omega
        have h30' : (j : Int) < 30 := by omega
        obtain ⟨a, rfl, hab, hca⟩ := (HA.out.below HS.out.below).elem Tl.cells_len hj (by decide)
        obtain ⟨x, hx⟩ : ∃ x, l[j] = x := ⟨_, rfl⟩
        have hxm : x ∈ l := by rw [← hx]; exact List.getElem_mem hj
        rw [hx] at hca
        have Hxo := hide ((Hok.out x hxm).num (s := j) (by omega))
        have Hxl := hide (Hlong.out x hxm)
        have hb7 := (Below.refl wr.heap.size wr).alloc (Nat.le_refl _) (.cells #[.int .u64 0, .slice none 0 0, .slice none 0 0, .slice none 0 0] 39)
        have d1 := hca 1 _ rfl
        have d2 := hca 2 _ rfl
        have d3 := hca 3 _ rfl
        have i1 := (hb7.cell (World.block_lt_of_cell? _ _ d1)).trans d1
        have i2 := (hb7.cell (World.block_lt_of_cell? _ _ d2)).trans d2
        have i3 := (hb7.cell (World.block_lt_of_cell? _ _ d3)).trans d3
        rw [add_offP] at d1 d2 d3 i1 i2 i3
        have Hb8 := hide ((Below.refl wr.heap.size wr).alloc (Nat.le_refl _) (.cells #[.int .u64 (j : Int), .slice x.A1 x.t.bad.length x.c1, .slice x.A2 x.t.wear.length x.c2, .slice x.A3 x.t.void.length x.c3] 39)).drew
        have HT7 : Hid (BoxT (x.num j) wr.heap.size (wr.alloc (.cells #[.int .u64 (j : Int), .slice x.A1 x.t.bad.length x.c1, .slice x.A2 x.t.wear.length x.c2, .slice x.A3 x.t.void.length x.c3] 39)).drew) := hide (BoxT.new (x.num j) wr)
        clear hca hx hxm hab hb7
        go_wp2
        go_region
        generalize (wr.alloc (.cells #[.int .u64 (j : Int), .slice x.A1 x.t.bad.length x.c1, .slice x.A2 x.t.wear.length x.c2, .slice x.A3 x.t.void.length x.c3] 39)).drew = w7 at *
        have HS7 := hide (HS.out.later Hb8.out)
        have HK7 := hide HS.out.bigW
        have HKw := hide HS.out.box.lt
        generalize wr.heap.size = kt at *
        clear Hb8 HS d1 d2 d3 i1 i2 i3
        have c0 : w7.cell? ⟨kt, 0, none⟩ = some (.int .u64 (j : Int)) := HT7.out.c 0 _ rfl
        have c1 : w7.cell? ⟨kt, 1, none⟩ = some (.slice x.A1 x.t.bad.length x.c1) := HT7.out.c 1 _ rfl
        have c2 : w7.cell? ⟨kt, 2, none⟩ = some (.slice x.A2 x.t.wear.length x.c2) := HT7.out.c 2 _ rfl
        have c3 : w7.cell? ⟨kt, 3, none⟩ = some (.slice x.A3 x.t.void.length x.c3) := HT7.out.c 3 _ rfl
        have FM := hide (may16_big (x.num j) w.heap.size w7 (Hxo.out.below HS7.out.below) ⟨Hxl.out.f1, Hxl.out.f2, Hxl.out.f3⟩ HS7.out.below.size)
        rw [show (x.num j).val = .agg #[.int .u64 (j : Int), .slice x.A1 x.t.bad.length x.c1, .slice x.A2 x.t.wear.length x.c2, .slice x.A3 x.t.void.length x.c3] from rfl] at FM
        have e8 : ((j : Int) + 1) % 18446744073709551616 = ((j + 1 : Nat) : Int) := by omega
        have e7 : wrap64 ((j : Int) + 1) = ((j + 1 : Nat) : Int) := by unfold wrap64; omega
        go_wp2_with fail
        (with_reducible refine FM.out.mono ?_)
        rintro e w8 ⟨rfl, hb⟩
        have HS8 := hide (HS7.out.later hb)
        have HT8 := hide (HT7.out.below hb HT7.out.lt)
        clear hb FM HS7 HT7 c0 c1 c2 c3
        have Hj := hide (show j < l.length ∧ j < 30 from ⟨hj, h30⟩)
        clear hj h30
        by_cases hm : (x.num j).t.May
        · rw [decide_eq_true hm]
          have hs8 := HS8.out.dev.sides
          have HW := hide (HS8.out.mi.write (t := (x.num j).t) HS8.out.dn hs8.2.2.1 ⟨hs8.2.2.2.2.1, hs8.2.2.2.2.2⟩ hm (Nat.le_refl _))
          have Fw := hide (mwrite_any HS8.out.dev HS8.out.bigW HS8.out.dn (by have := HS8.out.ops; have := Hj.out.2; omega) (x.num j) w.heap.size (Hxo.out.below HS8.out.below) (May.few hm) hm HS8.out.below.size)
          rw [show (x.num j).val = .agg #[.int .u64 (j : Int), .slice x.A1 x.t.bad.length x.c1, .slice x.A2 x.t.wear.length x.c2, .slice x.A3 x.t.void.length x.c3] from rfl] at Fw
          have Hops := hide (Dv.writeR_ops D (x.num j).t.page)
          have Hfew : Hid (x.num j).Few := hide (May.few hm)
          have c0 : w8.cell? ⟨kt, 0, none⟩ = some (.int .u64 (j : Int)) := HT8.out.c 0 _ rfl
          have c1 : w8.cell? ⟨kt, 1, none⟩ = some (.slice x.A1 x.t.bad.length x.c1) := HT8.out.c 1 _ rfl
          have c2 : w8.cell? ⟨kt, 2, none⟩ = some (.slice x.A2 x.t.wear.length x.c2) := HT8.out.c 2 _ rfl
          have c3 : w8.cell? ⟨kt, 3, none⟩ = some (.slice x.A3 x.t.void.length x.c3) := HT8.out.c 3 _ rfl
          clear hm hs8
          generalize D.writeR (x.num j).t.page = R at *
          rcases R with ⟨fv, E⟩
          dsimp only at HW Fw Hops
          go_wp2_with fail
          (with_reducible refine Fw.out.mono ?_)
          rintro e w9 ⟨rfl, h9, ht9⟩
          have HT9 : Hid (BoxT (x.num j) kt w9) := hide ((ht9.block _ HT8.out.lt (off_dev HS8.out.dev HK7.out)).trans HT8.out)
          have HZ9 : Hid (BoxT z kw w9) := hide ((ht9.block _ HS8.out.box.lt (off_dev HS8.out.dev HS8.out.big)).trans HS8.out.box)
          have HB9 := hide (HS8.out.below.trans ((low_dev HS8.out.dev ht9 (Nat.le_trans HS8.out.low.2 HS8.out.bigW)).mono HS8.out.low.1))
          have HK9 := hide (Nat.le_trans HS8.out.bigW ht9.size)
          have H9 := hide h9
          clear h9 ht9 Fw c0 c1 c2 c3
          have Fp := hide (power_any H9.out HK9.out)
          go_wp2_with fail
          (with_reducible refine Fp.out.mono ?_)
          rintro e w10 ⟨rfl, h10, ht10⟩
          have HT10 : Hid (BoxT (x.num j) kt w10) := hide ((ht10.block _ HT9.out.lt (off_dev H9.out HK7.out)).trans HT9.out)
          have HZ10 : Hid (BoxT z kw w10) := hide ((ht10.block _ HZ9.out.lt (off_dev H9.out HS8.out.big)).trans HZ9.out)
          have HB10 := hide (HB9.out.trans ((low_dev H9.out ht10 (Nat.le_trans HS8.out.low.2 HK9.out)).mono HS8.out.low.1))
          have HK10 := hide (Nat.le_trans HK9.out ht10.size)
          have H10 := hide h10
          clear h10 ht10 Fp HT9 HZ9 HB9 HK9 H9
          obtain ⟨E2, hE2⟩ : ∃ E2 : Dv, E2 = { E with dn := false } := ⟨_, rfl⟩
          have HE : Hid (E2.newest = E.newest ∧ E2.dn = false ∧ E2.ops = E.ops ∧ Mi E2 ((x.num j).t.seq + 1)) := hide (by rw [hE2]; exact ⟨rfl, rfl, rfl, HW.out.1.power false⟩)
          rw [← hE2] at H10
          clear hE2
          have Fn := hide (mnew_any H10.out HK10.out HE.out.2.1)
          generalize hNE : E2.newest = N at *
          have HNE := hide hNE
          clear hNE
          go_wp2_with fail
          (with_reducible refine Fn.out.mono ?_)
          rintro e w11 ⟨u, rfl, hut, huk, huf, hhi, hb⟩
          have hb12 := (Below.refl w11.heap.size w11).alloc (Nat.le_refl _) (.cells u.cells.toArray 39)
          have HU12 := hide (BoxT.new u w11)
          have HO12 := hide ((huk.below hb12).up hb12.size)
          have HT12 := hide ((HT10.out.below hb HT10.out.lt).below hb12 (Nat.lt_of_lt_of_le HT10.out.lt hb.size))
          have HZ12 := hide ((HZ10.out.below hb HZ10.out.lt).below hb12 (Nat.lt_of_lt_of_le HZ10.out.lt hb.size))
          have HB12 := hide ((HB10.out.trans (hb.mono HB10.out.size)).trans (hb12.mono (Nat.le_trans HB10.out.size hb.size)))
          have H12 := hide ((H10.out.below (hb.mono HK10.out)).below (hb12.mono (Nat.le_trans HK10.out hb.size)))
          have HK12 := hide (Nat.le_trans HK10.out (Nat.le_trans hb.size hb12.size))
          rw [show u.cells.toArray = #[.int .u64 (u.t.seq : Int), .slice u.A1 u.t.bad.length u.c1, .slice u.A2 u.t.wear.length u.c2, .slice u.A3 u.t.void.length u.c3] from rfl] at HU12 HO12 HT12 HZ12 HB12 H12 HK12
          rw [show u.val = .agg #[.int .u64 (u.t.seq : Int), .slice u.A1 u.t.bad.length u.c1, .slice u.A2 u.t.wear.length u.c2, .slice u.A3 u.t.void.length u.c3] from rfl]
          have Hut := hide hut
          have Huf := hide huf
          clear hut huk huf hhi hb hb12 Fn HT10 HZ10 HB10 H10 HK10
          go_upto_region 17 with fail
          generalize w11.alloc (.cells #[.int .u64 (u.t.seq : Int), .slice u.A1 u.t.bad.length u.c1, .slice u.A2 u.t.wear.length u.c2, .slice u.A3 u.t.void.length u.c3] 39) = w12 at *
          generalize w11.heap.size = ku at *
          have HL12 := hide (Below.refl w12.heap.size w12)
          have FS1 := hide (fun W (hW : Below w12.heap.size w12 W) => same16_any u (x.num j) w12.heap.size W (HO12.out.below hW) (((Hxo.out.below HB12.out).up HB12.out.size).below hW) Huf.out Hfew.out hW.size)
          have FS2 := hide (fun W (hW : Below w12.heap.size w12 W) => same16_any u z w12.heap.size W (HO12.out.below hW) (((HS8.out.ok.below HB12.out).up HB12.out.size).below hW) Huf.out HS8.out.few hW.size)
          rw [show u.val = .agg #[.int .u64 (u.t.seq : Int), .slice u.A1 u.t.bad.length u.c1, .slice u.A2 u.t.wear.length u.c2, .slice u.A3 u.t.void.length u.c3] from rfl] at FS1 FS2
          rw [show (x.num j).val = .agg #[.int .u64 (j : Int), .slice x.A1 x.t.bad.length x.c1, .slice x.A2 x.t.wear.length x.c2, .slice x.A3 x.t.void.length x.c3] from rfl] at FS1
          rw [show z.val = .agg #[.int .u64 (z.t.seq : Int), .slice z.A1 z.t.bad.length z.c1, .slice z.A2 z.t.wear.length z.c2, .slice z.A3 z.t.void.length z.c3] from rfl] at FS2
          clear HO12 HK7
          rcases HW.out.2 with hA | ⟨hB, hne⟩
          · have HN : Hid (N = some ((x.num j).t, D.older)) := hide (HE.out.1.trans hA)
            have hV : newV N = ((x.num j).t, (D.older : Int), 0) := by rw [HN.out]; rfl
            rw [hV] at Hut ⊢
            dsimp only at Hut ⊢
            clear hV hA
            rw [decide_eq_true Hut.out] at FS1
            cases is with
            | true =>
              have hzl : ¬ u.t = z.t := fun h => by
                obtain ⟨r, hz⟩ := HS8.out.yes rfl
                have h1 := HS8.out.mi.newest_lt hz
                have h2 : (x.num j).t.seq = z.t.seq := by rw [← Hut.out, h]
                have h3 : (x.num j).t.seq = j := rfl
                omega
              rw [decide_eq_false hzl] at FS2
              clear hzl
              by_cases hf : fv = 0
              · have hf0 : (fv == 0) = true := by rw [hf]; rfl
                subst hf
                have u0 := HU12.out.c 0 _ rfl
                have u1 := HU12.out.c 1 _ rfl
                have u2 := HU12.out.c 2 _ rfl
                have u3 := HU12.out.c 3 _ rfl
                have c0 : w12.cell? ⟨kt, 0, none⟩ = some (.int .u64 (j : Int)) := HT12.out.c 0 _ rfl
                have c1 : w12.cell? ⟨kt, 1, none⟩ = some (.slice x.A1 x.t.bad.length x.c1) := HT12.out.c 1 _ rfl
                have c2 : w12.cell? ⟨kt, 2, none⟩ = some (.slice x.A2 x.t.wear.length x.c2) := HT12.out.c 2 _ rfl
                have c3 : w12.cell? ⟨kt, 3, none⟩ = some (.slice x.A3 x.t.void.length x.c3) := HT12.out.c 3 _ rfl
                go_wp2_with fail
                (with_reducible refine (FS1.out _ HL12.out).mono ?_)
                rintro e w13 ⟨rfl, hb⟩
                clear u0 u1 u2 u3 c0 c1 c2 c3 FS1
                have HU13 := hide (HU12.out.below hb HU12.out.lt)
                have HT13 := hide (HT12.out.below hb HT12.out.lt)
                have HZ13 := hide (HZ12.out.below hb HZ12.out.lt)
                have HB13 := hide (HB12.out.trans (hb.mono HB12.out.size))
                have H13 := hide (H12.out.below (hb.mono HK12.out))
                have HK13 := hide (Nat.le_trans HK12.out hb.size)
                have HL13 := hide (HL12.out.trans (hb.mono HL12.out.size))
                clear hb
                have u0 := HU13.out.c 0 _ rfl
                have u1 := HU13.out.c 1 _ rfl
                have u2 := HU13.out.c 2 _ rfl
                have u3 := HU13.out.c 3 _ rfl
                have z0 := HZ13.out.c 0 _ rfl
                have z1 := HZ13.out.c 1 _ rfl
                have z2 := HZ13.out.c 2 _ rfl
                have z3 := HZ13.out.c 3 _ rfl
                go_wp2_with fail
                (with_reducible refine (FS2.out _ HL13.out).mono ?_)
                rintro e w14 ⟨rfl, hb⟩
                clear u0 u1 u2 u3 z0 z1 z2 z3 FS2
                have HU14 := hide (HU13.out.below hb HU13.out.lt)
                have HT14 := hide (HT13.out.below hb HT13.out.lt)
                have HZ14 := hide (HZ13.out.below hb HZ13.out.lt)
                have HB14 := hide (HB13.out.trans (hb.mono HB13.out.size))
                have H14 := hide (H13.out.below (hb.mono HK13.out))
                have HK14 := hide (Nat.le_trans HK13.out hb.size)
                have HL14 := hide (HL13.out.trans (hb.mono HL13.out.size))
                clear hb
                have c0 : w14.cell? ⟨kt, 0, none⟩ = some (.int .u64 (j : Int)) := HT14.out.c 0 _ rfl
                have c1 : w14.cell? ⟨kt, 1, none⟩ = some (.slice x.A1 x.t.bad.length x.c1) := HT14.out.c 1 _ rfl
                have c2 : w14.cell? ⟨kt, 2, none⟩ = some (.slice x.A2 x.t.wear.length x.c2) := HT14.out.c 2 _ rfl
                have c3 : w14.cell? ⟨kt, 3, none⟩ = some (.slice x.A3 x.t.void.length x.c3) := HT14.out.c 3 _ rfl
                have z0 := HZ14.out.c 0 _ rfl
                have z1 := HZ14.out.c 1 _ rfl
                have z2 := HZ14.out.c 2 _ rfl
                have z3 := HZ14.out.c 3 _ rfl
                have y0 := HZ14.out.free 0
                have y1 := HZ14.out.free 1
                have y2 := HZ14.out.free 2
                have y3 := HZ14.out.free 3
                have HQ : Hid (OneS w w4.heap.size kw k kb kp km kw (j + 1) true E2 (x.num j) (putT w14 kw (x.num j))) := hide ⟨H14.out.below (putT_below (Below.refl _ _) (Nat.le_refl _) _), Nat.le_refl _, HS8.out.low, HE.out.2.2.2, HE.out.2.1, by have := HE.out.2.2.1; have := Hops.out; have := HS8.out.ops; omega, boxT4 HZ14.out, Hxo.out, Hfew.out, fun _ => ⟨_, HNE.out.trans HN.out⟩, fun h => absurd h (by decide), putT_below HB14.out (Nat.le_trans HS8.out.low.1 HS8.out.low.2) _⟩
                go_wp2
                go_roundw
                case rel => exact ⟨j + 1, true, E2, x.num j, Hj.out.1, Hj.out.2, rfl, congrArg (Value.int .u64) (by first | exact e8 | rfl | omega), congrArg (Value.int .i64) (by first | exact e7 | rfl | omega), HQ⟩
                case measure => first | exact measT Hj.out.2 | exact measT2 e7 Hj.out.2
              · have hf0 : (fv == 0) = false := beq_eq_false_iff_ne.2 hf
                have Hf := hide hf
                clear hf
                have u0 := HU12.out.c 0 _ rfl
                have u1 := HU12.out.c 1 _ rfl
                have u2 := HU12.out.c 2 _ rfl
                have u3 := HU12.out.c 3 _ rfl
                have c0 : w12.cell? ⟨kt, 0, none⟩ = some (.int .u64 (j : Int)) := HT12.out.c 0 _ rfl
                have c1 : w12.cell? ⟨kt, 1, none⟩ = some (.slice x.A1 x.t.bad.length x.c1) := HT12.out.c 1 _ rfl
                have c2 : w12.cell? ⟨kt, 2, none⟩ = some (.slice x.A2 x.t.wear.length x.c2) := HT12.out.c 2 _ rfl
                have c3 : w12.cell? ⟨kt, 3, none⟩ = some (.slice x.A3 x.t.void.length x.c3) := HT12.out.c 3 _ rfl
                go_wp2_with fail
                (with_reducible refine (FS1.out _ HL12.out).mono ?_)
                rintro e w13 ⟨rfl, hb⟩
                clear u0 u1 u2 u3 c0 c1 c2 c3 FS1
                have HU13 := hide (HU12.out.below hb HU12.out.lt)
                have HT13 := hide (HT12.out.below hb HT12.out.lt)
                have HZ13 := hide (HZ12.out.below hb HZ12.out.lt)
                have HB13 := hide (HB12.out.trans (hb.mono HB12.out.size))
                have H13 := hide (H12.out.below (hb.mono HK12.out))
                have HK13 := hide (Nat.le_trans HK12.out hb.size)
                have HL13 := hide (HL12.out.trans (hb.mono HL12.out.size))
                clear hb
                have u0 := HU13.out.c 0 _ rfl
                have u1 := HU13.out.c 1 _ rfl
                have u2 := HU13.out.c 2 _ rfl
                have u3 := HU13.out.c 3 _ rfl
                have z0 := HZ13.out.c 0 _ rfl
                have z1 := HZ13.out.c 1 _ rfl
                have z2 := HZ13.out.c 2 _ rfl
                have z3 := HZ13.out.c 3 _ rfl
                go_wp2_with fail
                (with_reducible refine (FS2.out _ HL13.out).mono ?_)
                rintro e w14 ⟨rfl, hb⟩
                clear u0 u1 u2 u3 z0 z1 z2 z3 FS2
                have HU14 := hide (HU13.out.below hb HU13.out.lt)
                have HT14 := hide (HT13.out.below hb HT13.out.lt)
                have HZ14 := hide (HZ13.out.below hb HZ13.out.lt)
                have HB14 := hide (HB13.out.trans (hb.mono HB13.out.size))
                have H14 := hide (H13.out.below (hb.mono HK13.out))
                have HK14 := hide (Nat.le_trans HK13.out hb.size)
                have HL14 := hide (HL13.out.trans (hb.mono HL13.out.size))
                clear hb
                have c0 : w14.cell? ⟨kt, 0, none⟩ = some (.int .u64 (j : Int)) := HT14.out.c 0 _ rfl
                have c1 : w14.cell? ⟨kt, 1, none⟩ = some (.slice x.A1 x.t.bad.length x.c1) := HT14.out.c 1 _ rfl
                have c2 : w14.cell? ⟨kt, 2, none⟩ = some (.slice x.A2 x.t.wear.length x.c2) := HT14.out.c 2 _ rfl
                have c3 : w14.cell? ⟨kt, 3, none⟩ = some (.slice x.A3 x.t.void.length x.c3) := HT14.out.c 3 _ rfl
                have z0 := HZ14.out.c 0 _ rfl
                have z1 := HZ14.out.c 1 _ rfl
                have z2 := HZ14.out.c 2 _ rfl
                have z3 := HZ14.out.c 3 _ rfl
                have y0 := HZ14.out.free 0
                have y1 := HZ14.out.free 1
                have y2 := HZ14.out.free 2
                have y3 := HZ14.out.free 3
                have HQ : Hid (OneS w w4.heap.size kw k kb kp km kw (j + 1) true E2 (x.num j) (putT w14 kw (x.num j))) := hide ⟨H14.out.below (putT_below (Below.refl _ _) (Nat.le_refl _) _), Nat.le_refl _, HS8.out.low, HE.out.2.2.2, HE.out.2.1, by have := HE.out.2.2.1; have := Hops.out; have := HS8.out.ops; omega, boxT4 HZ14.out, Hxo.out, Hfew.out, fun _ => ⟨_, HNE.out.trans HN.out⟩, fun h => absurd h (by decide), putT_below HB14.out (Nat.le_trans HS8.out.low.1 HS8.out.low.2) _⟩
                go_wp2
                go_roundw
                case rel => exact ⟨j + 1, true, E2, x.num j, Hj.out.1, Hj.out.2, rfl, congrArg (Value.int .u64) (by first | exact e8 | rfl | omega), congrArg (Value.int .i64) (by first | exact e7 | rfl | omega), HQ⟩
                case measure => first | exact measT Hj.out.2 | exact measT2 e7 Hj.out.2
            | false =>
              by_cases hf : fv = 0
              · have hf0 : (fv == 0) = true := by rw [hf]; rfl
                subst hf
                have u0 := HU12.out.c 0 _ rfl
                have u1 := HU12.out.c 1 _ rfl
                have u2 := HU12.out.c 2 _ rfl
                have u3 := HU12.out.c 3 _ rfl
                have c0 : w12.cell? ⟨kt, 0, none⟩ = some (.int .u64 (j : Int)) := HT12.out.c 0 _ rfl
                have c1 : w12.cell? ⟨kt, 1, none⟩ = some (.slice x.A1 x.t.bad.length x.c1) := HT12.out.c 1 _ rfl
                have c2 : w12.cell? ⟨kt, 2, none⟩ = some (.slice x.A2 x.t.wear.length x.c2) := HT12.out.c 2 _ rfl
                have c3 : w12.cell? ⟨kt, 3, none⟩ = some (.slice x.A3 x.t.void.length x.c3) := HT12.out.c 3 _ rfl
                go_wp2_with fail
                (with_reducible refine (FS1.out _ HL12.out).mono ?_)
                rintro e w13 ⟨rfl, hb⟩
                clear u0 u1 u2 u3 c0 c1 c2 c3 FS1
                have HU13 := hide (HU12.out.below hb HU12.out.lt)
                have HT13 := hide (HT12.out.below hb HT12.out.lt)
                have HZ13 := hide (HZ12.out.below hb HZ12.out.lt)
                have HB13 := hide (HB12.out.trans (hb.mono HB12.out.size))
                have H13 := hide (H12.out.below (hb.mono HK12.out))
                have HK13 := hide (Nat.le_trans HK12.out hb.size)
                have HL13 := hide (HL12.out.trans (hb.mono HL12.out.size))
                clear hb
                have c0 : w13.cell? ⟨kt, 0, none⟩ = some (.int .u64 (j : Int)) := HT13.out.c 0 _ rfl
                have c1 : w13.cell? ⟨kt, 1, none⟩ = some (.slice x.A1 x.t.bad.length x.c1) := HT13.out.c 1 _ rfl
                have c2 : w13.cell? ⟨kt, 2, none⟩ = some (.slice x.A2 x.t.wear.length x.c2) := HT13.out.c 2 _ rfl
                have c3 : w13.cell? ⟨kt, 3, none⟩ = some (.slice x.A3 x.t.void.length x.c3) := HT13.out.c 3 _ rfl
                have z0 := HZ13.out.c 0 _ rfl
                have z1 := HZ13.out.c 1 _ rfl
                have z2 := HZ13.out.c 2 _ rfl
                have z3 := HZ13.out.c 3 _ rfl
                have y0 := HZ13.out.free 0
                have y1 := HZ13.out.free 1
                have y2 := HZ13.out.free 2
                have y3 := HZ13.out.free 3
                have HQ : Hid (OneS w w4.heap.size kw k kb kp km kw (j + 1) true E2 (x.num j) (putT w13 kw (x.num j))) := hide ⟨H13.out.below (putT_below (Below.refl _ _) (Nat.le_refl _) _), Nat.le_refl _, HS8.out.low, HE.out.2.2.2, HE.out.2.1, by have := HE.out.2.2.1; have := Hops.out; have := HS8.out.ops; omega, boxT4 HZ13.out, Hxo.out, Hfew.out, fun _ => ⟨_, HNE.out.trans HN.out⟩, fun h => absurd h (by decide), putT_below HB13.out (Nat.le_trans HS8.out.low.1 HS8.out.low.2) _⟩
                go_wp2
                go_roundw
                case rel => exact ⟨j + 1, true, E2, x.num j, Hj.out.1, Hj.out.2, rfl, congrArg (Value.int .u64) (by first | exact e8 | rfl | omega), congrArg (Value.int .i64) (by first | exact e7 | rfl | omega), HQ⟩
                case measure => first | exact measT Hj.out.2 | exact measT2 e7 Hj.out.2
              · have hf0 : (fv == 0) = false := beq_eq_false_iff_ne.2 hf
                have Hf := hide hf
                clear hf
                have u0 := HU12.out.c 0 _ rfl
                have u1 := HU12.out.c 1 _ rfl
                have u2 := HU12.out.c 2 _ rfl
                have u3 := HU12.out.c 3 _ rfl
                have c0 : w12.cell? ⟨kt, 0, none⟩ = some (.int .u64 (j : Int)) := HT12.out.c 0 _ rfl
                have c1 : w12.cell? ⟨kt, 1, none⟩ = some (.slice x.A1 x.t.bad.length x.c1) := HT12.out.c 1 _ rfl
                have c2 : w12.cell? ⟨kt, 2, none⟩ = some (.slice x.A2 x.t.wear.length x.c2) := HT12.out.c 2 _ rfl
                have c3 : w12.cell? ⟨kt, 3, none⟩ = some (.slice x.A3 x.t.void.length x.c3) := HT12.out.c 3 _ rfl
                go_wp2_with fail
                (with_reducible refine (FS1.out _ HL12.out).mono ?_)
                rintro e w13 ⟨rfl, hb⟩
                clear u0 u1 u2 u3 c0 c1 c2 c3 FS1
                have HU13 := hide (HU12.out.below hb HU12.out.lt)
                have HT13 := hide (HT12.out.below hb HT12.out.lt)
                have HZ13 := hide (HZ12.out.below hb HZ12.out.lt)
                have HB13 := hide (HB12.out.trans (hb.mono HB12.out.size))
                have H13 := hide (H12.out.below (hb.mono HK12.out))
                have HK13 := hide (Nat.le_trans HK12.out hb.size)
                have HL13 := hide (HL12.out.trans (hb.mono HL12.out.size))
                clear hb
                have c0 : w13.cell? ⟨kt, 0, none⟩ = some (.int .u64 (j : Int)) := HT13.out.c 0 _ rfl
                have c1 : w13.cell? ⟨kt, 1, none⟩ = some (.slice x.A1 x.t.bad.length x.c1) := HT13.out.c 1 _ rfl
                have c2 : w13.cell? ⟨kt, 2, none⟩ = some (.slice x.A2 x.t.wear.length x.c2) := HT13.out.c 2 _ rfl
                have c3 : w13.cell? ⟨kt, 3, none⟩ = some (.slice x.A3 x.t.void.length x.c3) := HT13.out.c 3 _ rfl
                have z0 := HZ13.out.c 0 _ rfl
                have z1 := HZ13.out.c 1 _ rfl
                have z2 := HZ13.out.c 2 _ rfl
                have z3 := HZ13.out.c 3 _ rfl
                have y0 := HZ13.out.free 0
                have y1 := HZ13.out.free 1
                have y2 := HZ13.out.free 2
                have y3 := HZ13.out.free 3
                have HQ : Hid (OneS w w4.heap.size kw k kb kp km kw (j + 1) true E2 (x.num j) (putT w13 kw (x.num j))) := hide ⟨H13.out.below (putT_below (Below.refl _ _) (Nat.le_refl _) _), Nat.le_refl _, HS8.out.low, HE.out.2.2.2, HE.out.2.1, by have := HE.out.2.2.1; have := Hops.out; have := HS8.out.ops; omega, boxT4 HZ13.out, Hxo.out, Hfew.out, fun _ => ⟨_, HNE.out.trans HN.out⟩, fun h => absurd h (by decide), putT_below HB13.out (Nat.le_trans HS8.out.low.1 HS8.out.low.2) _⟩
                go_wp2
                go_roundw
                case rel => exact ⟨j + 1, true, E2, x.num j, Hj.out.1, Hj.out.2, rfl, congrArg (Value.int .u64) (by first | exact e8 | rfl | omega), congrArg (Value.int .i64) (by first | exact e7 | rfl | omega), HQ⟩
                case measure => first | exact measT Hj.out.2 | exact measT2 e7 Hj.out.2
          · have hf : ¬ fv = 0 := hne
            cases is with
            | true =>
              obtain ⟨r, hz⟩ := HS8.out.yes rfl
              have HN : Hid (N = some (z.t, r)) := hide ((HE.out.1.trans hB).trans hz)
              have hV : newV N = (z.t, (r : Int), 0) := by rw [HN.out]; rfl
              rw [hV] at Hut ⊢
              dsimp only at Hut ⊢
              have h1 := HS8.out.mi.newest_lt hz
              have hzl : ¬ u.t = (x.num j).t := fun h => by
                have h2 : (x.num j).t.seq = z.t.seq := by rw [← h, Hut.out]
                have h3 : (x.num j).t.seq = j := rfl
                omega
              rw [decide_eq_false hzl] at FS1
              rw [decide_eq_true Hut.out] at FS2
              clear hzl hV hB hz h1 hne
              have hf0 : (fv == 0) = false := beq_eq_false_iff_ne.2 hf
              have Hf := hide hf
              clear hf
              have u0 := HU12.out.c 0 _ rfl
              have u1 := HU12.out.c 1 _ rfl
              have u2 := HU12.out.c 2 _ rfl
              have u3 := HU12.out.c 3 _ rfl
              have c0 : w12.cell? ⟨kt, 0, none⟩ = some (.int .u64 (j : Int)) := HT12.out.c 0 _ rfl
              have c1 : w12.cell? ⟨kt, 1, none⟩ = some (.slice x.A1 x.t.bad.length x.c1) := HT12.out.c 1 _ rfl
              have c2 : w12.cell? ⟨kt, 2, none⟩ = some (.slice x.A2 x.t.wear.length x.c2) := HT12.out.c 2 _ rfl
              have c3 : w12.cell? ⟨kt, 3, none⟩ = some (.slice x.A3 x.t.void.length x.c3) := HT12.out.c 3 _ rfl
              go_wp2_with fail
              (with_reducible refine (FS1.out _ HL12.out).mono ?_)
              rintro e w13 ⟨rfl, hb⟩
              clear u0 u1 u2 u3 c0 c1 c2 c3 FS1
              have HU13 := hide (HU12.out.below hb HU12.out.lt)
              have HT13 := hide (HT12.out.below hb HT12.out.lt)
              have HZ13 := hide (HZ12.out.below hb HZ12.out.lt)
              have HB13 := hide (HB12.out.trans (hb.mono HB12.out.size))
              have H13 := hide (H12.out.below (hb.mono HK12.out))
              have HK13 := hide (Nat.le_trans HK12.out hb.size)
              have HL13 := hide (HL12.out.trans (hb.mono HL12.out.size))
              clear hb
              have u0 := HU13.out.c 0 _ rfl
              have u1 := HU13.out.c 1 _ rfl
              have u2 := HU13.out.c 2 _ rfl
              have u3 := HU13.out.c 3 _ rfl
              have z0 := HZ13.out.c 0 _ rfl
              have z1 := HZ13.out.c 1 _ rfl
              have z2 := HZ13.out.c 2 _ rfl
              have z3 := HZ13.out.c 3 _ rfl
              go_wp2_with fail
              (with_reducible refine (FS2.out _ HL13.out).mono ?_)
              rintro e w14 ⟨rfl, hb⟩
              clear u0 u1 u2 u3 z0 z1 z2 z3 FS2
              have HU14 := hide (HU13.out.below hb HU13.out.lt)
              have HT14 := hide (HT13.out.below hb HT13.out.lt)
              have HZ14 := hide (HZ13.out.below hb HZ13.out.lt)
              have HB14 := hide (HB13.out.trans (hb.mono HB13.out.size))
              have H14 := hide (H13.out.below (hb.mono HK13.out))
              have HK14 := hide (Nat.le_trans HK13.out hb.size)
              have HL14 := hide (HL13.out.trans (hb.mono HL13.out.size))
              clear hb
              have HQ : Hid (OneS w w4.heap.size kw k kb kp km kw (j + 1) true E2 z w14) := hide ⟨H14.out, Nat.le_refl _, HS8.out.low, HE.out.2.2.2, HE.out.2.1, by have := HE.out.2.2.1; have := Hops.out; have := HS8.out.ops; omega, HZ14.out, HS8.out.ok, HS8.out.few, fun _ => ⟨_, HNE.out.trans HN.out⟩, fun h => absurd h (by decide), HB14.out⟩
              go_wp2
              go_roundw
              case rel => exact ⟨j + 1, true, E2, z, Hj.out.1, Hj.out.2, rfl, congrArg (Value.int .u64) (by first | exact e8 | rfl | omega), congrArg (Value.int .i64) (by first | exact e7 | rfl | omega), HQ⟩
              case measure => first | exact measT Hj.out.2 | exact measT2 e7 Hj.out.2
            | false =>
              have HN : Hid (N = none) := hide ((HE.out.1.trans hB).trans (HS8.out.no rfl))
              have hV : newV N = (zeroT, 0, 8) := by rw [HN.out]; rfl
              rw [hV] at Hut ⊢
              dsimp only at Hut ⊢
              clear hV hB hne
              have hf0 : (fv == 0) = false := beq_eq_false_iff_ne.2 hf
              have Hf := hide hf
              clear hf
              have HQ : Hid (OneS w w4.heap.size kw k kb kp km kw (j + 1) false E2 z w12) := hide ⟨H12.out, Nat.le_refl _, HS8.out.low, HE.out.2.2.2, HE.out.2.1, by have := HE.out.2.2.1; have := Hops.out; have := HS8.out.ops; omega, HZ12.out, HS8.out.ok, HS8.out.few, fun h => absurd h (by decide), fun _ => HNE.out.trans HN.out, HB12.out⟩
              go_wp2
              go_roundw
              case rel => exact ⟨j + 1, false, E2, z, Hj.out.1, Hj.out.2, rfl, congrArg (Value.int .u64) (by first | exact e8 | rfl | omega), congrArg (Value.int .i64) (by first | exact e7 | rfl | omega), HQ⟩
              case measure => first | exact measT Hj.out.2 | exact measT2 e7 Hj.out.2
        · rw [decide_eq_false hm]
          clear hm
          go_wp2
          go_roundw
          case rel => first | exact ⟨j + 1, is, D, z, Hj.out.1, Hj.out.2, rfl, congrArg (Value.int .u64) (by first | exact e8 | rfl | omega), congrArg (Value.int .i64) (by first | exact e7 | rfl | omega), hide HS8.out.next⟩
          case measure => first | exact measT Hj.out.2 | exact measT2 e7 Hj.out.2
      · obtain rfl : j = 30 := by omega
        have hlt' : ((30 : Nat) : Int) < (n : Int) := by omega
        go_wp2
        go_ret
        exact ⟨rfl, HS.out.below⟩
    · have hlt' : ¬ (j : Int) < (n : Int) := by omega
      go_wp2
      go_ret
      exact ⟨rfl, HS.out.below⟩
end Go.Proofs.Ytigpplckddnghaa
