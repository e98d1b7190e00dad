/-
  MirrorFormats: the walk of a plan that is looked at.
  MirrorWrites, of a plan that is not looked at. (By gen/MrF.gen.py.)
-/
import Derived.Test.YtigpplckddnghaaGreatMrQ
import Derived.Test.YtigpplckddnghaaGreatMrP
import Derived.Test.YtigpplckddnghaaGreatFlo4
import Derived.Test.YtigpplckddnghaaGreatPlan
namespace Go.Proofs.YtigpplckddnghaaGreat
section
open Go.RowKit
set_option maxRecDepth 8000

/-- What a first write of a new device is. -/
theorem fresh_pl (g : Gm) (bl : List Int) (l : List Flt) (i : Nat) : ((Dv.fresh g bl l).pg i).length = 256 := List.length_replicate
theorem fresh_format (g : Gm) (bl : List Int) (l : List Flt) : (Dv.fresh g bl l).formatR = if (0 : Int) ∈ bl ∨ (1 : Int) ∈ bl then (zeroT, 12, Dv.fresh g bl l) else if ((Dv.fresh g bl l).writeR (firstT g.b.toNat).page).1 = 0 then (firstT g.b.toNat, 0, ((Dv.fresh g bl l).writeR (firstT g.b.toNat).page).2) else (zeroT, ((Dv.fresh g bl l).writeR (firstT g.b.toNat).page).1, ((Dv.fresh g bl l).writeR (firstT g.b.toNat).page).2) := by
  have hc : (((Dv.fresh g bl l).bad 0 = true ∨ (Dv.fresh g bl l).bad 1 = true)) ↔ ((0 : Int) ∈ bl ∨ (1 : Int) ∈ bl) := by
    show (decide (((0 : Nat) : Int) ∈ bl) = true ∨ decide (((1 : Nat) : Int) ∈ bl) = true) ↔ _
    simp
  unfold Dv.formatR
  rw [newest_fresh]
  dsimp only
  by_cases h : (0 : Int) ∈ bl ∨ (1 : Int) ∈ bl
  · rw [if_pos (hc.2 h), if_pos h]
  · rw [if_neg (fun h2 => h (hc.1 h2)), if_neg h]
    rfl

set_option maxHeartbeats 16000000 in
theorem mform_on (q : Pn) (w : World) (hq : q.Ok w w.heap.size) (hlight : q.light = true) (hr : q.g.Right) :
    Calls Tryz.prog 5 #[q.val] w fun e w' => e = .returned (.bool true) ∧ Below w.heap.size w w' := by
  have b1 := (Below.refl w.heap.size w).alloc (Nat.le_refl _) (.cells #[.int .i64 q.g.b, .int .i64 q.g.p, .int .i64 q.g.r, .slice q.A1 q.n1 q.c1, .slice q.A2 q.n2 q.c2] 43)
  have Hb1 := hide b1
  have hx1 : BoxQ q w.heap.size (w.alloc (.cells #[.int .i64 q.g.b, .int .i64 q.g.p, .int .i64 q.g.r, .slice q.A1 q.n1 q.c1, .slice q.A2 q.n2 q.c2] 43)) := heap_alloc_new w _
  have Hx1 := hide hx1
  have Hs1 := hide (show w.heap.size < (w.alloc (.cells #[.int .i64 q.g.b, .int .i64 q.g.p, .int .i64 q.g.r, .slice q.A1 q.n1 q.c1, .slice q.A2 q.n2 q.c2] 43)).heap.size by simp)
  have hnum : q.n1 ≤ 60 ∧ q.n2 ≤ 40 := by
    have := hlight
    unfold Pn.light at this
    simp only [Bool.and_eq_true, decide_eq_true_eq] at this
    exact this.1
  have FL := hide (light_any q w.heap.size _ (hq.below b1) b1.size)
  rw [hlight] at FL
  have FR := hide (fun W => right13_any q.g W)
  rw [decide_eq_true hr] at FR
  have F0 := hide (fun W (hW : Below w.heap.size w W) => has16_any q.A1 q.n1 q.c1 w.heap.size q.bl 0 W ((hq.below hW).l1) hq.h1 (by omega))
  have F1 := hide (fun W (hW : Below w.heap.size w W) => has16_any q.A1 q.n1 q.c1 w.heap.size q.bl 1 W ((hq.below hW).l1) hq.h1 (by omega))
  have FN := hide (fun W (hW : Below w.heap.size w W) => new_ok q.g q.A1 q.A2 q.n1 q.c1 q.n2 q.c2 w.heap.size q.bl q.fl W hr (hq.below hW).l1 hq.h1 (by omega) (hq.below hW).l2 hq.h2 (by omega) (hq.below hW).h3 hW.size)
  have FX := hide (fun W => rnew_any q W hr)
  have Hq := hide hq
  have Hlt := hide hlight
  have Hr := hide hr
  clear b1 hx1 hq hlight hr hnum
  unfold Pn.val at *
  unfold Gm.val at FR FN
  go_enter Tryz.func5, Tryz.ntmps5
  go_wp2_with fail
  (with_reducible refine FL.out.mono ?_)
  rintro e w2 ⟨rfl, hb⟩
  have HB2 := hide (Hb1.out.trans (hb.mono Hb1.out.size))
  have HX2 := hide (Hx1.out.below hb Hs1.out)
  have HS2 := hide (Nat.lt_of_lt_of_le Hs1.out hb.size)
  clear hb FL Hb1 Hx1 Hs1
  have c0 := HX2.out.c 0 _ rfl
  have c1 := HX2.out.c 1 _ rfl
  have c2 := HX2.out.c 2 _ rfl
  go_wp2_with fail
  (with_reducible refine (FR.out _).mono ?_)
  rintro e w3 ⟨rfl, hb⟩
  have HB3 := hide (HB2.out.trans (hb.mono HB2.out.size))
  have HX3 := hide (HX2.out.below hb HS2.out)
  have HS3 := hide (Nat.lt_of_lt_of_le HS2.out hb.size)
  clear hb FR HX2 HB2 HS2 c0 c1 c2
  go_wp2_with fail
  (with_reducible refine (awake17_any _).mono ?_)
  rintro e w4 ⟨rfl, hb⟩
  have HB4 := hide (HB3.out.trans (hb.mono HB3.out.size))
  have HX4 := hide (HX3.out.below hb HS3.out)
  have HS4 := hide (Nat.lt_of_lt_of_le HS3.out hb.size)
  clear hb HX3 HB3 HS3
  have c0 := HX4.out.c 0 _ rfl
  have c1 := HX4.out.c 1 _ rfl
  have c2 := HX4.out.c 2 _ rfl
  have c3 := HX4.out.c 3 _ rfl
  have c4 := HX4.out.c 4 _ rfl
  go_wp2_with fail
  (with_reducible refine (FN.out _ HB4.out).mono ?_)
  rintro e w5 ⟨k, kb, kp, km, rfl, h5, hb⟩
  have H5 := hide h5
  have HB5 := hide (HB4.out.trans (hb.mono HB4.out.size))
  have HX5 := hide (HX4.out.below hb HS4.out)
  have HS5 := hide (Nat.lt_of_lt_of_le HS4.out hb.size)
  have HL5 := hide (show w.heap.size ≤ w4.heap.size ∧ w4.heap.size ≤ w5.heap.size ∧ w.heap.size < w4.heap.size from ⟨HB4.out.size, hb.size, HS4.out⟩)
  have FF := hide (mformat_any h5 (Nat.le_refl _) rfl (show (0 : Nat) < 900000 by decide))
  clear h5 hb FN HX4 HB4 HS4 c0 c1 c2 c3 c4
  unfold FormatEnd at FF
  have HFm := hide (fresh_format q.g q.bl q.fl)
  obtain ⟨D0, hD0⟩ : ∃ D0, Hid (Dv.fresh q.g q.bl q.fl = D0) := ⟨_, hide rfl⟩
  rw [hD0.out] at FF HFm H5
  generalize D0.formatR = R at *
  rcases R with ⟨T, f, D1⟩
  dsimp only at FF
  go_wp2_with fail
  (with_reducible refine FF.out.mono ?_)
  rintro e w6 ⟨x, rfl, hxt, hxo, hxf, hd6, ht6⟩
  have hlow6 := low_dev H5.out ht6 HL5.out.2.1
  have hb7 := (Below.refl w6.heap.size w6).alloc (Nat.le_refl _) (.cells x.cells.toArray 26)
  have HS67 := hide (show w5.heap.size ≤ w6.heap.size ∧ w6.heap.size < (w6.alloc (.cells x.cells.toArray 26)).heap.size from ⟨ht6.size, by simp⟩)
  have HB7 := hide ((HB5.out.trans (hlow6.mono HL5.out.1)).trans (hb7.mono (Nat.le_trans HB5.out.size ht6.size)))
  have HX7 := hide ((HX5.out.below hlow6 HL5.out.2.2).below hb7 (Nat.lt_of_lt_of_le HS5.out ht6.size))
  have H7 := hide (hd6.below (hb7.mono ht6.size))
  have HO7 := hide ((hxo.below hb7).up hb7.size)
  have HT7 := hide (BoxT.new x w6)
  have Hxt := hide hxt
  have Hxf := hide hxf
  have e1 : x.cells.toArray = #[.int .u64 (x.t.seq : Int), .slice x.A1 x.t.bad.length x.c1, .slice x.A2 x.t.wear.length x.c2, .slice x.A3 x.t.void.length x.c3] := rfl
  rw [show x.val = .agg #[.int .u64 (x.t.seq : Int), .slice x.A1 x.t.bad.length x.c1, .slice x.A2 x.t.wear.length x.c2, .slice x.A3 x.t.void.length x.c3] from rfl]
  rw [e1] at HS67 HB7 HX7 H7 HO7 HT7
  clear hlow6 hb7 hd6 hxo hxt hxf ht6 FF H5 HB5 HX5 HS5 e1
  go_upto_region 7 with fail
  generalize w6.alloc (.cells #[.int .u64 (x.t.seq : Int), .slice x.A1 x.t.bad.length x.c1, .slice x.A2 x.t.wear.length x.c2, .slice x.A3 x.t.void.length x.c3] 26) = w7 at *
  generalize w6.heap.size = kt at *
  have c3 := HX7.out.c 3 _ rfl
  by_cases hb : (0 : Int) ∈ q.bl ∨ (1 : Int) ∈ q.bl
  · rw [if_pos hb] at HFm
    obtain ⟨rfl, rfl, rfl⟩ : T = zeroT ∧ f = 12 ∧ D1 = D0 := by
      have := HFm.out
      injection this with h1 h2
      injection h2 with h2 h3
      exact ⟨h1, h2, h3⟩
    have FS := hide (fun W (hW : Below w7.heap.size w7 W) => same16_any x zeroTl w7.heap.size W (HO7.out.below hW) (zeroTl_ok _ _) Hxf.out zeroTl_few hW.size)
    rw [decide_eq_true (show x.t = zeroTl.t from Hxt.out)] at FS
    rw [show x.val = .agg #[.int .u64 (x.t.seq : Int), .slice x.A1 x.t.bad.length x.c1, .slice x.A2 x.t.wear.length x.c2, .slice x.A3 x.t.void.length x.c3] from rfl, show zeroTl.val = .agg #[.int .u64 0, .slice none 0 0, .slice none 0 0, .slice none 0 0] from rfl] at FS
    have c0 := HT7.out.c 0 _ rfl
    have c1 := HT7.out.c 1 _ rfl
    have c2 := HT7.out.c 2 _ rfl
    have d3 := HT7.out.c 3 _ rfl
    by_cases h0 : (0 : Int) ∈ q.bl
    · rw [decide_eq_true h0] at F0
      clear hb h0 F1
      go_wp2_with fail
      (with_reducible refine (F0.out _ HB7.out).mono ?_)
      rintro e w8 ⟨rfl, rfl⟩
      go_wp2_with fail
      (with_reducible refine (FS.out _ (Below.refl _ _)).mono ?_)
      rintro e w8 ⟨rfl, hb8⟩
      have HB8 := hide (HB7.out.trans (hb8.mono HB7.out.size))
      clear hb8
      go_wp2
      go_ret
      exact ⟨rfl, HB8.out⟩
    · have h1 : (1 : Int) ∈ q.bl := hb.resolve_left h0
      rw [decide_eq_false h0] at F0
      rw [decide_eq_true h1] at F1
      clear hb h0 h1
      go_wp2_with fail
      (with_reducible refine (F0.out _ HB7.out).mono ?_)
      rintro e w8 ⟨rfl, rfl⟩
      go_wp2_with fail
      (with_reducible refine (F1.out _ HB7.out).mono ?_)
      rintro e w8 ⟨rfl, rfl⟩
      go_wp2_with fail
      (with_reducible refine (FS.out _ (Below.refl _ _)).mono ?_)
      rintro e w8 ⟨rfl, hb8⟩
      have HB8 := hide (HB7.out.trans (hb8.mono HB7.out.size))
      clear hb8
      go_wp2
      go_ret
      exact ⟨rfl, HB8.out⟩
  · rw [if_neg hb] at HFm
    rw [decide_eq_false (fun h => hb (.inl h))] at F0
    rw [decide_eq_false (fun h => hb (.inr h))] at F1
    obtain ⟨n, hn⟩ : ∃ n, Hid (q.g.b.toNat = n) := ⟨_, hide rfl⟩
    rw [hn.out] at HFm FX
    have Hn := hide (show 8 ≤ n ∧ n ≤ 34 ∧ q.g.b = (n : Int) by have := hn.out; obtain ⟨r1, r2, _⟩ := Hr.out; omega)
    obtain ⟨Wr, hWr⟩ : ∃ Wr, Hid (D0.writeR (firstT n).page = Wr) := ⟨_, hide rfl⟩
    rw [hWr.out] at HFm
    have HR : Hid (f = Wr.1 ∧ D1 = Wr.2 ∧ (f = 0 → T = firstT n)) := hide (by
      have := HFm.out
      by_cases h : Wr.1 = 0
      · rw [if_pos h] at this
        injection this with h1 h2
        injection h2 with h2 h3
        exact ⟨by rw [h2, h], h3, fun _ => h1⟩
      · rw [if_neg h] at this
        injection this with h1 h2
        injection h2 with h2 h3
        exact ⟨h2, h3, fun h4 => absurd (by rw [← h2]; exact h4) h⟩)
    clear hb HFm
    go_wp2_with fail
    (with_reducible refine (F0.out _ HB7.out).mono ?_)
    rintro e w8 ⟨rfl, rfl⟩
    go_wp2_with fail
    (with_reducible refine (F1.out _ HB7.out).mono ?_)
    rintro e w8 ⟨rfl, rfl⟩
    clear c3
    have c0 := HX7.out.c 0 _ rfl
    have c1 := HX7.out.c 1 _ rfl
    have c2 := HX7.out.c 2 _ rfl
    have c3 := HX7.out.c 3 _ rfl
    have c4 := HX7.out.c 4 _ rfl
    go_wp2_with fail
    (with_reducible refine (FX.out _).mono ?_)
    rintro e w8 ⟨b0, r, pv, nv, wv, rfl, hN⟩
    have hb8 := hN.below
    have hN2 : NewAt w7 q b0 r (q.g.b.toNat * q.g.p.toNat) q.g.b.toNat q.g.b.toNat pv nv wv w8 := by rw [hn.out]; exact hN
    obtain ⟨rp, rn, rw8, cp, cn, cw, hR8⟩ := refAt_new hN2 Hr.out ((Hq.out.below HB7.out).up HB7.out.size) Hlt.out
    rw [hD0.out] at hR8
    have HW57 := hide (show w5.heap.size ≤ w7.heap.size from Nat.le_trans HS67.out.1 (Nat.le_of_lt HS67.out.2))
    have HWw7 := hide (show w.heap.size < w7.heap.size from (Array.getElem?_eq_some_iff.1 HX7.out).1)
    have hb9 := (Below.refl w8.heap.size w8).alloc (Nat.le_refl _) (.cells (madeCells #[.int .i64 0] n) 3)
    have hb10 := hb9.alloc hb9.size (.cells #[.int .u64 0, .slice none 0 0, .slice (some ⟨w8.heap.size, 0, none⟩) n n, .slice none 0 0] 26)
    have hb79 := hb8.trans (hb10.mono hb8.size)
    have hm := (make_ints w8 n Hn.out.2.1).2
    have hmk := fun W => (make_ints W n Hn.out.2.1).1
    have c0 := (HX7.out.below hb8 HWw7.out).c 0 (.int .i64 (n : Int)) (by rw [← Hn.out.2.2]; rfl)
    have HR9 := hide (hR8.below hb10)
    have H9 := hide (H7.out.below (hb79.mono HW57.out))
    have HX9 := hide (HX7.out.below hb79 HWw7.out)
    have HB9 := hide (HB7.out.trans (hb79.mono HB7.out.size))
    have HT9 := hide (HT7.out.below hb79 HS67.out.2)
    have HO9 := hide (HO7.out.below hb79)
    have HTW9 := hide (((firstTl_ok Hn.out.2.1 hm).below ((Below.refl _ _).alloc (Nat.le_refl _) (.cells #[.int .u64 0, .slice none 0 0, .slice (some ⟨w8.heap.size, 0, none⟩) n n, .slice none 0 0] 26))).up (show _ ≤ ((w8.alloc (.cells (madeCells #[.int .i64 0] n) 3)).alloc (.cells #[.int .u64 0, .slice none 0 0, .slice (some ⟨w8.heap.size, 0, none⟩) n n, .slice none 0 0] 26)).heap.size by simp))
    have HBW9 : Hid (BoxT (firstTl n w8.heap.size) (w8.heap.size + 1) ((w8.alloc (.cells (madeCells #[.int .i64 0] n) 3)).alloc (.cells #[.int .u64 0, .slice none 0 0, .slice (some ⟨w8.heap.size, 0, none⟩) n n, .slice none 0 0] 26))) := hide (by
      have := heap_alloc_new (w8.alloc (.cells (madeCells #[.int .i64 0] n) 3)) (.cells #[.int .u64 0, .slice none 0 0, .slice (some ⟨w8.heap.size, 0, none⟩) n n, .slice none 0 0] 26)
      rw [show (w8.alloc (.cells (madeCells #[.int .i64 0] n) 3)).heap.size = w8.heap.size + 1 by simp] at this
      unfold BoxT
      rw [show (firstTl n w8.heap.size).cells.toArray = #[.int .u64 0, .slice none 0 0, .slice (some ⟨w8.heap.size, 0, none⟩) n n, .slice none 0 0] by simp [Tl.cells, firstTl, firstT]]
      exact this)
    have HZ9 := hide (show w7.heap.size ≤ w8.heap.size ∧ ((w8.alloc (.cells (madeCells #[.int .i64 0] n) 3)).alloc (.cells #[.int .u64 0, .slice none 0 0, .slice (some ⟨w8.heap.size, 0, none⟩) n n, .slice none 0 0] 26)).heap.size = w8.heap.size + 2 from ⟨hb8.size, by simp⟩)
    clear hb8 hb9 hb10 hb79 hm hR8 hN hN2 H7 HX7 HB7 HT7 HO7 c1 c2 c3 c4 F0 F1 FX
    go_upto_region 11 with fail
    clear hmk c0
    generalize (w8.alloc (.cells (madeCells #[.int .i64 0] n) 3)).alloc (.cells #[.int .u64 0, .slice none 0 0, .slice (some ⟨w8.heap.size, 0, none⟩) n n, .slice none 0 0] 26) = w9 at *
    generalize w8.heap.size = g at *
    have hv : (firstTl n g).val = .agg #[.int .u64 0, .slice none 0 0, .slice (some ⟨g, 0, none⟩) n n, .slice none 0 0] := by simp [Tl.val, firstTl, firstT]
    have FW := hide (rwrite_any HR9.out (by have := HZ9.out.2; omega) (by rw [← hD0.out]; exact (show (0 : Nat) < 900000 by decide)) (fun i _ => by rw [← hD0.out]; exact Nat.le_refl 0) (fun i _ => by rw [← hD0.out]; exact fresh_pl _ _ _ i) (firstTl n g) _ HTW9.out (fun k hk => ⟨.inl rfl, .inr ⟨_, rfl, fun e => off_four HR9.out.hi (Nat.le_refl _) (by rw [show k = g from e.symm] at hk; exact hk)⟩, .inl rfl⟩) (firstT_may Hn.out.2.1) (Nat.le_refl _))
    rw [hv, show (firstTl n g).t.page = (firstT n).page from rfl, hWr.out] at FW
    have HM : Hid (Mi Wr.2 1 ∧ (Wr.2.newest = some (firstT n, D0.older) ∨ Wr.1 ≠ 0)) := hide (by
      have hs := HR9.out.sides
      have h2 : 2 ≤ D0.nb := by omega
      have := (show Mi D0 0 by rw [← hD0.out]; exact Mi.fresh _ _ _ (by rw [hD0.out]; exact h2)).write (t := firstT n) (by rw [← hD0.out]; rfl) hs.2.2.1 ⟨hs.2.2.2.2.1, hs.2.2.2.2.2⟩ (firstT_may Hn.out.2.1) (Nat.zero_le _)
      rw [hWr.out] at this
      exact ⟨this.1, this.2.imp id (fun h => h.2)⟩)
    have HOps : Hid (Wr.2.ops ≤ 2) := hide (by
      have := Dv.writeR_ops D0 (firstT n).page
      rw [hWr.out] at this
      have h0 : D0.ops = 0 := by rw [← hD0.out]; rfl
      omega)
    rcases Wr with ⟨f2, D2⟩
    obtain ⟨rfl, rfl, hT⟩ := HR.out
    dsimp only at FW HM HOps
    have HT := hide hT
    clear HR hT hWr
    have c0 : w9.cell? ⟨g + 1, 0, none⟩ = some (.int .u64 0) := HBW9.out.c 0 _ rfl
    have c1 : w9.cell? ⟨g + 1, 1, none⟩ = some (.slice none 0 0) := HBW9.out.c 1 _ rfl
    have c2 : w9.cell? ⟨g + 1, 2, none⟩ = some (.slice (some ⟨g, 0, none⟩) n n) := by have := HBW9.out.c 2 _ rfl; simpa [firstTl, firstT] using this
    have c3 : w9.cell? ⟨g + 1, 3, none⟩ = some (.slice none 0 0) := HBW9.out.c 3 _ rfl
    go_wp2_with fail
    (with_reducible refine FW.out.mono ?_)
    rintro e w10 ⟨rfl, hr10, ht10⟩
    have hoff4 : ∀ b, g ≤ b → b ∉ [r, rp, rn, rw8] := fun b hb => off_four HR9.out.hi hb
    have hlow := ht10.below (B := w7.heap.size) (by have := HZ9.out; omega) (fun b hb => by
      have := HR9.out.lo
      simp only [List.mem_cons, List.not_mem_nil, or_false] at hb
      omega)
    have H10 := hide (H9.out.below (hlow.mono HW57.out))
    have HX10 := hide (HX9.out.below hlow HWw7.out)
    have HB10 := hide (HB9.out.trans (hlow.mono (Nat.le_of_lt HWw7.out)))
    have HT10 := hide (HT9.out.below hlow HS67.out.2)
    have HO10 := hide (HO9.out.below hlow)
    have HTW10 := hide ((HTW9.out.tchO (fun k hk => ⟨.inl rfl, .inr ⟨_, rfl, fun e => hoff4 g (Nat.le_refl _) (by rw [show k = g from e.symm] at hk; exact hk)⟩, .inl rfl⟩) ht10 (Nat.le_refl _)).up ht10.size)
    have HBW10 : Hid (BoxT (firstTl n g) (g + 1) w10) := hide ((ht10.block _ HBW9.out.lt (hoff4 _ (Nat.le_succ _))).trans HBW9.out)
    have HZ10 := hide (show w7.heap.size ≤ w10.heap.size ∧ g + 1 < w10.heap.size ∧ w5.heap.size ≤ g by have := HZ9.out; have := ht10.size; have := HW57.out; omega)
    clear hoff4 hlow hr10 ht10 FW HR9 H9 HX9 HB9 HT9 HO9 HTW9 HBW9 HZ9 c0 c1 c2 c3
    have Hv := hide hv
    have Hfy : Hid (firstTl n g).Few := hide (firstTl_few Hn.out.2.1)
    by_cases hf : f = 0
    · skip
      have hTt := HT.out hf
      subst hf
      subst hTt
      have FS := hide (same16_any x (firstTl n g) w10.heap.size w10 (HO10.out.up HZ10.out.1) HTW10.out Hxf.out Hfy.out (Nat.le_refl _))
      rw [decide_eq_true (show x.t = (firstTl n g).t from Hxt.out), Hv.out, show x.val = .agg #[.int .u64 (x.t.seq : Int), .slice x.A1 x.t.bad.length x.c1, .slice x.A2 x.t.wear.length x.c2, .slice x.A3 x.t.void.length x.c3] from rfl] at FS
      have t0 := HT10.out.c 0 _ rfl
      have t1 := HT10.out.c 1 _ rfl
      have t2 := HT10.out.c 2 _ rfl
      have t3 := HT10.out.c 3 _ rfl
      have c0 : w10.cell? ⟨g + 1, 0, none⟩ = some (.int .u64 0) := HBW10.out.c 0 _ rfl
      have c1 : w10.cell? ⟨g + 1, 1, none⟩ = some (.slice none 0 0) := HBW10.out.c 1 _ rfl
      have c2 : w10.cell? ⟨g + 1, 2, none⟩ = some (.slice (some ⟨g, 0, none⟩) n n) := by have := HBW10.out.c 2 _ rfl; simpa [firstTl, firstT] using this
      have c3 : w10.cell? ⟨g + 1, 3, none⟩ = some (.slice none 0 0) := HBW10.out.c 3 _ rfl
      clear hv
      go_wp2_with fail
      (with_reducible refine FS.out.mono ?_)
      rintro e w11 ⟨rfl, hb⟩
      have H11 := hide (H10.out.below (hb.mono (Nat.le_trans HZ10.out.2.2 (by have := HZ10.out; omega))))
      have HB11 := hide (HB10.out.trans (hb.mono HB10.out.size))
      have HTW11 := hide ((HTW10.out.below hb).up hb.size)
      have HBW11 := hide (HBW10.out.below hb HBW10.out.lt)
      have HZ11 := hide (show g + 1 < w11.heap.size from Nat.lt_of_lt_of_le HZ10.out.2.1 hb.size)
      clear hb FS t0 t1 t2 t3 c0 c1 c2 c3
      have HN11 : Hid (({ D1 with dn := false } : Dv).formatR = (firstT n, 0, { D1 with dn := false })) := hide (by
        rcases HM.out.2 with h | h
        · unfold Dv.formatR
          rw [show ({ D1 with dn := false } : Dv).newest = some (firstT n, D0.older) from h]
        · exact absurd rfl h)
      have HC11 := hide HZ10.out.2.2
      have FP := hide (power_any H11.out (by have := HZ11.out; have := HC11.out; omega))
      go_wp2_with fail
      (with_reducible refine FP.out.mono ?_)
      rintro e w12 ⟨rfl, hd12, ht12⟩
      have hoffd : ∀ b, g ≤ b → b ∉ [k, kb, kp] := fun b hb => off_dev H11.out (Nat.le_trans HC11.out hb)
      have hlow := low_dev H11.out ht12 (by have := HZ11.out; have := HC11.out; have := HL5.out; omega)
      have HB12 := hide (HB11.out.trans (hlow.mono HL5.out.1))
      have HTW12 := hide ((HTW11.out.tchO (fun k hk => ⟨.inl rfl, .inr ⟨_, rfl, fun e => hoffd g (Nat.le_refl _) (by rw [show k = g from e.symm] at hk; exact hk)⟩, .inl rfl⟩) ht12 (Nat.le_refl _)).up ht12.size)
      have HBW12 : Hid (BoxT (firstTl n g) (g + 1) w12) := hide ((ht12.block _ HBW11.out.lt (hoffd _ (Nat.le_succ _))).trans HBW11.out)
      have H12 := hide hd12
      have HZ12 := hide (Nat.lt_of_lt_of_le HZ11.out ht12.size)
      clear hoffd hlow hd12 ht12 FP H11 HB11 HTW11 HBW11
      have FF := hide (mformat_any H12.out (by have := HZ12.out; have := HC11.out; omega) rfl (show D1.ops < 900000 by have := HOps.out; omega))
      unfold FormatEnd at FF
      rw [HN11.out] at FF
      dsimp only at FF
      go_wp2_with fail
      (with_reducible refine FF.out.mono ?_)
      rintro e w13 ⟨u, rfl, hut, huo, huf, hd13, ht13⟩
      have hoffd : ∀ b, g ≤ b → b ∉ [k, kb, kp] := fun b hb => off_dev H12.out (Nat.le_trans HC11.out hb)
      have hlow := low_dev H12.out ht13 (by have := HZ12.out; have := HC11.out; have := HL5.out; omega)
      have hb14 := (Below.refl w13.heap.size w13).alloc (Nat.le_refl _) (.cells u.cells.toArray 26)
      have hc1 := ((HTW12.out.tchO (fun k hk => ⟨.inl rfl, .inr ⟨_, rfl, fun e => hoffd g (Nat.le_refl _) (by rw [show k = g from e.symm] at hk; exact hk)⟩, .inl rfl⟩) ht13 (Nat.le_refl _)).up ht13.size)
      have hc2 : BoxT (firstTl n g) (g + 1) w13 := (ht13.block _ HBW12.out.lt (hoffd _ (Nat.le_succ _))).trans HBW12.out
      have HB14 := hide ((HB12.out.trans (hlow.mono HL5.out.1)).trans (hb14.mono (Nat.le_trans HB12.out.size ht13.size)))
      have HTW14 := hide ((hc1.below hb14).up hb14.size)
      have HBW14 := hide (hc2.below hb14 hc2.lt)
      have HU14 := hide (BoxT.new u w13)
      have HO14 := hide ((huo.below hb14).up hb14.size)
      have Hut := hide hut
      have Huf := hide huf
      have e1 : u.cells.toArray = #[.int .u64 (u.t.seq : Int), .slice u.A1 u.t.bad.length u.c1, .slice u.A2 u.t.wear.length u.c2, .slice u.A3 u.t.void.length u.c3] := rfl
      rw [show u.val = .agg #[.int .u64 (u.t.seq : Int), .slice u.A1 u.t.bad.length u.c1, .slice u.A2 u.t.wear.length u.c2, .slice u.A3 u.t.void.length u.c3] from rfl]
      rw [e1] at HB14 HTW14 HBW14 HU14 HO14
      clear hoffd hlow hb14 hc1 hc2 hut huo huf hd13 ht13 FF H12 HB12 HTW12 HBW12 e1
      go_upto_region 15 with fail
      generalize w13.alloc (.cells #[.int .u64 (u.t.seq : Int), .slice u.A1 u.t.bad.length u.c1, .slice u.A2 u.t.wear.length u.c2, .slice u.A3 u.t.void.length u.c3] 26) = w14 at *
      generalize w13.heap.size = ku at *
      go_wp2_with fail
      (with_reducible refine (mnew_nil _).mono ?_)
      rintro e w15 ⟨rfl, hb⟩
      have hb2 := hb.alloc hb.size (.cells zeroTl.cells.toArray 26)
      have HB16 := hide (HB14.out.trans (hb2.mono HB14.out.size))
      have HTW16 := hide ((HTW14.out.below hb2).up hb2.size)
      have HBW16 := hide (HBW14.out.below hb2 HBW14.out.lt)
      have HU16 := hide (HU14.out.below hb2 HU14.out.lt)
      have HO16 := hide ((HO14.out.below hb2).up hb2.size)
      rw [show zeroTl.cells.toArray = #[.int .u64 0, .slice none 0 0, .slice none 0 0, .slice none 0 0] from rfl] at HB16 HTW16 HBW16 HU16 HO16
      rw [show zeroTl.val = .agg #[.int .u64 0, .slice none 0 0, .slice none 0 0, .slice none 0 0] from rfl]
      clear hb hb2 HB14 HTW14 HBW14 HU14 HO14
      go_upto_region 16 with fail
      generalize w15.alloc (.cells #[.int .u64 0, .slice none 0 0, .slice none 0 0, .slice none 0 0] 26) = w16 at *
      have FWn := hide (mwrite_nil (firstTl n g) w16)
      rw [Hv.out] at FWn
      have c0 : w16.cell? ⟨g + 1, 0, none⟩ = some (.int .u64 0) := HBW16.out.c 0 _ rfl
      have c1 : w16.cell? ⟨g + 1, 1, none⟩ = some (.slice none 0 0) := HBW16.out.c 1 _ rfl
      have c2 : w16.cell? ⟨g + 1, 2, none⟩ = some (.slice (some ⟨g, 0, none⟩) n n) := by have := HBW16.out.c 2 _ rfl; simpa [firstTl, firstT] using this
      have c3 : w16.cell? ⟨g + 1, 3, none⟩ = some (.slice none 0 0) := HBW16.out.c 3 _ rfl
      go_wp2_with fail
      (with_reducible refine FWn.out.mono ?_)
      rintro e w17 ⟨rfl, hb⟩
      have HB17 := hide (HB16.out.trans (hb.mono HB16.out.size))
      have HTW17 := hide ((HTW16.out.below hb).up hb.size)
      have HBW17 := hide (HBW16.out.below hb HBW16.out.lt)
      have HU17 := hide (HU16.out.below hb HU16.out.lt)
      have HO17 := hide ((HO16.out.below hb).up hb.size)
      clear hb FWn HB16 HTW16 HBW16 HU16 HO16 c0 c1 c2 c3
      have FS := hide (same16_any u (firstTl n g) w17.heap.size w17 HO17.out HTW17.out Huf.out Hfy.out (Nat.le_refl _))
      rw [decide_eq_true (show u.t = (firstTl n g).t from Hut.out), Hv.out, show u.val = .agg #[.int .u64 (u.t.seq : Int), .slice u.A1 u.t.bad.length u.c1, .slice u.A2 u.t.wear.length u.c2, .slice u.A3 u.t.void.length u.c3] from rfl] at FS
      have t0 := HU17.out.c 0 _ rfl
      have t1 := HU17.out.c 1 _ rfl
      have t2 := HU17.out.c 2 _ rfl
      have t3 := HU17.out.c 3 _ rfl
      have c0 : w17.cell? ⟨g + 1, 0, none⟩ = some (.int .u64 0) := HBW17.out.c 0 _ rfl
      have c1 : w17.cell? ⟨g + 1, 1, none⟩ = some (.slice none 0 0) := HBW17.out.c 1 _ rfl
      have c2 : w17.cell? ⟨g + 1, 2, none⟩ = some (.slice (some ⟨g, 0, none⟩) n n) := by have := HBW17.out.c 2 _ rfl; simpa [firstTl, firstT] using this
      have c3 : w17.cell? ⟨g + 1, 3, none⟩ = some (.slice none 0 0) := HBW17.out.c 3 _ rfl
      go_wp2_with fail
      (with_reducible refine FS.out.mono ?_)
      rintro e w18 ⟨rfl, hb⟩
      have HB18 := hide (HB17.out.trans (hb.mono HB17.out.size))
      clear hb FS t0 t1 t2 t3 c0 c1 c2 c3
      go_wp2_with fail
      (with_reducible refine (mtabs_out _ 2 (.inr (Int.le_refl _)) _).mono ?_)
      rintro e w19 ⟨rfl, rfl⟩
      go_wp2
      go_ret
      exact ⟨rfl, HB18.out⟩
    · skip
      have hbf : (f == 0) = false := beq_eq_false_iff_ne.2 hf
      have hbg : (f != 0) = true := bne_iff_ne.2 hf
      clear hf hv
      have H11 := H10
      have HB11 := HB10
      have HTW11 := HTW10
      have HBW11 := HBW10
      have HZ11 := hide HZ10.out.2.1
      have HC11 := hide HZ10.out.2.2
      have FP := hide (power_any H11.out (by have := HZ11.out; have := HC11.out; omega))
      go_wp2_with fail
      (with_reducible refine FP.out.mono ?_)
      rintro e w12 ⟨rfl, hd12, ht12⟩
      have hoffd : ∀ b, g ≤ b → b ∉ [k, kb, kp] := fun b hb => off_dev H11.out (Nat.le_trans HC11.out hb)
      have hlow := low_dev H11.out ht12 (by have := HZ11.out; have := HC11.out; have := HL5.out; omega)
      have HB12 := hide (HB11.out.trans (hlow.mono HL5.out.1))
      have HTW12 := hide ((HTW11.out.tchO (fun k hk => ⟨.inl rfl, .inr ⟨_, rfl, fun e => hoffd g (Nat.le_refl _) (by rw [show k = g from e.symm] at hk; exact hk)⟩, .inl rfl⟩) ht12 (Nat.le_refl _)).up ht12.size)
      have HBW12 : Hid (BoxT (firstTl n g) (g + 1) w12) := hide ((ht12.block _ HBW11.out.lt (hoffd _ (Nat.le_succ _))).trans HBW11.out)
      have H12 := hide hd12
      have HZ12 := hide (Nat.lt_of_lt_of_le HZ11.out ht12.size)
      clear hoffd hlow hd12 ht12 FP H11 HB11 HTW11 HBW11
      have FF := hide (mformat_any H12.out (by have := HZ12.out; have := HC11.out; omega) rfl (show D1.ops < 900000 by have := HOps.out; omega))
      unfold FormatEnd at FF
      generalize ({ D1 with dn := false } : Dv).formatR = R3 at FF
      rcases R3 with ⟨T3, f3, D3⟩
      dsimp only at FF
      go_wp2_with fail
      (with_reducible refine FF.out.mono ?_)
      rintro e w13 ⟨u, rfl, hut, huo, huf, hd13, ht13⟩
      have hoffd : ∀ b, g ≤ b → b ∉ [k, kb, kp] := fun b hb => off_dev H12.out (Nat.le_trans HC11.out hb)
      have hlow := low_dev H12.out ht13 (by have := HZ12.out; have := HC11.out; have := HL5.out; omega)
      have hb14 := (Below.refl w13.heap.size w13).alloc (Nat.le_refl _) (.cells u.cells.toArray 26)
      have hc1 := ((HTW12.out.tchO (fun k hk => ⟨.inl rfl, .inr ⟨_, rfl, fun e => hoffd g (Nat.le_refl _) (by rw [show k = g from e.symm] at hk; exact hk)⟩, .inl rfl⟩) ht13 (Nat.le_refl _)).up ht13.size)
      have hc2 : BoxT (firstTl n g) (g + 1) w13 := (ht13.block _ HBW12.out.lt (hoffd _ (Nat.le_succ _))).trans HBW12.out
      have HB14 := hide ((HB12.out.trans (hlow.mono HL5.out.1)).trans (hb14.mono (Nat.le_trans HB12.out.size ht13.size)))
      have HTW14 := hide ((hc1.below hb14).up hb14.size)
      have HBW14 := hide (hc2.below hb14 hc2.lt)
      have HU14 := hide (BoxT.new u w13)
      have HO14 := hide ((huo.below hb14).up hb14.size)
      have Hut := hide hut
      have Huf := hide huf
      have e1 : u.cells.toArray = #[.int .u64 (u.t.seq : Int), .slice u.A1 u.t.bad.length u.c1, .slice u.A2 u.t.wear.length u.c2, .slice u.A3 u.t.void.length u.c3] := rfl
      rw [show u.val = .agg #[.int .u64 (u.t.seq : Int), .slice u.A1 u.t.bad.length u.c1, .slice u.A2 u.t.wear.length u.c2, .slice u.A3 u.t.void.length u.c3] from rfl]
      rw [e1] at HB14 HTW14 HBW14 HU14 HO14
      clear hoffd hlow hb14 hc1 hc2 hut huo huf hd13 ht13 FF H12 HB12 HTW12 HBW12 e1
      go_upto_region 15 with fail
      generalize w13.alloc (.cells #[.int .u64 (u.t.seq : Int), .slice u.A1 u.t.bad.length u.c1, .slice u.A2 u.t.wear.length u.c2, .slice u.A3 u.t.void.length u.c3] 26) = w14 at *
      generalize w13.heap.size = ku at *
      go_wp2_with fail
      (with_reducible refine (mnew_nil _).mono ?_)
      rintro e w15 ⟨rfl, hb⟩
      have hb2 := hb.alloc hb.size (.cells zeroTl.cells.toArray 26)
      have HB16 := hide (HB14.out.trans (hb2.mono HB14.out.size))
      have HTW16 := hide ((HTW14.out.below hb2).up hb2.size)
      have HBW16 := hide (HBW14.out.below hb2 HBW14.out.lt)
      have HU16 := hide (HU14.out.below hb2 HU14.out.lt)
      have HO16 := hide ((HO14.out.below hb2).up hb2.size)
      rw [show zeroTl.cells.toArray = #[.int .u64 0, .slice none 0 0, .slice none 0 0, .slice none 0 0] from rfl] at HB16 HTW16 HBW16 HU16 HO16
      rw [show zeroTl.val = .agg #[.int .u64 0, .slice none 0 0, .slice none 0 0, .slice none 0 0] from rfl]
      clear hb hb2 HB14 HTW14 HBW14 HU14 HO14
      go_upto_region 16 with fail
      generalize w15.alloc (.cells #[.int .u64 0, .slice none 0 0, .slice none 0 0, .slice none 0 0] 26) = w16 at *
      have FWn := hide (mwrite_nil (firstTl n g) w16)
      rw [Hv.out] at FWn
      have c0 : w16.cell? ⟨g + 1, 0, none⟩ = some (.int .u64 0) := HBW16.out.c 0 _ rfl
      have c1 : w16.cell? ⟨g + 1, 1, none⟩ = some (.slice none 0 0) := HBW16.out.c 1 _ rfl
      have c2 : w16.cell? ⟨g + 1, 2, none⟩ = some (.slice (some ⟨g, 0, none⟩) n n) := by have := HBW16.out.c 2 _ rfl; simpa [firstTl, firstT] using this
      have c3 : w16.cell? ⟨g + 1, 3, none⟩ = some (.slice none 0 0) := HBW16.out.c 3 _ rfl
      go_wp2_with fail
      (with_reducible refine FWn.out.mono ?_)
      rintro e w17 ⟨rfl, hb⟩
      have HB17 := hide (HB16.out.trans (hb.mono HB16.out.size))
      have HTW17 := hide ((HTW16.out.below hb).up hb.size)
      have HBW17 := hide (HBW16.out.below hb HBW16.out.lt)
      have HU17 := hide (HU16.out.below hb HU16.out.lt)
      have HO17 := hide ((HO16.out.below hb).up hb.size)
      clear hb FWn HB16 HTW16 HBW16 HU16 HO16 c0 c1 c2 c3
      have HB18 := HB17
      go_wp2_with fail
      (with_reducible refine (mtabs_out _ 2 (.inr (Int.le_refl _)) _).mono ?_)
      rintro e w19 ⟨rfl, rfl⟩
      go_wp2
      go_ret
      exact ⟨rfl, HB18.out⟩
end
section
open Go.RowKit
set_option maxRecDepth 8000
set_option maxHeartbeats 4000000 in
theorem mwrites_off (q : Pn) (A : Option Addr) (n c : Nat) (w : World) (hq : q.Ok w w.heap.size) (hl : ¬ (q.light = true ∧ q.g.Right)) :
    Calls Tryz.prog 4 #[q.val, .slice A n c] w fun e w' => e = .returned (.bool true) ∧ Below w.heap.size w w' := by
  have b1 := (Below.refl w.heap.size w).alloc (Nat.le_refl _) (.cells #[.int .i64 q.g.b, .int .i64 q.g.p, .int .i64 q.g.r, .slice q.A1 q.n1 q.c1, .slice q.A2 q.n2 q.c2] 43)
  have Hb1 := hide b1
  have hx1 : BoxQ q w.heap.size (w.alloc (.cells #[.int .i64 q.g.b, .int .i64 q.g.p, .int .i64 q.g.r, .slice q.A1 q.n1 q.c1, .slice q.A2 q.n2 q.c2] 43)) := heap_alloc_new w _
  have Hx1 := hide hx1
  have Hs1 := hide (show w.heap.size < (w.alloc (.cells #[.int .i64 q.g.b, .int .i64 q.g.p, .int .i64 q.g.r, .slice q.A1 q.n1 q.c1, .slice q.A2 q.n2 q.c2] 43)).heap.size by simp)
  have FL := hide (light_any q w.heap.size _ (hq.below b1) b1.size)
  have FR := hide (fun W => right13_any q.g W)
  have Hl := hide hl
  clear b1 hx1 hq hl
  unfold Pn.val at *
  cases hlight : q.light with
  | false =>
    rw [hlight] at FL
    clear hlight
    unfold Gm.val at FR
    go_enter Tryz.func4, Tryz.ntmps4
    go_wp2_with fail
    (with_reducible refine FL.out.mono ?_)
    rintro e w2 ⟨rfl, hb⟩
    have HB2 := hide (Hb1.out.trans (hb.mono Hb1.out.size))
    have HX2 := hide (Hx1.out.below hb Hs1.out)
    have HS2 := hide (Nat.lt_of_lt_of_le Hs1.out hb.size)
    clear hb FL Hb1 Hx1 Hs1
    go_wp2_with fail
    (with_reducible refine (awake17_any _).mono ?_)
    rintro e w9 ⟨rfl, hb⟩
    have HB9 := hide (HB2.out.trans (hb.mono HB2.out.size))
    clear hb
    go_wp2
    go_ret
    exact ⟨rfl, HB9.out⟩
  | true =>
    by_cases hr : q.g.Right
    · exact absurd ⟨hlight, hr⟩ Hl.out
    · rw [decide_eq_false hr] at FR
      clear hr
      rw [hlight] at FL
      clear hlight
      unfold Gm.val at FR
      go_enter Tryz.func4, Tryz.ntmps4
      go_wp2_with fail
      (with_reducible refine FL.out.mono ?_)
      rintro e w2 ⟨rfl, hb⟩
      have HB2 := hide (Hb1.out.trans (hb.mono Hb1.out.size))
      have HX2 := hide (Hx1.out.below hb Hs1.out)
      have HS2 := hide (Nat.lt_of_lt_of_le Hs1.out hb.size)
      clear hb FL Hb1 Hx1 Hs1
      have c0 := HX2.out.c 0 _ rfl
      have c1 := HX2.out.c 1 _ rfl
      have c2 := HX2.out.c 2 _ rfl
      go_wp2_with fail
      (with_reducible refine (FR.out _).mono ?_)
      rintro e w3 ⟨rfl, hb⟩
      have HB3 := hide (HB2.out.trans (hb.mono HB2.out.size))
      have HX3 := hide (HX2.out.below hb HS2.out)
      clear hb FR HX2 HB2 HS2 c0 c1 c2
      go_wp2_with fail
      (with_reducible refine (awake17_any _).mono ?_)
      rintro e w9 ⟨rfl, hb⟩
      have HB9 := hide (HB3.out.trans (hb.mono HB3.out.size))
      clear hb
      go_wp2
      go_ret
      exact ⟨rfl, HB9.out⟩
end
end Go.Proofs.YtigpplckddnghaaGreat
