/-
  CONTRACTS of page.right and page.Class.
  CONTRACTS of page.Class and page.Get. (By gen/PgG.gen.py.)
-/
import Derived.Test.YtahipfmokbiklaaPgS
import Derived.Test.YtahipfmokbiklaaFlo4
namespace Go.Proofs.Ytahipfmokbiklaa
section
open Go.RowKit
set_option maxRecDepth 8000

theorem right_is (b d : List UInt8) (h : Hd) (hb : b.length = 256) (hh : headOf b = h) (hm : h.May) (hd : d = (b.drop 24).take h.len.toNat) : rightB b = decide (pageB h d = b) := by
  unfold rightB dataOf
  rw [hh, ← hd]
  by_cases he : pageB h d = b
  · rw [decide_eq_true he, decide_eq_true ⟨hb, hm, he⟩]
  · rw [decide_eq_false he, decide_eq_false (fun hx => he hx.2.2)]
theorem data_len (b : List UInt8) (n : Nat) (hb : b.length = 256) (hn : n ≤ 228) : ((b.drop 24).take n).length = n := by
  rw [List.length_take, List.length_drop, hb]; omega

set_option maxRecDepth 4000 in
set_option maxHeartbeats 4000000 in
theorem right_any (A : Option Addr) (c B : Nat) (b : List UInt8) (w : World) (hl : Lies w B A (bys b)) (hb : b.length = 256) (hc : 256 ≤ c) (hB : B ≤ w.heap.size) :
    Calls Try.prog 66 #[.slice A 256 c] w fun e w' => e = .returned (.bool (rightB b)) ∧ Below w.heap.size w w' := by
  have Fr := hide (read_any A c B b w hl hb hc hB)
  have Fk := fun W => pcheck_any (headOf b) W
  generalize hh : headOf b = h at *
  have Hl := hide hl
  by_cases hm : h.May
  · rw [if_pos hm] at Fk
    obtain ⟨d, hd⟩ : ∃ d, d = (b.drop 24).take h.len.toNat := ⟨_, rfl⟩
    have Hright := hide (right_is b d h hb hh hm hd)
    have h11 := hm.2.2.2.2.2.2.2.2.2.2.1
    have h12 := hm.2.2.2.2.2.2.2.2.2.2.2
    have hdl : (d.length : Int) = h.len := by rw [hd, data_len b _ hb (by omega)]; omega
    have Fc := hide (fun W (hW : Lies W B A (bys b)) (hBW : B ≤ W.heap.size) => carried_any A c B b h W hW hb hc h11 h12 hBW)
    rw [← hd] at Fc
    have Fp := hide (fun W => pput_ok h d W hm hdl)
    have Fk := hide Fk
    have Hb2 := hide (show (256 : Nat) = b.length from hb.symm)
    have Hpl := hide (show 256 = (pageB h d).length from (pageB_len h d (by omega)).symm)
    have HBw := hide hB
    rw [Hright.out]
    rcases h with ⟨kd, ix, ct, bt, op, lp, ln⟩
    clear hl hb hc hB hh hm hd h11 h12 hdl Hright
    unfold Hd.val at *
    dsimp only at *
    go_enter Try.func66, Try.ntmps66
    go_wp2_with fail
    (with_reducible refine Fr.out.mono ?_)
    rintro e w1 ⟨rfl, hb1⟩
    have hb2 : Below w.heap.size w (w1.alloc (.cells #[.int .i64 kd, .int .i64 ix, .int .i64 ct, .int .u64 (bt : Int), .int .u64 (op : Int), .int .i64 lp, .int .i64 ln] 42)) := hb1.alloc hb1.size _
    have hx : BoxH ⟨kd, ix, ct, bt, op, lp, ln⟩ w1.heap.size (w1.alloc (.cells #[.int .i64 kd, .int .i64 ix, .int .i64 ct, .int .u64 (bt : Int), .int .u64 (op : Int), .int .i64 lp, .int .i64 ln] 42)) := heap_alloc_new w1 _
    have HB2 := hide hb2
    have HX := hide hx
    clear hb1 hb2 hx Fr
    go_upto_region 2 with fail
    generalize hw2 : w1.alloc (.cells #[.int .i64 kd, .int .i64 ix, .int .i64 ct, .int .u64 (bt : Int), .int .u64 (op : Int), .int .i64 lp, .int .i64 ln] 42) = w2 at *
    clear hw2
    generalize w1.heap.size = hk at *
    have R := HX.out.range
    unfold Hd.cells at R
    dsimp only at R
    go_wp2_with (with_reducible refine wpl_load_mid rfl 42 (.tmp 3) rfl hk 0 _ R rfl _ Try.underlying42 rfl 7 infoHd (by with_unfolding_all rfl) ?_)
    (with_reducible refine (Fk.out _).mono ?_)
    rintro e w3 ⟨rfl, hb3⟩
    have HB3 := hide (HB2.out.trans (hb3.mono HB2.out.size))
    have HX3 := hide (HX.out.below hb3 HX.out.lt)
    clear hb3 R HB2 HX Fk
    go_upto_region 4 with fail
    have Hhk := hide HX3.out.lt
    have a0 := HX3.out.c 0 _ rfl
    have a1 := HX3.out.c 1 _ rfl
    have a2 := HX3.out.c 2 _ rfl
    have a3 := HX3.out.c 3 _ rfl
    have a4 := HX3.out.c 4 _ rfl
    have a5 := HX3.out.c 5 _ rfl
    have a6 := HX3.out.c 6 _ rfl
    dsimp only at a0 a1 a2 a3 a4 a5 a6
    go_region_law (first
      | (refine step_callP (f := 64) (args := #[.slice A 256 c, .agg #[.int .i64 kd, .int .i64 ix, .int .i64 ct, .int .u64 (bt : Int), .int .u64 (op : Int), .int .i64 lp, .int .i64 ln]]) rfl (by simp [Act.eval, go_sem]) ((Fc.out _ (Hl.out.below ((HB3.out.mono HBw.out).drew)) (Nat.le_trans HBw.out HB3.out.size)).mono ?_); rintro e w4 ⟨rfl, hb4⟩; refine ⟨_, rfl, ?_⟩; have hb5 : Below w3.heap.size w3 w4 := (Below.refl _ _).drew.trans hb4; have HB4 := hide (HB3.out.trans (hb5.mono HB3.out.size)); have HX4 := hide (HX3.out.below hb5 Hhk.out); have b0 := HX4.out.c 0 _ rfl; have b1 := HX4.out.c 1 _ rfl; have b2 := HX4.out.c 2 _ rfl; have b3 := HX4.out.c 3 _ rfl; have b4 := HX4.out.c 4 _ rfl; have b5 := HX4.out.c 5 _ rfl; have b6 := HX4.out.c 6 _ rfl; dsimp only at b0 b1 b2 b3 b4 b5 b6; clear hb4 hb5)
      | (refine step_callP (f := 23) (args := #[.agg #[.int .i64 kd, .int .i64 ix, .int .i64 ct, .int .u64 (bt : Int), .int .u64 (op : Int), .int .i64 lp, .int .i64 ln], .string (str d)]) rfl (by simp [Act.eval, go_sem]) ((Fp.out _).mono ?_); rintro e w5 ⟨A5, c5, rfl, ho5, hb5⟩; refine ⟨_, rfl, ?_⟩; have HB5 := hide (HB4.out.trans (hb5.mono HB4.out.size)); have Ho5 := hide ho5; clear ho5 hb5))
    all_goals
      go_wp2_with fail
      (with_reducible refine (equal_any A5 A 256 c5 256 c w5.heap.size B _ b w5 (Lies.of_own Ho5.out) Hpl.out (Hl.out.below (HB5.out.mono HBw.out)) Hb2.out).mono ?_)
      rintro e w6 ⟨rfl, rfl⟩
      go_wp2
      go_ret
      exact ⟨rfl, HB5.out⟩
  · rw [if_neg hm] at Fk
    have hr : rightB b = false := by
      unfold rightB
      rw [hh]
      exact decide_eq_false fun hx => hm hx.2.1
    rw [hr]
    have Fk := hide Fk
    rcases h with ⟨kd, ix, ct, bt, op, lp, ln⟩
    clear hl hb hc hB hh hm hr
    unfold Hd.val at *
    dsimp only at *
    go_enter Try.func66, Try.ntmps66
    go_wp2_with fail
    (with_reducible refine Fr.out.mono ?_)
    rintro e w1 ⟨rfl, hb1⟩
    have hb2 : Below w.heap.size w (w1.alloc (.cells #[.int .i64 kd, .int .i64 ix, .int .i64 ct, .int .u64 (bt : Int), .int .u64 (op : Int), .int .i64 lp, .int .i64 ln] 42)) := hb1.alloc hb1.size _
    have hx : BoxH ⟨kd, ix, ct, bt, op, lp, ln⟩ w1.heap.size (w1.alloc (.cells #[.int .i64 kd, .int .i64 ix, .int .i64 ct, .int .u64 (bt : Int), .int .u64 (op : Int), .int .i64 lp, .int .i64 ln] 42)) := heap_alloc_new w1 _
    have HB2 := hide hb2
    have HX := hide hx
    clear hb1 hb2 hx Fr
    go_upto_region 2 with fail
    generalize hw2 : w1.alloc (.cells #[.int .i64 kd, .int .i64 ix, .int .i64 ct, .int .u64 (bt : Int), .int .u64 (op : Int), .int .i64 lp, .int .i64 ln] 42) = w2 at *
    clear hw2
    generalize w1.heap.size = hk at *
    have R := HX.out.range
    unfold Hd.cells at R
    dsimp only at R
    go_wp2_with (with_reducible refine wpl_load_mid rfl 42 (.tmp 3) rfl hk 0 _ R rfl _ Try.underlying42 rfl 7 infoHd (by with_unfolding_all rfl) ?_)
    (with_reducible refine (Fk.out _).mono ?_)
    rintro e w3 ⟨rfl, hb3⟩
    have HB3 := hide (HB2.out.trans (hb3.mono HB2.out.size))
    clear hb3 R HB2 HX Fk
    go_wp2
    go_ret
    exact ⟨rfl, HB3.out⟩
end
section
open Go.RowKit
set_option maxRecDepth 8000

theorem box7 {h : Hd} {k : Nat} {W : World} (hx : BoxH h k W) (kd ix ct : Int) (bt op : Nat) (lp ln : Int) : BoxH ⟨kd, ix, ct, bt, op, lp, ln⟩ k (((((((W.setCell ⟨k, 0, none⟩ (.int .i64 kd)).setCell ⟨k, 1, none⟩ (.int .i64 ix)).setCell ⟨k, 2, none⟩ (.int .i64 ct)).setCell ⟨k, 3, none⟩ (.int .u64 (bt : Int))).setCell ⟨k, 4, none⟩ (.int .u64 (op : Int))).setCell ⟨k, 5, none⟩ (.int .i64 lp)).setCell ⟨k, 6, none⟩ (.int .i64 ln)) := by
  have h0 := heap_set hx 0 (.int .i64 kd)
  have h1 := heap_set h0 1 (.int .i64 ix)
  have h2 := heap_set h1 2 (.int .i64 ct)
  have h3 := heap_set h2 3 (.int .u64 (bt : Int))
  have h4 := heap_set h3 4 (.int .u64 (op : Int))
  have h5 := heap_set h4 5 (.int .i64 lp)
  have h6 := heap_set h5 6 (.int .i64 ln)
  have e : (((((((h.cells.toArray.setIfInBounds 0 (.int .i64 kd)).setIfInBounds 1 (.int .i64 ix)).setIfInBounds 2 (.int .i64 ct)).setIfInBounds 3 (.int .u64 (bt : Int))).setIfInBounds 4 (.int .u64 (op : Int))).setIfInBounds 5 (.int .i64 lp)).setIfInBounds 6 (.int .i64 ln)) = (Hd.mk kd ix ct bt op lp ln).cells.toArray := by
    rcases h with ⟨a, b, c, d, e, f, g⟩
    simp [Hd.cells]
  rw [e] at h6
  exact h6
theorem below7 {B k : Nat} {w W : World} (hb : Below B w W) (hk : B ≤ k) (kd ix ct : Int) (bt op : Nat) (lp ln : Int) : Below B w (((((((W.setCell ⟨k, 0, none⟩ (.int .i64 kd)).setCell ⟨k, 1, none⟩ (.int .i64 ix)).setCell ⟨k, 2, none⟩ (.int .i64 ct)).setCell ⟨k, 3, none⟩ (.int .u64 (bt : Int))).setCell ⟨k, 4, none⟩ (.int .u64 (op : Int))).setCell ⟨k, 5, none⟩ (.int .i64 lp)).setCell ⟨k, 6, none⟩ (.int .i64 ln)) := (((((((hb.setCell (p := ⟨k, 0, none⟩) hk _).setCell (p := ⟨k, 1, none⟩) hk _).setCell (p := ⟨k, 2, none⟩) hk _).setCell (p := ⟨k, 3, none⟩) hk _).setCell (p := ⟨k, 4, none⟩) hk _).setCell (p := ⟨k, 5, none⟩) hk _).setCell (p := ⟨k, 6, none⟩) hk _)
theorem load_head {k : Nat} {W : World} {h : Hd} (hx : BoxH h k W) : (loadVar 42 ⟨k, 0, none⟩).run Try.prog W = .ok h.val W :=
  run_loadVar_row W k 42 42 h.cells.toArray (0, 0) _ hx Try.underlying42 rfl infoHd
theorem results_head2 {fn : Func} {p u v : Tmp} (h : fn.results = #[.cell p 42, .tmp u, .tmp v]) (tmps : Array Value) (W : World) (hd : Hd) (k : Nat) (hp : tmps.getD p undef = .pointer (some ⟨k, 0, none⟩)) (hx : BoxH hd k W) :
    (results fn tmps).run Try.prog W = .ok (.tuple #[hd.val, tmps.getD u undef, tmps.getD v undef]) W := by
  have hp' : tmps[p]?.getD undef = .pointer (some ⟨k, 0, none⟩) := by simpa using hp
  simp [results, h, hp', asAddr, load_head hx, Result.andThen]

set_option maxHeartbeats 1000000 in
theorem pclass_any (A : Option Addr) (n c B : Nat) (b : List UInt8) (w : World) (hl : Lies w B A (bys b)) (hn : n = b.length) (hc : n ≤ c) (hB : B ≤ w.heap.size) :
    Calls Try.prog 41 #[.slice A n c] w fun e w' => e = .returned (.int .i64 (classN b : Nat)) ∧ Below w.heap.size w w' := by
  by_cases h256 : b.length = 256
  · obtain rfl : n = 256 := hn.trans h256
    have Fb := hide (blank_any A 256 c B b w hl hn (by omega))
    rw [blank_iff b h256] at Fb
    have Fr := hide (right_any A c B b w hl h256 hc hB)
    by_cases h0 : b = List.replicate 256 255
    · have hr : classN b = 0 := by unfold classN; rw [if_pos h0]
      rw [decide_eq_true h0] at Fb
      rw [hr]
      clear h0 hr hl hn hc hB h256 Fr
      go_enter Try.func41, Try.ntmps41
      go_wp2_with fail
      (with_reducible refine Fb.out.mono ?_)
      rintro e w1 ⟨rfl, rfl⟩
      go_wp2
      go_ret
      exact ⟨rfl, Below.refl _ _⟩
    · rw [decide_eq_false h0] at Fb
      cases hrb : rightB b with
      | true =>
        have hr : classN b = 1 := by unfold classN; rw [if_neg h0, if_pos hrb]
        rw [hrb] at Fr
        rw [hr]
        clear h0 hr hl hn hc hB h256 hrb
        go_enter Try.func41, Try.ntmps41
        go_wp2_with fail
        (with_reducible refine Fb.out.mono ?_)
        rintro e w1 ⟨rfl, rfl⟩
        go_wp2_with fail
        (with_reducible refine Fr.out.mono ?_)
        rintro e w1 ⟨rfl, hb⟩
        have HB := hide hb
        clear hb
        go_wp2
        go_ret
        exact ⟨rfl, HB.out⟩
      | false =>
        have hr : classN b = 2 := by unfold classN; rw [if_neg h0, if_neg (by rw [hrb]; decide)]
        rw [hrb] at Fr
        rw [hr]
        clear h0 hr hl hn hc hB h256 hrb
        go_enter Try.func41, Try.ntmps41
        go_wp2_with fail
        (with_reducible refine Fb.out.mono ?_)
        rintro e w1 ⟨rfl, rfl⟩
        go_wp2_with fail
        (with_reducible refine Fr.out.mono ?_)
        rintro e w1 ⟨rfl, hb⟩
        have HB := hide hb
        clear hb
        go_wp2
        go_ret
        exact ⟨rfl, HB.out⟩
  · have hr : classN b = 2 := by
      unfold classN
      rw [if_neg (fun h => h256 (by rw [h, List.length_replicate])), if_neg]
      intro h
      unfold rightB at h
      rw [decide_eq_true_eq] at h
      exact h256 h.1
    rw [hr]
    have h1 : ((n : Int) != 256) = true := by rw [bne_iff_ne]; omega
    have h2 : ¬ (n : Int) = 256 := by omega
    clear h256 hr hl hn hc hB
    go_enter Try.func41, Try.ntmps41
    go_wp2
    go_ret
    exact ⟨rfl, Below.refl _ _⟩

/-- What Get answers. -/
def getR (b : List UInt8) : Hd × List UInt8 × Int := if classN b = 0 then (zeroHd, [], 8) else if classN b = 1 then (headOf b, dataOf b, 0) else (zeroHd, [], 6)

set_option maxRecDepth 4000 in
set_option maxHeartbeats 4000000 in
theorem pget_any (A : Option Addr) (n c B : Nat) (b : List UInt8) (w : World) (hl : Lies w B A (bys b)) (hn : n = b.length) (hc : n ≤ c) (hB : B ≤ w.heap.size) :
    Calls Try.prog 37 #[.slice A n c] w fun e w' => e = .returned (.tuple #[(getR b).1.val, .string (str (getR b).2.1), .int .i64 (getR b).2.2]) ∧ Below w.heap.size w w' := by
  have hb1 := (Below.refl w.heap.size w).alloc (Nat.le_refl _) (.cells #[.int .i64 0, .int .i64 0, .int .i64 0, .int .u64 0, .int .u64 0, .int .i64 0, .int .i64 0] 42)
  have hx1 : BoxH zeroHd w.heap.size (w.alloc (.cells #[.int .i64 0, .int .i64 0, .int .i64 0, .int .u64 0, .int .u64 0, .int .i64 0, .int .i64 0] 42)) := heap_alloc_new w _
  have hs1 : w.heap.size < (w.alloc (.cells #[.int .i64 0, .int .i64 0, .int .i64 0, .int .u64 0, .int .u64 0, .int .i64 0, .int .i64 0] 42)).heap.size := by simp
  have Fk := hide (pclass_any A n c B b _ (hl.below (hb1.mono hB)) hn hc (Nat.le_trans hB hb1.size))
  have HX := hide hx1
  have HB := hide hb1
  have HS := hide hs1
  have Hl := hide hl
  have HBw := hide hB
  by_cases h1 : classN b = 1
  · have hrb := (class_one b).1 h1
    unfold rightB at hrb
    rw [decide_eq_true_eq] at hrb
    obtain ⟨h256, hm, _⟩ := hrb
    obtain rfl : n = 256 := hn.trans h256
    have Fr := hide (fun W (hW : Lies W B A (bys b)) (hBW : B ≤ W.heap.size) => read_any A c B b W hW h256 hc hBW)
    have Fc := hide (fun W (hW : Lies W B A (bys b)) (hBW : B ≤ W.heap.size) => carried_any A c B b (headOf b) W hW h256 hc hm.2.2.2.2.2.2.2.2.2.2.1 hm.2.2.2.2.2.2.2.2.2.2.2 hBW)
    have hg : getR b = (headOf b, dataOf b, 0) := by unfold getR; rw [if_neg (by omega), if_pos h1]
    rw [hg]
    have hd : ((b.drop 24).take (headOf b).len.toNat) = dataOf b := rfl
    rw [hd] at Fc
    rw [h1] at Fk
    generalize dataOf b = d at *
    generalize headOf b = h at *
    rcases h with ⟨kd, ix, ct, bt, op, lp, ln⟩
    clear hx1 hb1 hs1 hl hn hc hB hm h256 h1 hg hd
    unfold Hd.val at *
    dsimp only at *
    go_enter Try.func37, Try.ntmps37
    go_wp2_with fail
    (with_reducible refine Fk.out.mono ?_)
    rintro e w2 ⟨rfl, hb⟩
    have HB2 := hide (HB.out.trans (hb.mono HB.out.size))
    have HX2 := hide (HX.out.below hb HS.out)
    have Fr2 := hide (Fr.out w2 (Hl.out.below (HB2.out.mono HBw.out)) (Nat.le_trans HBw.out HB2.out.size))
    clear hb Fk HB HX Fr HS
    go_wp2_with fail
    (with_reducible refine Fr2.out.mono ?_)
    rintro e w3 ⟨rfl, hb⟩
    have hb3 := HB2.out.trans (hb.mono HB2.out.size)
    have hb4 : Below w.heap.size w (w3.alloc (.cells #[.int .i64 kd, .int .i64 ix, .int .i64 ct, .int .u64 (bt : Int), .int .u64 (op : Int), .int .i64 lp, .int .i64 ln] 42)) := hb3.alloc hb3.size _
    have hx4 : BoxH ⟨kd, ix, ct, bt, op, lp, ln⟩ w3.heap.size (w3.alloc (.cells #[.int .i64 kd, .int .i64 ix, .int .i64 ct, .int .u64 (bt : Int), .int .u64 (op : Int), .int .i64 lp, .int .i64 ln] 42)) := heap_alloc_new w3 _
    have HB4 := hide hb4
    have HX4 := hide hx4
    have HZ4 := hide ((HX2.out.below hb HX2.out.lt).below ((Below.refl w3.heap.size w3).alloc (Nat.le_refl _) (.cells #[.int .i64 kd, .int .i64 ix, .int .i64 ct, .int .u64 (bt : Int), .int .u64 (op : Int), .int .i64 lp, .int .i64 ln] 42)) (Nat.lt_of_lt_of_le HX2.out.lt hb.size))
    have Hne := hide (Nat.ne_of_lt (Nat.lt_of_lt_of_le HX2.out.lt hb.size))
    clear hb hb3 hb4 hx4 HB2 HX2 Fr2
    go_upto_region 7 with fail
    generalize hw4 : w3.alloc (.cells #[.int .i64 kd, .int .i64 ix, .int .i64 ct, .int .u64 (bt : Int), .int .u64 (op : Int), .int .i64 lp, .int .i64 ln] 42) = w4 at *
    clear hw4
    generalize w3.heap.size = hk at *
    have a0 := HX4.out.c 0 _ rfl
    have a1 := HX4.out.c 1 _ rfl
    have a2 := HX4.out.c 2 _ rfl
    have a3 := HX4.out.c 3 _ rfl
    have a4 := HX4.out.c 4 _ rfl
    have a5 := HX4.out.c 5 _ rfl
    have a6 := HX4.out.c 6 _ rfl
    try dsimp only at a0 a1 a2 a3 a4 a5 a6
    have z0 := HZ4.out.c 0 _ rfl
    have z1 := HZ4.out.c 1 _ rfl
    have z2 := HZ4.out.c 2 _ rfl
    have z3 := HZ4.out.c 3 _ rfl
    have z4 := HZ4.out.c 4 _ rfl
    have z5 := HZ4.out.c 5 _ rfl
    have z6 := HZ4.out.c 6 _ rfl
    try dsimp only at z0 z1 z2 z3 z4 z5 z6
    go_region_law (first
      | (refine step_callP (f := 64) (args := #[.slice A 256 c, .agg #[.int .i64 kd, .int .i64 ix, .int .i64 ct, .int .u64 (bt : Int), .int .u64 (op : Int), .int .i64 lp, .int .i64 ln]]) rfl (by simp [Act.eval, go_sem]) ((Fc.out _ (Hl.out.below ((HB4.out.mono HBw.out).drew)) (Nat.le_trans HBw.out HB4.out.size)).mono ?_); rintro e w5 ⟨rfl, hb5⟩; refine ⟨_, rfl, ?_⟩; have hb6 : Below w4.heap.size w4 w5 := (Below.refl _ _).drew.trans hb5; have HB5 := hide (HB4.out.trans (hb6.mono HB4.out.size)); have HX5 := hide (HX4.out.below hb6 HX4.out.lt); have HZ5 := hide (HZ4.out.below hb6 HZ4.out.lt); have b0 := HX5.out.c 0 _ rfl; have b1 := HX5.out.c 1 _ rfl; have b2 := HX5.out.c 2 _ rfl; have b3 := HX5.out.c 3 _ rfl; have b4 := HX5.out.c 4 _ rfl; have b5 := HX5.out.c 5 _ rfl; have b6 := HX5.out.c 6 _ rfl; dsimp only at b0 b1 b2 b3 b4 b5 b6; have y0 := HZ5.out.c 0 _ rfl; have y1 := HZ5.out.c 1 _ rfl; have y2 := HZ5.out.c 2 _ rfl; have y3 := HZ5.out.c 3 _ rfl; have y4 := HZ5.out.c 4 _ rfl; have y5 := HZ5.out.c 5 _ rfl; have y6 := HZ5.out.c 6 _ rfl; (try dsimp only at y0 y1 y2 y3 y4 y5 y6); have x0 := HZ5.out.free 0; have x1 := HZ5.out.free 1; have x2 := HZ5.out.free 2; have x3 := HZ5.out.free 3; have x4 := HZ5.out.free 4; have x5 := HZ5.out.free 5; have x6 := HZ5.out.free 6; clear hb5 hb6))
    all_goals
      go_wp2
      refine bodyPost_ret (results_head2 rfl _ _ ⟨kd, ix, ct, bt, op, lp, ln⟩ w.heap.size rfl (box7 HZ5.out kd ix ct bt op lp ln)) rfl ⟨rfl, below7 HB5.out (Nat.le_refl _) kd ix ct bt op lp ln⟩
  · have h2 : (getR b).1 = zeroHd ∧ (getR b).2.1 = [] := by
      unfold getR
      by_cases h0 : classN b = 0
      · rw [if_pos h0]; exact ⟨rfl, rfl⟩
      · rw [if_neg h0, if_neg h1]; exact ⟨rfl, rfl⟩
    rw [h2.1, h2.2]
    rcases (show classN b = 0 ∨ classN b = 2 by have := class_le b; omega) with h0 | h0
    all_goals
      have h3 : (getR b).2.2 = (if classN b = 0 then 8 else 6) := by
        unfold getR
        by_cases h0 : classN b = 0
        · rw [if_pos h0, if_pos h0]
        · rw [if_neg h0, if_neg h0, if_neg h1]
      rw [h3, h0]
      rw [h0] at Fk
      clear hx1 hb1 hs1 hl hn hc hB h1 h2 h3 h0
      go_enter Try.func37, Try.ntmps37
      go_wp2_with fail
      (with_reducible refine Fk.out.mono ?_)
      rintro e w2 ⟨rfl, hb⟩
      have HB2 := hide (HB.out.trans (hb.mono HB.out.size))
      have HX2 := hide (HX.out.below hb HS.out)
      clear hb Fk
      have z0 := HX2.out.c 0 _ rfl
      have z1 := HX2.out.c 1 _ rfl
      have z2 := HX2.out.c 2 _ rfl
      have z3 := HX2.out.c 3 _ rfl
      have z4 := HX2.out.c 4 _ rfl
      have z5 := HX2.out.c 5 _ rfl
      have z6 := HX2.out.c 6 _ rfl
      try dsimp only at z0 z1 z2 z3 z4 z5 z6
      have y0 := HX2.out.free 0
      have y1 := HX2.out.free 1
      have y2 := HX2.out.free 2
      have y3 := HX2.out.free 3
      have y4 := HX2.out.free 4
      have y5 := HX2.out.free 5
      have y6 := HX2.out.free 6
      go_wp2
      refine bodyPost_ret (results_head2 rfl _ _ zeroHd w.heap.size rfl (box7 HX2.out 0 0 0 0 0 0 0)) rfl ⟨rfl, below7 HB2.out (Nat.le_refl _) 0 0 0 0 0 0 0⟩
end
end Go.Proofs.Ytahipfmokbiklaa
