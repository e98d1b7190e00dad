/-
  CONTRACTS of page.right and page.Class.
-/
import Derived.Test.YtigpplckddnghaaPgS
import Derived.Test.YtigpplckddnghaaGet
namespace Go.Proofs.Ytigpplckddnghaa
open Go.RowKit
set_option maxRecDepth 8000

theorem right_is (b d : List UInt8) (h : Hd) (hb : b.length = 256) (hh : headOf b = h) (hm : h.May) (hd : d = (b.drop 24).take h.len.toNat) : rightB b = decide (pageB h d = b) := by
  unfold rightB dataOf
  rw [hh, ← hd]
  by_cases he : pageB h d = b
  · rw [decide_eq_true he, decide_eq_true ⟨hb, hm, he⟩]
  · rw [decide_eq_false he, decide_eq_false (fun hx => he hx.2.2)]
theorem data_len (b : List UInt8) (n : Nat) (hb : b.length = 256) (hn : n ≤ 228) : ((b.drop 24).take n).length = n := by
  rw [List.length_take, List.length_drop, hb]; omega

set_option maxRecDepth 4000 in
set_option maxHeartbeats 4000000 in
theorem right_any (A : Option Addr) (c B : Nat) (b : List UInt8) (w : World) (hl : Lies w B A (bys b)) (hb : b.length = 256) (hc : 256 ≤ c) (hB : B ≤ w.heap.size) :
    Calls Try.prog 82 #[.slice A 256 c] w fun e w' => e = .returned (.bool (rightB b)) ∧ Below w.heap.size w w' := by
  have Fr := hide (read_any A c B b w hl hb hc hB)
  have Fk := fun W => pcheck_any (headOf b) W
  generalize hh : headOf b = h at *
  have Hl := hide hl
  by_cases hm : h.May
  · rw [if_pos hm] at Fk
    obtain ⟨d, hd⟩ : ∃ d, d = (b.drop 24).take h.len.toNat := ⟨_, rfl⟩
    have Hright := hide (right_is b d h hb hh hm hd)
    have h11 := hm.2.2.2.2.2.2.2.2.2.2.1
    have h12 := hm.2.2.2.2.2.2.2.2.2.2.2
    have hdl : (d.length : Int) = h.len := by rw [hd, data_len b _ hb (by omega)]; omega
    have Fc := hide (fun W (hW : Lies W B A (bys b)) (hBW : B ≤ W.heap.size) => carried_any A c B b h W hW hb hc h11 h12 hBW)
    rw [← hd] at Fc
    have Fp := hide (fun W => pput_ok h d W hm hdl)
    have Fk := hide Fk
    have Hb2 := hide (show (256 : Nat) = b.length from hb.symm)
    have Hpl := hide (show 256 = (pageB h d).length from (pageB_len h d (by omega)).symm)
    have HBw := hide hB
    rw [Hright.out]
    rcases h with ⟨kd, ix, ct, bt, op, lp, ln⟩
    clear hl hb hc hB hh hm hd h11 h12 hdl Hright
    unfold Hd.val at *
    dsimp only at *
    go_enter Try.func82, Try.ntmps82
    go_wp2_with fail
    (with_reducible refine Fr.out.mono ?_)
    rintro e w1 ⟨rfl, hb1⟩
    have hb2 : Below w.heap.size w (w1.alloc (.cells #[.int .i64 kd, .int .i64 ix, .int .i64 ct, .int .u64 (bt : Int), .int .u64 (op : Int), .int .i64 lp, .int .i64 ln] 89)) := hb1.alloc hb1.size _
    have hx : BoxH ⟨kd, ix, ct, bt, op, lp, ln⟩ w1.heap.size (w1.alloc (.cells #[.int .i64 kd, .int .i64 ix, .int .i64 ct, .int .u64 (bt : Int), .int .u64 (op : Int), .int .i64 lp, .int .i64 ln] 89)) := heap_alloc_new w1 _
    have HB2 := hide hb2
    have HX := hide hx
    clear hb1 hb2 hx Fr
    go_upto_region 2 with fail
    generalize hw2 : w1.alloc (.cells #[.int .i64 kd, .int .i64 ix, .int .i64 ct, .int .u64 (bt : Int), .int .u64 (op : Int), .int .i64 lp, .int .i64 ln] 89) = w2 at *
    clear hw2
    generalize w1.heap.size = hk at *
    have R := HX.out.range
    unfold Hd.cells at R
    dsimp only at R
    go_wp2_with (with_reducible refine wpl_load_mid rfl 89 (.tmp 3) rfl hk 0 _ R rfl _ Try.underlying89 rfl 7 infoHd (by with_unfolding_all rfl) ?_)
    (with_reducible refine (Fk.out _).mono ?_)
    rintro e w3 ⟨rfl, hb3⟩
    have HB3 := hide (HB2.out.trans (hb3.mono HB2.out.size))
    have HX3 := hide (HX.out.below hb3 HX.out.lt)
    clear hb3 R HB2 HX Fk
    go_upto_region 4 with fail
    have Hhk := hide HX3.out.lt
    have a0 := HX3.out.c 0 _ rfl
    have a1 := HX3.out.c 1 _ rfl
    have a2 := HX3.out.c 2 _ rfl
    have a3 := HX3.out.c 3 _ rfl
    have a4 := HX3.out.c 4 _ rfl
    have a5 := HX3.out.c 5 _ rfl
    have a6 := HX3.out.c 6 _ rfl
    dsimp only at a0 a1 a2 a3 a4 a5 a6
    go_region_law (first
      | (refine step_callP (f := 75) (args := #[.slice A 256 c, .agg #[.int .i64 kd, .int .i64 ix, .int .i64 ct, .int .u64 (bt : Int), .int .u64 (op : Int), .int .i64 lp, .int .i64 ln]]) rfl (by simp [Act.eval, go_sem]) ((Fc.out _ (Hl.out.below ((HB3.out.mono HBw.out).drew)) (Nat.le_trans HBw.out HB3.out.size)).mono ?_); rintro e w4 ⟨rfl, hb4⟩; refine ⟨_, rfl, ?_⟩; have hb5 : Below w3.heap.size w3 w4 := (Below.refl _ _).drew.trans hb4; have HB4 := hide (HB3.out.trans (hb5.mono HB3.out.size)); have HX4 := hide (HX3.out.below hb5 Hhk.out); have b0 := HX4.out.c 0 _ rfl; have b1 := HX4.out.c 1 _ rfl; have b2 := HX4.out.c 2 _ rfl; have b3 := HX4.out.c 3 _ rfl; have b4 := HX4.out.c 4 _ rfl; have b5 := HX4.out.c 5 _ rfl; have b6 := HX4.out.c 6 _ rfl; dsimp only at b0 b1 b2 b3 b4 b5 b6; clear hb4 hb5)
      | (refine step_callP (f := 36) (args := #[.agg #[.int .i64 kd, .int .i64 ix, .int .i64 ct, .int .u64 (bt : Int), .int .u64 (op : Int), .int .i64 lp, .int .i64 ln], .string (str d)]) rfl (by simp [Act.eval, go_sem]) ((Fp.out _).mono ?_); rintro e w5 ⟨A5, c5, rfl, ho5, hb5⟩; refine ⟨_, rfl, ?_⟩; have HB5 := hide (HB4.out.trans (hb5.mono HB4.out.size)); have Ho5 := hide ho5; clear ho5 hb5))
    all_goals
      go_wp2_with fail
      (with_reducible refine (equal_any A5 A 256 c5 256 c w5.heap.size B _ b w5 (Lies.of_own Ho5.out) Hpl.out (Hl.out.below (HB5.out.mono HBw.out)) Hb2.out).mono ?_)
      rintro e w6 ⟨rfl, rfl⟩
      go_wp2
      go_ret
      exact ⟨rfl, HB5.out⟩
  · rw [if_neg hm] at Fk
    have hr : rightB b = false := by
      unfold rightB
      rw [hh]
      exact decide_eq_false fun hx => hm hx.2.1
    rw [hr]
    have Fk := hide Fk
    rcases h with ⟨kd, ix, ct, bt, op, lp, ln⟩
    clear hl hb hc hB hh hm hr
    unfold Hd.val at *
    dsimp only at *
    go_enter Try.func82, Try.ntmps82
    go_wp2_with fail
    (with_reducible refine Fr.out.mono ?_)
    rintro e w1 ⟨rfl, hb1⟩
    have hb2 : Below w.heap.size w (w1.alloc (.cells #[.int .i64 kd, .int .i64 ix, .int .i64 ct, .int .u64 (bt : Int), .int .u64 (op : Int), .int .i64 lp, .int .i64 ln] 89)) := hb1.alloc hb1.size _
    have hx : BoxH ⟨kd, ix, ct, bt, op, lp, ln⟩ w1.heap.size (w1.alloc (.cells #[.int .i64 kd, .int .i64 ix, .int .i64 ct, .int .u64 (bt : Int), .int .u64 (op : Int), .int .i64 lp, .int .i64 ln] 89)) := heap_alloc_new w1 _
    have HB2 := hide hb2
    have HX := hide hx
    clear hb1 hb2 hx Fr
    go_upto_region 2 with fail
    generalize hw2 : w1.alloc (.cells #[.int .i64 kd, .int .i64 ix, .int .i64 ct, .int .u64 (bt : Int), .int .u64 (op : Int), .int .i64 lp, .int .i64 ln] 89) = w2 at *
    clear hw2
    generalize w1.heap.size = hk at *
    have R := HX.out.range
    unfold Hd.cells at R
    dsimp only at R
    go_wp2_with (with_reducible refine wpl_load_mid rfl 89 (.tmp 3) rfl hk 0 _ R rfl _ Try.underlying89 rfl 7 infoHd (by with_unfolding_all rfl) ?_)
    (with_reducible refine (Fk.out _).mono ?_)
    rintro e w3 ⟨rfl, hb3⟩
    have HB3 := hide (HB2.out.trans (hb3.mono HB2.out.size))
    clear hb3 R HB2 HX Fk
    go_wp2
    go_ret
    exact ⟨rfl, HB3.out⟩
end Go.Proofs.Ytigpplckddnghaa
