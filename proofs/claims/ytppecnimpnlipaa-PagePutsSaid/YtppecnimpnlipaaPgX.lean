/-
  The walk of PagePuts. (By gen/PgX.gen.py.)
-/
import Derived.Test.YtppecnimpnlipaaPgA
import Derived.Test.YtppecnimpnlipaaPgQ
namespace Go.Proofs.Ytppecnimpnlipaa
open Go.RowKit

theorem getR_page (h : Hd) (d : List UInt8) (hm : h.May) (hd : (d.length : Int) = h.len) : getR (pageB h d) = (h, d, 0) := by
  have h1 : classN (pageB h d) = 1 := class_page h d hm (by omega)
  obtain ⟨h2, h3⟩ := page_back h d hm (by omega)
  unfold getR
  rw [if_neg (by omega), if_pos h1, h2, h3]

set_option maxRecDepth 4000 in
set_option maxHeartbeats 4000000 in
theorem puts_off (h : Hd) (d : List UInt8) (w : World) (hbig : 400 < d.length) :
    Calls Try.prog 4 #[h.val, .string (str d)] w fun e w' => e = .returned (.bool true) ∧ Below w.heap.size w w' := by
  have hb1 := (Below.refl w.heap.size w).alloc (Nat.le_refl _) (.cells h.cells.toArray 57)
  have hsz := str_size d
  have h4 : (400 : Int) < (d.length : Int) := by omega
  generalize d.length = n at *
  rcases h with ⟨kd, ix, ct, bt, op, lp, ln⟩
  have HB := hide hb1
  clear hb1 hbig
  unfold Hd.val at *
  unfold Hd.cells at *
  dsimp only at *
  go_enter Try.func4, Try.ntmps4
  go_wp2_with fail
  (with_reducible refine (awake15_any _).mono ?_)
  rintro e w3 ⟨rfl, hb⟩
  have HB3 := hide (HB.out.trans (hb.mono HB.out.size))
  clear hb
  go_wp2
  go_ret
  exact ⟨rfl, HB3.out⟩

set_option maxRecDepth 4000 in
set_option maxHeartbeats 4000000 in
theorem puts_bad (h : Hd) (d : List UInt8) (w : World) (hsm : d.length ≤ 400) (hbad : ¬ (h.May ∧ (d.length : Int) = h.len)) :
    Calls Try.prog 4 #[h.val, .string (str d)] w fun e w' => e = .returned (.bool true) ∧ Below w.heap.size w w' := by
  have Fp := hide (fun W => pput_bad h d W hbad)
  have Fm := fun W => may15_any h W
  have Fk := fun W => pcheck_any h W
  have hx1 : BoxH h w.heap.size (w.alloc (.cells h.cells.toArray 57)) := BoxH.new h w
  have hb1 := (Below.refl w.heap.size w).alloc (Nat.le_refl _) (.cells h.cells.toArray 57)
  have hsz := str_size d
  have h4 : ¬ (400 : Int) < (d.length : Int) := by omega
  have hcase : (h.May ∧ ((d.length : Int) != h.len) = true) ∨ ¬ h.May := by
    by_cases hm : h.May
    · exact .inl ⟨hm, bne_iff_ne.2 (fun hd => hbad ⟨hm, hd⟩)⟩
    · exact .inr hm
  generalize d.length = n at *
  have HX := hide hx1
  have HB := hide hb1
  clear hx1 hb1 hsm hbad
  rcases hcase with ⟨hm, hne⟩ | hm
  all_goals
    first
    | (rw [decide_eq_true hm] at Fm; rw [if_pos hm] at Fk)
    | (rw [decide_eq_false hm] at Fm; rw [if_neg hm] at Fk)
    have Fm := hide Fm
    have Fk := hide Fk
    clear hm
    rcases h with ⟨kd, ix, ct, bt, op, lp, ln⟩
    unfold Hd.val at *
    unfold Hd.cells at *
    dsimp only at *
    go_enter Try.func4, Try.ntmps4
    go_wp2_with fail
    (with_reducible refine (Fp.out _).mono ?_)
    rintro e w2 ⟨rfl, hb⟩
    have HB2 := hide (HB.out.trans (hb.mono HB.out.size))
    have HX2 := hide (HX.out.below hb HX.out.lt)
    have R := HX2.out.range
    unfold Hd.cells at R
    dsimp only at R
    clear hb HB HX Fp
    go_wp2_with (with_reducible refine wpl_load_mid rfl 57 (.tmp 2) rfl w.heap.size 0 _ R rfl _ Try.underlying57 rfl 7 infoHd (by with_unfolding_all rfl) ?_)
    (with_reducible refine (Fm.out _).mono ?_)
    rintro e w3 ⟨rfl, hb⟩
    have HB3 := hide (HB2.out.trans (hb.mono HB2.out.size))
    have HX3 := hide (HX2.out.below hb HX2.out.lt)
    have R := HX3.out.range
    unfold Hd.cells at R
    dsimp only at R
    clear hb HB2 HX2 Fm
    go_wp2_with (with_reducible refine wpl_load_mid rfl 57 (.tmp 2) rfl w.heap.size 0 _ R rfl _ Try.underlying57 rfl 7 infoHd (by with_unfolding_all rfl) ?_)
    (with_reducible refine (Fk.out _).mono ?_)
    rintro e w4 ⟨rfl, hb⟩
    have HB4 := hide (HB3.out.trans (hb.mono HB3.out.size))
    have c6 := (HX3.out.below hb HX3.out.lt).c 6 _ rfl
    dsimp only at c6
    clear hb HB3 HX3 R
    go_wp2_with fail
    (with_reducible refine (awake15_any _).mono ?_)
    rintro e w5 ⟨rfl, hb⟩
    have HB5 := hide (HB4.out.trans (hb.mono HB4.out.size))
    clear hb
    go_wp2
    go_ret
    exact ⟨rfl, HB5.out⟩

set_option maxRecDepth 4000 in
set_option maxHeartbeats 8000000 in
theorem puts_ok (h : Hd) (d : List UInt8) (w : World) (hm : h.May) (hd : (d.length : Int) = h.len) :
    Calls Try.prog 4 #[h.val, .string (str d)] w fun e w' => e = .returned (.bool true) ∧ Below w.heap.size w w' := by
  have Fp := hide (fun W => pput_ok h d W hm hd)
  have Fm := fun W => may15_any h W
  have Fk := fun W => pcheck_any h W
  rw [decide_eq_true hm] at Fm
  rw [if_pos hm] at Fk
  have Fm := hide Fm
  have Fk := hide Fk
  have Fq := hide (fun W => put15_any h d W hm hd)
  have h12 := hm.2.2.2.2.2.2.2.2.2.2.2
  have hlen : (pageB h d).length = 256 := pageB_len h d (by omega)
  have hget := getR_page h d hm hd
  have hcl : classN (pageB h d) = 1 := class_page h d hm (by omega)
  have Fg : Hid (∀ A c W, Lies W W.heap.size A (bys (pageB h d)) → 256 ≤ c → Calls Try.prog 27 #[.slice A 256 c] W fun e w' => e = .returned (.tuple #[h.val, .string (str d), .int .i64 0]) ∧ Below W.heap.size W w') :=
    hide (fun A c W hl hc => by
      have := pget_any A 256 c W.heap.size (pageB h d) W hl hlen.symm hc (Nat.le_refl _)
      rw [hget] at this
      exact this)
  have Fc : Hid (∀ A c B W, Lies W B A (bys (pageB h d)) → B ≤ W.heap.size → 256 ≤ c → Calls Try.prog 29 #[.slice A 256 c] W fun e w' => e = .returned (.int .i64 1) ∧ Below W.heap.size W w') :=
    hide (fun A c B W hl hB hc => by
      have := pclass_any A 256 c B (pageB h d) W hl hlen.symm hc hB
      rw [hcl] at this
      exact this)
  have hx1 : BoxH h w.heap.size (w.alloc (.cells h.cells.toArray 57)) := BoxH.new h w
  have hb1 := (Below.refl w.heap.size w).alloc (Nat.le_refl _) (.cells h.cells.toArray 57)
  have hsz := str_size d
  have h4 : ¬ (400 : Int) < (d.length : Int) := by omega
  generalize pageB h d = s at *
  have HLen := hide hlen
  have HX := hide hx1
  have HB := hide hb1
  clear hx1 hb1 hm h12 hlen hget hcl
  rcases h with ⟨kd, ix, ct, bt, op, lp, ln⟩
  simp only at hd
  subst hd
  have hne : ((d.length : Int) != (d.length : Int)) = false := by simp
  generalize d.length = n at *
  unfold Hd.val at *
  unfold Hd.cells at *
  dsimp only at *
  go_enter Try.func4, Try.ntmps4
  go_wp2_with fail
  (with_reducible refine (Fp.out _).mono ?_)
  rintro e w2 ⟨A1, c1, rfl, ho, hb⟩
  have hc1 : 256 ≤ c1 := by obtain ⟨_, _, h1, h2, _⟩ := own_form ho; injection h1 with _ _ h3; omega
  have HC := hide hc1
  have HL2 := hide (Lies.of_own ho)
  have HB2 := hide (HB.out.trans (hb.mono HB.out.size))
  have HX2 := hide (HX.out.below hb HX.out.lt)
  have R := HX2.out.range
  unfold Hd.cells at R
  dsimp only at R
  clear hb HB HX Fp ho hc1
  go_wp2_with (with_reducible refine wpl_load_mid rfl 57 (.tmp 2) rfl w.heap.size 0 _ R rfl _ Try.underlying57 rfl 7 infoHd (by with_unfolding_all rfl) ?_)
  (with_reducible refine (Fm.out _).mono ?_)
  rintro e w3 ⟨rfl, hb⟩
  have HB3 := hide (HB2.out.trans (hb.mono HB2.out.size))
  have HX3 := hide (HX2.out.below hb HX2.out.lt)
  have HL3 := hide ((HL2.out.below hb).up hb.size)
  have R := HX3.out.range
  unfold Hd.cells at R
  dsimp only at R
  clear hb HB2 HX2 HL2 Fm
  go_wp2_with (with_reducible refine wpl_load_mid rfl 57 (.tmp 2) rfl w.heap.size 0 _ R rfl _ Try.underlying57 rfl 7 infoHd (by with_unfolding_all rfl) ?_)
  (with_reducible refine (Fk.out _).mono ?_)
  rintro e w4 ⟨rfl, hb⟩
  have HB4 := hide (HB3.out.trans (hb.mono HB3.out.size))
  have HX4 := hide (HX3.out.below hb HX3.out.lt)
  have HL4 := hide ((HL3.out.below hb).up hb.size)
  have c6 := HX4.out.c 6 _ rfl
  dsimp only at c6
  clear hb HB3 HX3 HL3 R Fk
  go_wp2_with fail
  (with_reducible refine (Fg.out _ _ _ HL4.out HC.out).mono ?_)
  rintro e w5 ⟨rfl, hb⟩
  have hx5 := HX4.out.below hb HX4.out.lt
  have hb6 : Below w5.heap.size w5 (w5.alloc (.cells #[.int .i64 kd, .int .i64 ix, .int .i64 ct, .int .u64 (bt : Int), .int .u64 (op : Int), .int .i64 lp, .int .i64 (n : Int)] 57)) := (Below.refl _ _).alloc (Nat.le_refl _) _
  have HY6 : Hid (BoxH ⟨kd, ix, ct, bt, op, lp, n⟩ w5.heap.size (w5.alloc (.cells #[.int .i64 kd, .int .i64 ix, .int .i64 ct, .int .u64 (bt : Int), .int .u64 (op : Int), .int .i64 lp, .int .i64 (n : Int)] 57))) := hide (heap_alloc_new w5 _)
  have HX6 := hide (hx5.below hb6 hx5.lt)
  have HB6 := hide ((HB4.out.trans (hb.mono HB4.out.size)).trans (hb6.mono (HB4.out.trans (hb.mono HB4.out.size)).size))
  have HL6 := hide ((((HL4.out.below hb).up hb.size).below hb6).up hb6.size)
  clear hb hx5 hb6 HB4 HX4 HL4 c6 Fg hne
  go_upto_region 10 with fail
  generalize hw6 : w5.alloc (.cells #[.int .i64 kd, .int .i64 ix, .int .i64 ct, .int .u64 (bt : Int), .int .u64 (op : Int), .int .i64 lp, .int .i64 (n : Int)] 57) = w6 at *
  clear hw6
  generalize w5.heap.size = hk at *
  refine wp_region_all (by kernel_rfl) (fun dd => match dd with | 53 => is (.bool true) | 54 => is (.bool true) | 55 => is (.int .i64 0) | 56 => is (.bool true) | 57 => is (.bool true) | 58 => is (.bool true) | 59 => is (.slice A1 256 c1) | 60 => is (.string (str s)) | 61 => is (.agg #[.int .i64 kd, .int .i64 ix, .int .i64 ct, .int .u64 (bt : Int), .int .u64 (op : Int), .int .i64 lp, .int .i64 (n : Int)]) | 62 => is (.string (str d)) | 63 => is (.string (str s)) | 64 => is (.bool true) | 65 => is (.bool true) | 66 => is (.bool true) | 67 => is (.agg #[.int .i64 kd, .int .i64 ix, .int .i64 ct, .int .u64 (bt : Int), .int .u64 (op : Int), .int .i64 lp, .int .i64 (n : Int)]) | 68 => is (.agg #[.int .i64 kd, .int .i64 ix, .int .i64 ct, .int .u64 (bt : Int), .int .u64 (op : Int), .int .i64 lp, .int .i64 (n : Int)]) | 69 => is (.bool true) | 70 => is (.bool true) | 71 => is (.bool true) | 72 => is (.string (str d)) | 73 => is (.string (str d)) | 74 => is (.bool true) | 75 => is (.bool true) | 76 => is (.bool true) | 77 => is (.int .i64 0) | 78 => is (.bool true) | 79 => is (.bool true) | 80 => is (.bool true) | 81 => is (.slice A1 256 c1) | 82 => is (.int .i64 1) | 83 => is (.bool true) | 84 => is (.bool true) | 4 => is (.bool true) | _ => fun _ _ => True) (by kernel_rfl) ⟨?_, ?_, ?_, ?_, ?_, ?_, ?_, ?_, ?_, ?_, ?_, ?_, ?_, ?_, ?_, ?_, ?_, ?_, ?_, ?_, ?_, ?_, ?_, ?_, ?_, ?_, ?_, ?_, ?_, ?_, ?_, ?_, ?_, trivial⟩ ?_
  · intro a w' hb h
    exact .called (want0 rfl) rfl (by simp [go_sem]) (belowF (awake15_any w'))
  · intro a w' hb h
    have e53 := (sw h 53 (by kernel_rfl) (by kernel_rfl)).eq
    exact .val (want0 rfl) rfl (by simp [Act.eval, e53, go_sem]) (Keeps.is rfl)
  · intro a w' hb h
    have eg := (sw h 54 (by kernel_rfl) (by kernel_rfl)).eq
    have e6 : a.tmps.getD 6 undef = .int .i64 0 := sb h 6 (by kernel_rfl) (by kernel_rfl) rfl
    exact .val (wantg rfl (by kernel_rfl) eg) rfl (by simp [Act.eval, e6, go_sem]) (Keeps.is rfl)
  · intro a w' hb h
    have eg := (sw h 54 (by kernel_rfl) (by kernel_rfl)).eq
    have e55 := (sw h 55 (by kernel_rfl) (by kernel_rfl)).eq
    exact .val (wantg rfl (by kernel_rfl) eg) rfl (by simp [Act.eval, e55, go_sem]) (Keeps.is rfl)
  · intro a w' hb h
    have e54 := (sw h 54 (by kernel_rfl) (by kernel_rfl)).eq
    have e56 := (sw h 56 (by kernel_rfl) (by kernel_rfl)).eq
    exact .val (want0 rfl) rfl (by simp [Act.eval, e54, e56, go_sem]) (Keeps.is rfl)
  · intro a w' hb h
    have e57 := (sw h 57 (by kernel_rfl) (by kernel_rfl)).eq
    exact .val (want0 rfl) rfl (by simp [Act.eval, e57, go_sem]) (Keeps.is rfl)
  · intro a w' hb h
    have eg := (sw h 58 (by kernel_rfl) (by kernel_rfl)).eq
    have e5 : a.tmps.getD 5 undef = .slice A1 256 c1 := sb h 5 (by kernel_rfl) (by kernel_rfl) rfl
    exact .val (wantg rfl (by kernel_rfl) eg) rfl (by simp [Act.eval, e5, go_sem]) (Keeps.is rfl)
  · intro a w' hb h
    have eg := (sw h 58 (by kernel_rfl) (by kernel_rfl)).eq
    have e59 := (sw h 59 (by kernel_rfl) (by kernel_rfl)).eq
    have hs := strU8 c1 (HL6.out.below hb) HLen.out.symm
    exact .val (wantg rfl (by kernel_rfl) eg) rfl (by simp [Act.eval, e59, hs, go_sem]) (Keeps.is rfl)
  · intro a w' hb h
    have eg := (sw h 58 (by kernel_rfl) (by kernel_rfl)).eq
    have e2 : a.tmps.getD 2 undef = .pointer (some ⟨w.heap.size, 0, none⟩) := sb h 2 (by kernel_rfl) (by kernel_rfl) rfl
    have kx := HX6.out.below hb HX6.out.lt
    have q0 := kx.c 0 _ rfl
    have q1 := kx.c 1 _ rfl
    have q2 := kx.c 2 _ rfl
    have q3 := kx.c 3 _ rfl
    have q4 := kx.c 4 _ rfl
    have q5 := kx.c 5 _ rfl
    have q6 := kx.c 6 _ rfl
    dsimp only at q0 q1 q2 q3 q4 q5 q6
    exact .val (wantg rfl (by kernel_rfl) eg) rfl (by simp [Act.eval, e2, q0, q1, q2, q3, q4, q5, q6, go_sem]) (Keeps.is rfl)
  · intro a w' hb h
    have eg := (sw h 58 (by kernel_rfl) (by kernel_rfl)).eq
    have e1 : a.tmps.getD 1 undef = .string (str d) := sb h 1 (by kernel_rfl) (by kernel_rfl) rfl
    exact .val (wantg rfl (by kernel_rfl) eg) rfl (by simp [Act.eval, e1, go_sem]) (Keeps.is rfl)
  · intro a w' hb h
    have eg := (sw h 58 (by kernel_rfl) (by kernel_rfl)).eq
    have e61 := (sw h 61 (by kernel_rfl) (by kernel_rfl)).eq
    have e62 := (sw h 62 (by kernel_rfl) (by kernel_rfl)).eq
    exact .called (wantg rfl (by kernel_rfl) eg) rfl (by simp [Act.eval, e61, e62, go_sem]) (belowF (Fq.out w'))
  · intro a w' hb h
    have eg := (sw h 58 (by kernel_rfl) (by kernel_rfl)).eq
    have e60 := (sw h 60 (by kernel_rfl) (by kernel_rfl)).eq
    have e63 := (sw h 63 (by kernel_rfl) (by kernel_rfl)).eq
    exact .val (wantg rfl (by kernel_rfl) eg) rfl (by simp [Act.eval, e60, e63, go_sem]) (Keeps.is rfl)
  · intro a w' hb h
    have e58 := (sw h 58 (by kernel_rfl) (by kernel_rfl)).eq
    have e64 := (sw h 64 (by kernel_rfl) (by kernel_rfl)).eq
    exact .val (want0 rfl) rfl (by simp [Act.eval, e58, e64, go_sem]) (Keeps.is rfl)
  · intro a w' hb h
    have e65 := (sw h 65 (by kernel_rfl) (by kernel_rfl)).eq
    exact .val (want0 rfl) rfl (by simp [Act.eval, e65, go_sem]) (Keeps.is rfl)
  · intro a w' hb h
    have eg := (sw h 66 (by kernel_rfl) (by kernel_rfl)).eq
    have e8 : a.tmps.getD 8 undef = .pointer (some ⟨hk, 0, none⟩) := sb h 8 (by kernel_rfl) (by kernel_rfl) rfl
    have kx := HY6.out.below hb HY6.out.lt
    have q0 := kx.c 0 _ rfl
    have q1 := kx.c 1 _ rfl
    have q2 := kx.c 2 _ rfl
    have q3 := kx.c 3 _ rfl
    have q4 := kx.c 4 _ rfl
    have q5 := kx.c 5 _ rfl
    have q6 := kx.c 6 _ rfl
    dsimp only at q0 q1 q2 q3 q4 q5 q6
    exact .val (wantg rfl (by kernel_rfl) eg) rfl (by simp [Act.eval, e8, q0, q1, q2, q3, q4, q5, q6, go_sem]) (Keeps.is rfl)
  · intro a w' hb h
    have eg := (sw h 66 (by kernel_rfl) (by kernel_rfl)).eq
    have e2 : a.tmps.getD 2 undef = .pointer (some ⟨w.heap.size, 0, none⟩) := sb h 2 (by kernel_rfl) (by kernel_rfl) rfl
    have kx := HX6.out.below hb HX6.out.lt
    have q0 := kx.c 0 _ rfl
    have q1 := kx.c 1 _ rfl
    have q2 := kx.c 2 _ rfl
    have q3 := kx.c 3 _ rfl
    have q4 := kx.c 4 _ rfl
    have q5 := kx.c 5 _ rfl
    have q6 := kx.c 6 _ rfl
    dsimp only at q0 q1 q2 q3 q4 q5 q6
    exact .val (wantg rfl (by kernel_rfl) eg) rfl (by simp [Act.eval, e2, q0, q1, q2, q3, q4, q5, q6, go_sem]) (Keeps.is rfl)
  · intro a w' hb h
    have eg := (sw h 66 (by kernel_rfl) (by kernel_rfl)).eq
    have e67 := (sw h 67 (by kernel_rfl) (by kernel_rfl)).eq
    have e68 := (sw h 68 (by kernel_rfl) (by kernel_rfl)).eq
    exact .val (wantg rfl (by kernel_rfl) eg) rfl (by simp [Act.eval, e67, e68, go_sem]) (Keeps.is rfl)
  · intro a w' hb h
    have e66 := (sw h 66 (by kernel_rfl) (by kernel_rfl)).eq
    have e69 := (sw h 69 (by kernel_rfl) (by kernel_rfl)).eq
    exact .val (want0 rfl) rfl (by simp [Act.eval, e66, e69, go_sem]) (Keeps.is rfl)
  · intro a w' hb h
    have e70 := (sw h 70 (by kernel_rfl) (by kernel_rfl)).eq
    exact .val (want0 rfl) rfl (by simp [Act.eval, e70, go_sem]) (Keeps.is rfl)
  · intro a w' hb h
    have eg := (sw h 71 (by kernel_rfl) (by kernel_rfl)).eq
    have e9 : a.tmps.getD 9 undef = .string (str d) := sb h 9 (by kernel_rfl) (by kernel_rfl) rfl
    exact .val (wantg rfl (by kernel_rfl) eg) rfl (by simp [Act.eval, e9, go_sem]) (Keeps.is rfl)
  · intro a w' hb h
    have eg := (sw h 71 (by kernel_rfl) (by kernel_rfl)).eq
    have e1 : a.tmps.getD 1 undef = .string (str d) := sb h 1 (by kernel_rfl) (by kernel_rfl) rfl
    exact .val (wantg rfl (by kernel_rfl) eg) rfl (by simp [Act.eval, e1, go_sem]) (Keeps.is rfl)
  · intro a w' hb h
    have eg := (sw h 71 (by kernel_rfl) (by kernel_rfl)).eq
    have e72 := (sw h 72 (by kernel_rfl) (by kernel_rfl)).eq
    have e73 := (sw h 73 (by kernel_rfl) (by kernel_rfl)).eq
    exact .val (wantg rfl (by kernel_rfl) eg) rfl (by simp [Act.eval, e72, e73, go_sem]) (Keeps.is rfl)
  · intro a w' hb h
    have e71 := (sw h 71 (by kernel_rfl) (by kernel_rfl)).eq
    have e74 := (sw h 74 (by kernel_rfl) (by kernel_rfl)).eq
    exact .val (want0 rfl) rfl (by simp [Act.eval, e71, e74, go_sem]) (Keeps.is rfl)
  · intro a w' hb h
    have e75 := (sw h 75 (by kernel_rfl) (by kernel_rfl)).eq
    exact .val (want0 rfl) rfl (by simp [Act.eval, e75, go_sem]) (Keeps.is rfl)
  · intro a w' hb h
    have eg := (sw h 76 (by kernel_rfl) (by kernel_rfl)).eq
    have e10 : a.tmps.getD 10 undef = .int .i64 0 := sb h 10 (by kernel_rfl) (by kernel_rfl) rfl
    exact .val (wantg rfl (by kernel_rfl) eg) rfl (by simp [Act.eval, e10, go_sem]) (Keeps.is rfl)
  · intro a w' hb h
    have eg := (sw h 76 (by kernel_rfl) (by kernel_rfl)).eq
    have e77 := (sw h 77 (by kernel_rfl) (by kernel_rfl)).eq
    exact .val (wantg rfl (by kernel_rfl) eg) rfl (by simp [Act.eval, e77, go_sem]) (Keeps.is rfl)
  · intro a w' hb h
    have e76 := (sw h 76 (by kernel_rfl) (by kernel_rfl)).eq
    have e78 := (sw h 78 (by kernel_rfl) (by kernel_rfl)).eq
    exact .val (want0 rfl) rfl (by simp [Act.eval, e76, e78, go_sem]) (Keeps.is rfl)
  · intro a w' hb h
    have e79 := (sw h 79 (by kernel_rfl) (by kernel_rfl)).eq
    exact .val (want0 rfl) rfl (by simp [Act.eval, e79, go_sem]) (Keeps.is rfl)
  · intro a w' hb h
    have eg := (sw h 80 (by kernel_rfl) (by kernel_rfl)).eq
    have e5 : a.tmps.getD 5 undef = .slice A1 256 c1 := sb h 5 (by kernel_rfl) (by kernel_rfl) rfl
    exact .val (wantg rfl (by kernel_rfl) eg) rfl (by simp [Act.eval, e5, go_sem]) (Keeps.is rfl)
  · intro a w' hb h
    have eg := (sw h 80 (by kernel_rfl) (by kernel_rfl)).eq
    have e81 := (sw h 81 (by kernel_rfl) (by kernel_rfl)).eq
    exact .called (wantg rfl (by kernel_rfl) eg) rfl (by simp [Act.eval, e81, go_sem]) (belowF (Fc.out A1 c1 w6.heap.size w' (HL6.out.below hb) hb.size HC.out))
  · intro a w' hb h
    have eg := (sw h 80 (by kernel_rfl) (by kernel_rfl)).eq
    have e82 := (sw h 82 (by kernel_rfl) (by kernel_rfl)).eq
    exact .val (wantg rfl (by kernel_rfl) eg) rfl (by simp [Act.eval, e82, go_sem]) (Keeps.is rfl)
  · intro a w' hb h
    have e80 := (sw h 80 (by kernel_rfl) (by kernel_rfl)).eq
    have e83 := (sw h 83 (by kernel_rfl) (by kernel_rfl)).eq
    exact .val (want0 rfl) rfl (by simp [Act.eval, e80, e83, go_sem]) (Keeps.is rfl)
  · intro a w' hb h
    have e84 := (sw h 84 (by kernel_rfl) (by kernel_rfl)).eq
    exact .val (want0 rfl) rfl (by simp [Act.eval, e84, go_sem]) (Keeps.is rfl)
  · intro a' w' hdf hsz hbl hwr hkp
    have f53 : a'.tmps.getD 53 undef = .bool true := (show Keeps (is (.bool true)) _ _ from hwr 53 (by kernel_rfl)).eq
    have f54 : a'.tmps.getD 54 undef = .bool true := (show Keeps (is (.bool true)) _ _ from hwr 54 (by kernel_rfl)).eq
    have f55 : a'.tmps.getD 55 undef = .int .i64 0 := (show Keeps (is (.int .i64 0)) _ _ from hwr 55 (by kernel_rfl)).eq
    have f56 : a'.tmps.getD 56 undef = .bool true := (show Keeps (is (.bool true)) _ _ from hwr 56 (by kernel_rfl)).eq
    have f57 : a'.tmps.getD 57 undef = .bool true := (show Keeps (is (.bool true)) _ _ from hwr 57 (by kernel_rfl)).eq
    have f58 : a'.tmps.getD 58 undef = .bool true := (show Keeps (is (.bool true)) _ _ from hwr 58 (by kernel_rfl)).eq
    have f59 : a'.tmps.getD 59 undef = .slice A1 256 c1 := (show Keeps (is (.slice A1 256 c1)) _ _ from hwr 59 (by kernel_rfl)).eq
    have f60 : a'.tmps.getD 60 undef = .string (str s) := (show Keeps (is (.string (str s))) _ _ from hwr 60 (by kernel_rfl)).eq
    have f61 : a'.tmps.getD 61 undef = .agg #[.int .i64 kd, .int .i64 ix, .int .i64 ct, .int .u64 (bt : Int), .int .u64 (op : Int), .int .i64 lp, .int .i64 (n : Int)] := (show Keeps (is (.agg #[.int .i64 kd, .int .i64 ix, .int .i64 ct, .int .u64 (bt : Int), .int .u64 (op : Int), .int .i64 lp, .int .i64 (n : Int)])) _ _ from hwr 61 (by kernel_rfl)).eq
    have f62 : a'.tmps.getD 62 undef = .string (str d) := (show Keeps (is (.string (str d))) _ _ from hwr 62 (by kernel_rfl)).eq
    have f63 : a'.tmps.getD 63 undef = .string (str s) := (show Keeps (is (.string (str s))) _ _ from hwr 63 (by kernel_rfl)).eq
    have f64 : a'.tmps.getD 64 undef = .bool true := (show Keeps (is (.bool true)) _ _ from hwr 64 (by kernel_rfl)).eq
    have f65 : a'.tmps.getD 65 undef = .bool true := (show Keeps (is (.bool true)) _ _ from hwr 65 (by kernel_rfl)).eq
    have f66 : a'.tmps.getD 66 undef = .bool true := (show Keeps (is (.bool true)) _ _ from hwr 66 (by kernel_rfl)).eq
    have f67 : a'.tmps.getD 67 undef = .agg #[.int .i64 kd, .int .i64 ix, .int .i64 ct, .int .u64 (bt : Int), .int .u64 (op : Int), .int .i64 lp, .int .i64 (n : Int)] := (show Keeps (is (.agg #[.int .i64 kd, .int .i64 ix, .int .i64 ct, .int .u64 (bt : Int), .int .u64 (op : Int), .int .i64 lp, .int .i64 (n : Int)])) _ _ from hwr 67 (by kernel_rfl)).eq
    have f68 : a'.tmps.getD 68 undef = .agg #[.int .i64 kd, .int .i64 ix, .int .i64 ct, .int .u64 (bt : Int), .int .u64 (op : Int), .int .i64 lp, .int .i64 (n : Int)] := (show Keeps (is (.agg #[.int .i64 kd, .int .i64 ix, .int .i64 ct, .int .u64 (bt : Int), .int .u64 (op : Int), .int .i64 lp, .int .i64 (n : Int)])) _ _ from hwr 68 (by kernel_rfl)).eq
    have f69 : a'.tmps.getD 69 undef = .bool true := (show Keeps (is (.bool true)) _ _ from hwr 69 (by kernel_rfl)).eq
    have f70 : a'.tmps.getD 70 undef = .bool true := (show Keeps (is (.bool true)) _ _ from hwr 70 (by kernel_rfl)).eq
    have f71 : a'.tmps.getD 71 undef = .bool true := (show Keeps (is (.bool true)) _ _ from hwr 71 (by kernel_rfl)).eq
    have f72 : a'.tmps.getD 72 undef = .string (str d) := (show Keeps (is (.string (str d))) _ _ from hwr 72 (by kernel_rfl)).eq
    have f73 : a'.tmps.getD 73 undef = .string (str d) := (show Keeps (is (.string (str d))) _ _ from hwr 73 (by kernel_rfl)).eq
    have f74 : a'.tmps.getD 74 undef = .bool true := (show Keeps (is (.bool true)) _ _ from hwr 74 (by kernel_rfl)).eq
    have f75 : a'.tmps.getD 75 undef = .bool true := (show Keeps (is (.bool true)) _ _ from hwr 75 (by kernel_rfl)).eq
    have f76 : a'.tmps.getD 76 undef = .bool true := (show Keeps (is (.bool true)) _ _ from hwr 76 (by kernel_rfl)).eq
    have f77 : a'.tmps.getD 77 undef = .int .i64 0 := (show Keeps (is (.int .i64 0)) _ _ from hwr 77 (by kernel_rfl)).eq
    have f78 : a'.tmps.getD 78 undef = .bool true := (show Keeps (is (.bool true)) _ _ from hwr 78 (by kernel_rfl)).eq
    have f79 : a'.tmps.getD 79 undef = .bool true := (show Keeps (is (.bool true)) _ _ from hwr 79 (by kernel_rfl)).eq
    have f80 : a'.tmps.getD 80 undef = .bool true := (show Keeps (is (.bool true)) _ _ from hwr 80 (by kernel_rfl)).eq
    have f81 : a'.tmps.getD 81 undef = .slice A1 256 c1 := (show Keeps (is (.slice A1 256 c1)) _ _ from hwr 81 (by kernel_rfl)).eq
    have f82 : a'.tmps.getD 82 undef = .int .i64 1 := (show Keeps (is (.int .i64 1)) _ _ from hwr 82 (by kernel_rfl)).eq
    have f83 : a'.tmps.getD 83 undef = .bool true := (show Keeps (is (.bool true)) _ _ from hwr 83 (by kernel_rfl)).eq
    have f84 : a'.tmps.getD 84 undef = .bool true := (show Keeps (is (.bool true)) _ _ from hwr 84 (by kernel_rfl)).eq
    have f4 : a'.tmps.getD 4 undef = .bool true := (show Keeps (is (.bool true)) _ _ from hwr 4 (by kernel_rfl)).eq
    have hfr := Flo2.frame_eq [(53, .bool true), (54, .bool true), (55, .int .i64 0), (56, .bool true), (57, .bool true), (58, .bool true), (59, .slice A1 256 c1), (60, .string (str s)), (61, .agg #[.int .i64 kd, .int .i64 ix, .int .i64 ct, .int .u64 (bt : Int), .int .u64 (op : Int), .int .i64 lp, .int .i64 (n : Int)]), (62, .string (str d)), (63, .string (str s)), (64, .bool true), (65, .bool true), (66, .bool true), (67, .agg #[.int .i64 kd, .int .i64 ix, .int .i64 ct, .int .u64 (bt : Int), .int .u64 (op : Int), .int .i64 lp, .int .i64 (n : Int)]), (68, .agg #[.int .i64 kd, .int .i64 ix, .int .i64 ct, .int .u64 (bt : Int), .int .u64 (op : Int), .int .i64 lp, .int .i64 (n : Int)]), (69, .bool true), (70, .bool true), (71, .bool true), (72, .string (str d)), (73, .string (str d)), (74, .bool true), (75, .bool true), (76, .bool true), (77, .int .i64 0), (78, .bool true), (79, .bool true), (80, .bool true), (81, .slice A1 256 c1), (82, .int .i64 1), (83, .bool true), (84, .bool true), (4, .bool true)] a'.tmps _ hsz (by
      intro x hx
      simp only [List.mem_cons, List.not_mem_nil, or_false] at hx
      rcases hx with h | h | h | h | h | h | h | h | h | h | h | h | h | h | h | h | h | h | h | h | h | h | h | h | h | h | h | h | h | h | h | h | h <;> subst h
      · exact f53
      · exact f54
      · exact f55
      · exact f56
      · exact f57
      · exact f58
      · exact f59
      · exact f60
      · exact f61
      · exact f62
      · exact f63
      · exact f64
      · exact f65
      · exact f66
      · exact f67
      · exact f68
      · exact f69
      · exact f70
      · exact f71
      · exact f72
      · exact f73
      · exact f74
      · exact f75
      · exact f76
      · exact f77
      · exact f78
      · exact f79
      · exact f80
      · exact f81
      · exact f82
      · exact f83
      · exact f84
      · exact f4) (fun t ht => hkp t (Flo3.writes_not _ _ (by kernel_rfl) ht))
    have ha := Flo3.act_ext hfr hdf
    clear hfr hwr hkp hsz hdf f53 f54 f55 f56 f57 f58 f59 f60 f61 f62 f63 f64 f65 f66 f67 f68 f69 f70 f71 f72 f73 f74 f75 f76 f77 f78 f79 f80 f81 f82 f83 f84 f4
    subst ha
    simp only [Flo2.puts, List.foldl_cons, List.foldl_nil, List.setIfInBounds_toArray, List.set, Exit.then]
    have HBz := hide (HB6.out.trans (hbl.mono HB6.out.size))
    clear hbl HB6
    go_wp2
    go_ret
    exact ⟨rfl, HBz.out⟩
end Go.Proofs.Ytppecnimpnlipaa
