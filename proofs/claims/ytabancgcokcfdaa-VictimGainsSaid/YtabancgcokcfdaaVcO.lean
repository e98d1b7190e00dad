/-
  LAYER 22, SORTING BY A FUNCTION THAT KEEPS WHAT IT TOLD, walks: order2CmpFunc, medianCmpFunc, choosePivotCmpFunc (whichever of the three it is).
-/
import Derived.Test.YtabancgcokcfdaaVcS
import Derived.Deep.RegionLaw
import Derived.StillTailTactics
namespace Go.Proofs.Ytabancgcokcfdaa
open Go.RowKit
set_option maxRecDepth 8000
namespace Vc
section
variable {L : List Pl2} {S : List Int} {q base g c N : Nat} {W0 : World} {D : Array Int}
/-- The row, and beside it a counter of the call's own. -/
structure Vs (L : List Pl2) (S : List Int) (q base g c N : Nat) (W0 : World) (D : Array Int) (k s : Nat) (W : World) : Prop where
  row : Vd L S q base g c N W0 D W
  at_ : W.cell? ⟨k, 0, none⟩ = some (.int .i64 (s : Int))
  froz : W.frozen? ⟨k, 0, none⟩ = false
  new : W0.heap.size ≤ k
  ne : k ≠ g
  lt : k < W.heap.size
theorem Vs.drew {k s : Nat} {W : World} (h : Vs L S q base g c N W0 D k s W) : Vs L S q base g c N W0 D k s W.drew := ⟨h.row.drew, h.at_, h.froz, h.new, h.ne, h.lt⟩
theorem Vs.bump {k s : Nat} {W : World} (h : Vs L S q base g c N W0 D k s W) (t : Nat) : Vs L S q base g c N W0 D k t (W.setCell ⟨k, 0, none⟩ (.int .i64 (t : Int))) := by
  have hb : W.grownBy (W.setCell ⟨k, 0, none⟩ (.int .i64 (t : Int))) (some k) := grown_setV W ⟨k, 0, none⟩ _
  exact ⟨h.row.grown hb (fun j e => by injection e with e; rw [← e]; exact h.new) (fun e => h.ne (by injection e)), World.cell?_setCell_same' _ _ _ (by rw [h.at_]; rfl), by rw [World.frozen?_setCell]; exact h.froz, h.new, h.ne, Nat.lt_of_lt_of_le h.lt hb.size⟩
theorem frozen_of_block {W W' : World} {a : Addr} (h : W'.heap[a.block]? = W.heap[a.block]?) : W'.frozen? a = W.frozen? a := by
  unfold World.frozen?
  rw [h]
theorem Vs.cmp {k s : Nat} {W : World} (h : Vs L S q base g c N W0 D k s W) {x y : Int} (hx : x ∈ S) (hy : y ∈ S) :
    Calls Try.prog 23 #[.int .i64 x, .int .i64 y, .pointer (some ⟨q + 3, 0, none⟩)] W fun e w' => e = .returned (.int .i64 (cfV L x y)) ∧ Vs L S q base g c N W0 D k s w' ∧ W.grownBy w' (some (q + 1)) := by
  refine (h.row.cmp hx hy).mono ?_
  rintro e w' ⟨rfl, hv, hg⟩
  have hb : w'.heap[k]? = W.heap[k]? := hg.block k h.lt (fun e => by injection e with e; have := h.new; have := h.row.hi; omega)
  exact ⟨rfl, ⟨hv, (World.cell?_of_block (a := ⟨k, 0, none⟩) hb).trans h.at_, (frozen_of_block (a := ⟨k, 0, none⟩) hb).trans h.froz, h.new, h.ne, Nat.lt_of_lt_of_le h.lt hg.size⟩, hg⟩
set_option maxHeartbeats 2000000 in
theorem order2_cmp (i j k s : Nat) (w : World) (hs : Vs L S q base g c N W0 D k s w) (hi : i < N) (hj : j < N) (hs1 : s ≤ 100) :
    Calls Try.prog 48 #[.slice (some ⟨g, 0, none⟩) N c, .int .i64 (i : Int), .int .i64 (j : Int), .pointer (some ⟨k, 0, none⟩), .func (.func 23) #[] #[.pointer (some ⟨q + 3, 0, none⟩)]] w fun e w' => ∃ x y s' : Nat, (x = i ∧ y = j ∨ x = j ∧ y = i) ∧ e = .returned (.tuple #[.int .i64 (x : Int), .int .i64 (y : Int)]) ∧ s' ≤ s + 1 ∧ Vs L S q base g c N W0 D k s' w' := by
  have eg := egV
  have FC := hide (hs.drew.cmp (hs.row.mem j hj) (hs.row.mem i hi))
  have c1 := Vd.at hs.row.drew hj
  have c0 := Vd.at hs.row.drew hi
  have b1 : (i : Int) < (N : Int) := by omega
  have b0 : (j : Int) < (N : Int) := by omega
  have e1 : wrap64 ((s : Int) + 1) = ((s + 1 : Nat) : Int) := by unfold wrap64; omega
  generalize D[j]! = x at *
  generalize D[i]! = y at *
  generalize cfV L x y = z at *
  have Hs := hide hs
  clear hs
  by_cases hz : z < 0
  · have gz : decide (z < 0) = true := decide_eq_true hz
    clear hz
    go_enter Try.func48, Try.ntmps48
    go_wp2
    go_still_tail 9, (by kernel_rfl)
    change wpList _ _ _ _ _ w.drew
    generalize w.drew = wd at *
    go_wp2_with (first | (go_at_fn 23; refine FC.out.mono ?_; rintro e w4 ⟨rfl, hv, hg⟩; have a0 := hv.at_; have f0 := hv.froz; have H4 := hide hv; clear hv hg FC))
    have H5 := hide (H4.out.bump (s + 1))
    go_wp2
    refine bodyPost_ret (results_tmp2 rfl _ _ _) rfl ?_
    refine ⟨j, i, s + 1, .inr ⟨rfl, rfl⟩, rfl, Nat.le_refl _, ?_⟩
    first | exact H5.out | (rw [e1]; exact H5.out)
  · have gz : decide (z < 0) = false := decide_eq_false hz
    clear hz
    go_enter Try.func48, Try.ntmps48
    go_wp2
    go_still_tail 9, (by kernel_rfl)
    change wpList _ _ _ _ _ w.drew
    generalize w.drew = wd at *
    go_wp2_with (first | (go_at_fn 23; refine FC.out.mono ?_; rintro e w4 ⟨rfl, hv, hg⟩; have H4 := hide hv; clear hv hg FC))
    go_wp2
    refine bodyPost_ret (results_tmp2 rfl _ _ _) rfl ?_
    exact ⟨i, j, s, .inl ⟨rfl, rfl⟩, rfl, Nat.le_succ _, H4.out⟩
set_option maxHeartbeats 2000000 in
theorem median_cmp (i j m k s : Nat) (w : World) (hs : Vs L S q base g c N W0 D k s w) (hi : i < N) (hj : j < N) (hm : m < N) (hs1 : s ≤ 90) :
    Calls Try.prog 47 #[.slice (some ⟨g, 0, none⟩) N c, .int .i64 (i : Int), .int .i64 (j : Int), .int .i64 (m : Int), .pointer (some ⟨k, 0, none⟩), .func (.func 23) #[] #[.pointer (some ⟨q + 3, 0, none⟩)]] w fun e w' => ∃ r s' : Nat, (r = i ∨ r = j ∨ r = m) ∧ e = .returned (.int .i64 (r : Int)) ∧ s' ≤ s + 3 ∧ Vs L S q base g c N W0 D k s' w' := by
  have F := hide (fun x y s (h1 : x < N) (h2 : y < N) (h3 : s ≤ 100) W h => order2_cmp (L := L) (S := S) (q := q) (base := base) (g := g) (c := c) (W0 := W0) (D := D) x y k s W h h1 h2 h3)
  have Hs := hide hs
  have Hi := hide hi
  have Hj := hide hj
  have Hm := hide hm
  have H1 := hide hs1
  clear hs hi hj hm hs1
  go_enter Try.func47, Try.ntmps47
  go_wp2_with fail
  (with_reducible refine (F.out i j s Hi.out Hj.out (Nat.le_trans H1.out (by decide)) _ Hs.out).mono ?_)
  rintro e w1 ⟨x, y, s1, hxy, rfl, hs1, h1⟩
  have Hxy := hide hxy
  have Hs1 := hide hs1
  have HT1 := hide h1
  have hx : x < N := by have := Hi.out; have := Hj.out; omega
  have hy : y < N := by have := Hi.out; have := Hj.out; omega
  have Hx := hide hx
  have Hy := hide hy
  clear hxy hs1 h1 hx hy Hs
  go_wp2_with fail
  (with_reducible refine (F.out y m s1 Hy.out Hm.out (by have := Hs1.out; have := H1.out; omega) _ HT1.out).mono ?_)
  rintro e w1 ⟨y2, z, s2, hyz, rfl, hs2, h2⟩
  have Hyz := hide hyz
  have Hs2 := hide hs2
  have HT2 := hide h2
  have Hy2 := hide (show y2 < N by have := Hy.out; have := Hm.out; omega)
  clear hyz hs2 h2 HT1
  go_wp2_with fail
  (with_reducible refine (F.out x y2 s2 Hx.out Hy2.out (by have := Hs1.out; have := Hs2.out; have := H1.out; omega) _ HT2.out).mono ?_)
  rintro e w1 ⟨x3, y3, s3, hxy3, rfl, hs3, h3⟩
  have Hr := hide (show y3 = i ∨ y3 = j ∨ y3 = m by have := Hxy.out; have := Hyz.out; omega)
  have Hb := hide (show s3 ≤ s + 3 by have := Hs1.out; have := Hs2.out; omega)
  have HT3 := hide h3
  clear hxy3 hs3 h3 HT2
  go_wp2
  go_ret
  exact ⟨y3, s3, Hr.out, rfl, Hb.out, HT3.out⟩
set_option maxHeartbeats 4000000 in
theorem pivot_cmp (a b s : Nat) (w : World) (hs : Vd L S q base g c N W0 D w) (h1 : 12 < b - a) (h2 : b - a < 50) (hb : b ≤ N) (hN : N ≤ 1000) (hS : (b - a) / 4 = s) (hW : W0.heap.size ≤ w.heap.size) (hg : g < w.heap.size) :
    Calls Try.prog 36 #[.slice (some ⟨g, 0, none⟩) N c, .int .i64 (a : Int), .int .i64 (b : Int), .func (.func 23) #[] #[.pointer (some ⟨q + 3, 0, none⟩)]] w fun e w' => ∃ (p : Nat) (h : Int), (p = a + s ∨ p = a + s * 2 ∨ p = a + s * 3) ∧ (h = 0 ∨ h = 1) ∧ e = .returned (.tuple #[.int .i64 (p : Int), .int .i64 h]) ∧ Vd L S q base g c N W0 D w' := by
  obtain ⟨LZ, hL⟩ : ∃ LZ, b - a = LZ := ⟨_, rfl⟩
  rw [hL] at hS
  obtain ⟨i, hi⟩ : ∃ i, a + s = i := ⟨_, rfl⟩
  obtain ⟨j, hj⟩ : ∃ j, a + s * 2 = j := ⟨_, rfl⟩
  obtain ⟨k, hk⟩ : ∃ k, a + s * 3 = k := ⟨_, rfl⟩
  rw [hi, hj, hk]
  have q1 : a ≤ 1000 ∧ b ≤ 1000 ∧ LZ < 50 ∧ 12 < LZ ∧ s ≤ 12 ∧ 3 ≤ s ∧ s * 4 ≤ LZ ∧ a + LZ = b := by omega
  obtain ⟨q1, q2, q3, q4, q5, q6, q7, q8⟩ := q1
  have E2 : Hid ((LZ : Int).tdiv 4 = (s : Int)) := hide (by rw [← hS]; exact (Int.ofNat_tdiv LZ 4).symm)
  clear h1 h2 hL hS
  obtain ⟨s2, hs2⟩ : ∃ z, s * 2 = z := ⟨_, rfl⟩
  obtain ⟨s3, hs3⟩ : ∃ z, s * 3 = z := ⟨_, rfl⟩
  rw [hs2] at hj
  rw [hs3] at hk
  have r1 : (b : Int) - (a : Int) = (LZ : Int) := by omega
  have r4 : (a : Int) + (s : Int) = (i : Int) := by omega
  have r5 : (s : Int) * 2 = (s2 : Int) := by omega
  have r6 : (s : Int) * 3 = (s3 : Int) := by omega
  have r7 : (a : Int) + (s2 : Int) = (j : Int) := by omega
  have r8 : (a : Int) + (s3 : Int) = (k : Int) := by omega
  have q9 : i ≤ 1000 := by omega
  have q10 : j ≤ 1000 := by omega
  have q11 : k ≤ 1000 := by omega
  have q12 : s2 ≤ 1000 := by omega
  have q13 : s3 ≤ 1000 := by omega
  have l8 : decide ((8 : Int) ≤ (LZ : Int)) = true := decide_eq_true (by omega)
  have l50 : decide ((50 : Int) ≤ (LZ : Int)) = false := decide_eq_false (by omega)
  have b1 : i < N := by omega
  have b2 : j < N := by omega
  have b3 : k < N := by omega
  have HL : Hid (8 ≤ LZ ∧ LZ < 50) := hide (by omega)
  have e1 : wrap64 ((b : Int) - (a : Int)) = (LZ : Int) := by rw [r1]; exact w6n (Nat.le_trans (Nat.le_of_lt q3) (by decide))
  have e3 : wrap64 (s : Int) = (s : Int) := w6n (Nat.le_trans q5 (by decide))
  have e4 : wrap64 ((a : Int) + (s : Int)) = (i : Int) := by rw [r4]; exact w6n q9
  have e5 : wrap64 ((s : Int) * 2) = (s2 : Int) := by rw [r5]; exact w6n q12
  have e6 : wrap64 ((s : Int) * 3) = (s3 : Int) := by rw [r6]; exact w6n q13
  have e7 : wrap64 ((a : Int) + (s2 : Int)) = (j : Int) := by rw [r7]; exact w6n q10
  have e8 : wrap64 ((a : Int) + (s3 : Int)) = (k : Int) := by rw [r8]; exact w6n q11
  have e2 := E2.out
  have e2' : wrap64 (((LZ : Int)).tdiv 4) = (s : Int) := by rw [e2]; exact e3
  have FM := hide (fun W (h : Vs L S q base g c N W0 D w.heap.size 0 W) => median_cmp i j k w.heap.size 0 W h b1 b2 b3 (by decide))
  have Hs : Hid (Vs L S q base g c N W0 D w.heap.size 0 (w.alloc (.cells #[.int .i64 0] 3))) := hide ⟨hs.alloc _, by simp, by simp, hW, by omega, by simp⟩
  clear b1 b2 b3 hs hb hN hi hj hk hs2 hs3 q1 q2 q3 q4 q5 q6 q7 q8 q9 q10 q11 q12 q13 r1 r4 r5 r6 r7 r8 hW hg
  go_enter Try.func36, Try.ntmps36
  go_wp2_with fail
  (with_reducible refine (FM.out _ Hs.out).mono ?_)
  rintro e w1 ⟨r, s', hr, rfl, hs', h⟩
  have Hr := hide hr
  have HT := hide h.row
  have a0 := h.at_
  have Hn := hide (show ¬ s' = 12 by omega)
  have n12 : ((s' : Int) == 12) = false := beq_eq_false_iff_ne.2 (by omega)
  clear Hs FM hr hs' h
  by_cases h0 : s' = 0
  · subst h0
    go_wp2
    refine bodyPost_ret (results_tmp2 rfl _ _ _) rfl ?_
    exact ⟨r, 1, Hr.out, .inr rfl, rfl, HT.out⟩
  · have n0 : ((s' : Int) == 0) = false := beq_eq_false_iff_ne.2 (by omega)
    clear h0
    go_wp2
    refine bodyPost_ret (results_tmp2 rfl _ _ _) rfl ?_
    exact ⟨r, 0, Hr.out, .inl rfl, rfl, HT.out⟩
end
end Vc
end Go.Proofs.Ytabancgcokcfdaa
