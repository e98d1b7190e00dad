/-
  SORTING at uint64, walks: order2Ordered, medianOrdered, choosePivotOrdered (whichever of the three it is).
-/
import Derived.Test.YtjdaoenapmjoeaaSuA
import Derived.Test.YtjdaoenapmjoeaaSoU2
namespace Go.Proofs.Ytjdaoenapmjoeaa
open Go.RowKit
set_option maxRecDepth 8000
namespace So
section
variable {base g c N : Nat} {W0 : World} {D : Array Int}
theorem grown_setU (W : World) (p : Addr) (u : Value) : W.grownBy (W.setCell p u) (some p.block) :=
  ⟨rfl, rfl, rfl, by simp [World.setCell], fun k _ hne => Below.heap_setCell _ _ _ _ (fun e => hne (by rw [e]))⟩
/-- The row, and beside it a counter of the call's own. -/
structure Sc (base g c N : Nat) (W0 : World) (D : Array Int) (k s : Nat) (W : World) : Prop where
  row : Sa base g c N W0 D W
  at_ : W.cell? ⟨k, 0, none⟩ = some (.int .i64 (s : Int))
  froz : W.frozen? ⟨k, 0, none⟩ = false
  new : W0.heap.size ≤ k
  ne : k ≠ g
theorem Sc.drewN {k s : Nat} {W : World} (h : Sc base g c N W0 D k s W) (q : Nat) : Sc base g c N W0 D k s (W.drewN q) := ⟨Sa.drewN h.row q, h.at_, h.froz, h.new, h.ne⟩
theorem Sc.bump {k s : Nat} {W : World} (h : Sc base g c N W0 D k s W) (t : Nat) : Sc base g c N W0 D k t (W.setCell ⟨k, 0, none⟩ (.int .i64 (t : Int))) := by
  have hb : W.grownBy (W.setCell ⟨k, 0, none⟩ (.int .i64 (t : Int))) (some k) := grown_setU W ⟨k, 0, none⟩ _
  refine ⟨⟨h.row.1.kept hb (.inr (fun e => h.ne (by injection e with e; exact e.symm))), ?_⟩, World.cell?_setCell_same' _ _ _ (by rw [h.at_]; rfl), by rw [World.frozen?_setCell]; exact h.froz, h.new, h.ne⟩
  have h2 := h.row.2
  exact ⟨hb.os.trans h2.os, hb.tape.trans h2.tape, hb.output.trans h2.output, Nat.le_trans h2.size hb.size, fun j hj hne => (hb.block j (Nat.lt_of_lt_of_le hj h2.size) (fun e => by injection e with e; have := h.new; omega)).trans (h2.block j hj hne)⟩
set_option maxHeartbeats 2000000 in
theorem order2_u64 (i j k s : Nat) (w : World) (hs : Sc base g c N W0 D k s w) (hi : i < N) (hj : j < N) (hs1 : s ≤ 100) :
    Calls Try.prog 74 #[.slice (some ⟨g, 0, none⟩) N c, .int .i64 (i : Int), .int .i64 (j : Int), .pointer (some ⟨k, 0, none⟩)] w fun e w' => ∃ x y s' : Nat, (x = i ∧ y = j ∨ x = j ∧ y = i) ∧ e = .returned (.tuple #[.int .i64 (x : Int), .int .i64 (y : Int)]) ∧ s' ≤ s + 1 ∧ Sc base g c N W0 D k s' w' := by
  have L1 := less_u64 D[j]! D[i]!
  have c1 := Sa.at hs.row hj
  have c0 := Sa.at hs.row hi
  have b1 : (i : Int) < (N : Int) := by omega
  have b0 : (j : Int) < (N : Int) := by omega
  have e1 : wrap64 ((s : Int) + 1) = ((s + 1 : Nat) : Int) := by unfold wrap64; omega
  generalize D[j]! = x at *
  generalize D[i]! = y at *
  have Hs := hide hs
  clear hs
  by_cases hl : x < y
  · rw [decide_eq_true hl] at L1
    go_enter Try.func74, Try.ntmps74
    go_wp2
    go_quiet (first | (go_at_call 51; (with_reducible refine (L1 _).mono ?_); rintro e w' ⟨rfl, rfl⟩; exact ⟨rfl, _, rfl⟩))
    have Hs2 := hide (Hs.out.drewN nq)
    have a0 := Hs2.out.at_
    have f0 := Hs2.out.froz
    have Hs3 := hide (Hs2.out.bump (s + 1))
    go_wp2
    refine bodyPost_ret (results_tmp2 rfl _ _ _) rfl ?_
    refine ⟨j, i, s + 1, .inr ⟨rfl, rfl⟩, rfl, Nat.le_refl _, ?_⟩
    first | exact Hs3.out | (rw [e1]; exact Hs3.out)
  · rw [decide_eq_false hl] at L1
    go_enter Try.func74, Try.ntmps74
    go_wp2
    go_quiet (first | (go_at_call 51; (with_reducible refine (L1 _).mono ?_); rintro e w' ⟨rfl, rfl⟩; exact ⟨rfl, _, rfl⟩))
    go_wp2
    refine bodyPost_ret (results_tmp2 rfl _ _ _) rfl ?_
    exact ⟨i, j, s, .inl ⟨rfl, rfl⟩, rfl, Nat.le_succ _, Hs.out.drewN _⟩
set_option maxHeartbeats 2000000 in
theorem median_u64 (i j m k s : Nat) (w : World) (hs : Sc base g c N W0 D k s w) (hi : i < N) (hj : j < N) (hm : m < N) (hs1 : s ≤ 90) :
    Calls Try.prog 71 #[.slice (some ⟨g, 0, none⟩) N c, .int .i64 (i : Int), .int .i64 (j : Int), .int .i64 (m : Int), .pointer (some ⟨k, 0, none⟩)] w fun e w' => ∃ r s' : Nat, (r = i ∨ r = j ∨ r = m) ∧ e = .returned (.int .i64 (r : Int)) ∧ s' ≤ s + 3 ∧ Sc base g c N W0 D k s' w' := by
  have F := hide (fun x y s (h1 : x < N) (h2 : y < N) (h3 : s ≤ 100) W h => order2_u64 (base := base) (g := g) (c := c) (W0 := W0) (D := D) x y k s W h h1 h2 h3)
  have Hs := hide hs
  have Hi := hide hi
  have Hj := hide hj
  have Hm := hide hm
  have H1 := hide hs1
  clear hs hi hj hm hs1
  go_enter Try.func71, Try.ntmps71
  go_wp2_with fail
  (with_reducible refine (F.out i j s Hi.out Hj.out (Nat.le_trans H1.out (by decide)) _ Hs.out).mono ?_)
  rintro e w1 ⟨x, y, s1, hxy, rfl, hs1, h1⟩
  have Hxy := hide hxy
  have Hs1 := hide hs1
  have HT1 := hide h1
  have hx : x < N := by have := Hi.out; have := Hj.out; omega
  have hy : y < N := by have := Hi.out; have := Hj.out; omega
  have Hx := hide hx
  have Hy := hide hy
  clear hxy hs1 h1 hx hy Hs
  go_wp2_with fail
  (with_reducible refine (F.out y m s1 Hy.out Hm.out (by have := Hs1.out; have := H1.out; omega) _ HT1.out).mono ?_)
  rintro e w1 ⟨y2, z, s2, hyz, rfl, hs2, h2⟩
  have Hyz := hide hyz
  have Hs2 := hide hs2
  have HT2 := hide h2
  have Hy2 := hide (show y2 < N by have := Hy.out; have := Hm.out; omega)
  clear hyz hs2 h2 HT1
  go_wp2_with fail
  (with_reducible refine (F.out x y2 s2 Hx.out Hy2.out (by have := Hs1.out; have := Hs2.out; have := H1.out; omega) _ HT2.out).mono ?_)
  rintro e w1 ⟨x3, y3, s3, hxy3, rfl, hs3, h3⟩
  have Hr := hide (show y3 = i ∨ y3 = j ∨ y3 = m by have := Hxy.out; have := Hyz.out; omega)
  have Hb := hide (show s3 ≤ s + 3 by have := Hs1.out; have := Hs2.out; omega)
  have HT3 := hide h3
  clear hxy3 hs3 h3 HT2
  go_wp2
  go_ret
  exact ⟨y3, s3, Hr.out, rfl, Hb.out, HT3.out⟩
set_option maxHeartbeats 4000000 in
theorem pivot_u64 (a b s : Nat) (w : World) (hs : Sa base g c N W0 D w) (h1 : 12 < b - a) (h2 : b - a < 50) (hb : b ≤ N) (hN : N ≤ 1000) (hS : (b - a) / 4 = s) (hW : W0.heap.size ≤ w.heap.size) (hg : g < w.heap.size) :
    Calls Try.prog 56 #[.slice (some ⟨g, 0, none⟩) N c, .int .i64 (a : Int), .int .i64 (b : Int)] w fun e w' => ∃ (p : Nat) (h : Int), (p = a + s ∨ p = a + s * 2 ∨ p = a + s * 3) ∧ (h = 0 ∨ h = 1) ∧ e = .returned (.tuple #[.int .i64 (p : Int), .int .i64 h]) ∧ Sa base g c N W0 D w' := by
  obtain ⟨L, hL⟩ : ∃ L, b - a = L := ⟨_, rfl⟩
  rw [hL] at hS
  obtain ⟨i, hi⟩ : ∃ i, a + s = i := ⟨_, rfl⟩
  obtain ⟨j, hj⟩ : ∃ j, a + s * 2 = j := ⟨_, rfl⟩
  obtain ⟨k, hk⟩ : ∃ k, a + s * 3 = k := ⟨_, rfl⟩
  rw [hi, hj, hk]
  have q1 : a ≤ 1000 ∧ b ≤ 1000 ∧ L < 50 ∧ 12 < L ∧ s ≤ 12 ∧ 3 ≤ s ∧ s * 4 ≤ L ∧ a + L = b := by omega
  obtain ⟨q1, q2, q3, q4, q5, q6, q7, q8⟩ := q1
  have E2 : Hid ((L : Int).tdiv 4 = (s : Int)) := hide (by rw [← hS]; exact (Int.ofNat_tdiv L 4).symm)
  clear h1 h2 hL hS
  obtain ⟨s2, hs2⟩ : ∃ z, s * 2 = z := ⟨_, rfl⟩
  obtain ⟨s3, hs3⟩ : ∃ z, s * 3 = z := ⟨_, rfl⟩
  rw [hs2] at hj
  rw [hs3] at hk
  have r1 : (b : Int) - (a : Int) = (L : Int) := by omega
  have r4 : (a : Int) + (s : Int) = (i : Int) := by omega
  have r5 : (s : Int) * 2 = (s2 : Int) := by omega
  have r6 : (s : Int) * 3 = (s3 : Int) := by omega
  have r7 : (a : Int) + (s2 : Int) = (j : Int) := by omega
  have r8 : (a : Int) + (s3 : Int) = (k : Int) := by omega
  have q9 : i ≤ 1000 := by omega
  have q10 : j ≤ 1000 := by omega
  have q11 : k ≤ 1000 := by omega
  have q12 : s2 ≤ 1000 := by omega
  have q13 : s3 ≤ 1000 := by omega
  have l8 : decide ((8 : Int) ≤ (L : Int)) = true := decide_eq_true (by omega)
  have l50 : decide ((50 : Int) ≤ (L : Int)) = false := decide_eq_false (by omega)
  have b1 : i < N := by omega
  have b2 : j < N := by omega
  have b3 : k < N := by omega
  have HL : Hid (8 ≤ L ∧ L < 50) := hide (by omega)
  have e1 : wrap64 ((b : Int) - (a : Int)) = (L : Int) := by rw [r1]; exact w6n (Nat.le_trans (Nat.le_of_lt q3) (by decide))
  have e3 : wrap64 (s : Int) = (s : Int) := w6n (Nat.le_trans q5 (by decide))
  have e4 : wrap64 ((a : Int) + (s : Int)) = (i : Int) := by rw [r4]; exact w6n q9
  have e5 : wrap64 ((s : Int) * 2) = (s2 : Int) := by rw [r5]; exact w6n q12
  have e6 : wrap64 ((s : Int) * 3) = (s3 : Int) := by rw [r6]; exact w6n q13
  have e7 : wrap64 ((a : Int) + (s2 : Int)) = (j : Int) := by rw [r7]; exact w6n q10
  have e8 : wrap64 ((a : Int) + (s3 : Int)) = (k : Int) := by rw [r8]; exact w6n q11
  have e2 := E2.out
  have e2' : wrap64 (((L : Int)).tdiv 4) = (s : Int) := by rw [e2]; exact e3
  have FM := hide (fun W (h : Sc base g c N W0 D w.heap.size 0 W) => median_u64 i j k w.heap.size 0 W h b1 b2 b3 (by decide))
  have Hs : Hid (Sc base g c N W0 D w.heap.size 0 (w.alloc (.cells #[.int .i64 0] 3))) := hide ⟨Sd.alloc hs [.int .i64 0] 3, by simp, by simp, hW, by omega⟩
  clear b1 b2 b3 hs hb hN hi hj hk hs2 hs3 q1 q2 q3 q4 q5 q6 q7 q8 q9 q10 q11 q12 q13 r1 r4 r5 r6 r7 r8 hW hg
  go_enter Try.func56, Try.ntmps56
  go_wp2_with fail
  (with_reducible refine (FM.out _ Hs.out).mono ?_)
  rintro e w1 ⟨r, s', hr, rfl, hs', h⟩
  have Hr := hide hr
  have HT := hide h.row
  have a0 := h.at_
  have Hn := hide (show ¬ s' = 12 by omega)
  have n12 : ((s' : Int) == 12) = false := beq_eq_false_iff_ne.2 (by omega)
  clear Hs FM hr hs' h
  by_cases h0 : s' = 0
  · subst h0
    go_wp2
    refine bodyPost_ret (results_tmp2 rfl _ _ _) rfl ?_
    exact ⟨r, 1, Hr.out, .inr rfl, rfl, HT.out⟩
  · have n0 : ((s' : Int) == 0) = false := beq_eq_false_iff_ne.2 (by omega)
    clear h0
    go_wp2
    refine bodyPost_ret (results_tmp2 rfl _ _ _) rfl ?_
    exact ⟨r, 0, Hr.out, .inl rfl, rfl, HT.out⟩
end
end So
end Go.Proofs.Ytjdaoenapmjoeaa
