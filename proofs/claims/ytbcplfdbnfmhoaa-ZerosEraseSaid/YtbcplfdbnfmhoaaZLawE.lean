/-
  The walk of ZerosErase.
-/
import Derived.Test.YtbcplfdbnfmhoaaZLawP
namespace Go.Proofs.Ytbcplfdbnfmhoaa
open Go.RowKit

set_option maxHeartbeats 20000000 in
theorem zerosErase_any (A A3 : Option Addr) (n c n3 c3 B : Nat) (l m : List UInt8) (z : Int) (w : World) (h : Lies w B A (bys l)) (hn : n = l.length)
    (h3 : Lies w B A3 (bys m)) (hn3 : n3 = m.length) (hB : B ≤ w.heap.size) :
    Calls Try.prog 5 #[.slice A n c, .slice A3 n3 c3, .int .i64 z] w fun e w' => e = .returned (.bool true) ∧ Below w.heap.size w w' := by
  have Hn := hide hn
  have Hl := hide h
  have Hn3 := hide hn3
  have Hl3 := hide h3
  clear hn h hn3 h3
  by_cases hfew : n ≤ 60 ∧ n3 ≤ 60
  · have Hfew := hide (decide_eq_true hfew)
    have hmask : ∃ x : Nat, (∀ W, Lies W B A3 (bys m) → Calls Try.prog 18 #[.slice A3 n3 c3, .int .i64 z] W fun e w' => e = .returned (.int .u8 (x : Int)) ∧ W = w') ∧
        (z < 0 ∧ x = 0 ∨ 0 ≤ z ∧ n3 = 0 ∧ x = 0 ∨ 0 ≤ z ∧ 0 < n3 ∧ x = (m.getD (z.toNat % n3) 0).toNat) := by
      by_cases hz : z < 0
      · exact ⟨0, fun W _ => mask_neg A3 n3 c3 z W hz, .inl ⟨hz, rfl⟩⟩
      · obtain ⟨i, rfl⟩ := Int.eq_ofNat_of_zero_le (by omega : 0 ≤ z)
        refine ⟨(maskB m i).toNat, fun W hW => mask_any A3 n3 c3 B m i W hW Hn3.out, .inr ?_⟩
        by_cases h0 : n3 = 0
        · exact .inl ⟨by omega, h0, by unfold maskB; rw [if_pos (by rw [← Hn3.out]; exact h0)]; rfl⟩
        · exact .inr ⟨by omega, by omega, by unfold maskB; rw [if_neg (by rw [← Hn3.out]; exact h0), ← Hn3.out]; rfl⟩
    obtain ⟨x, hmc, hx⟩ := hmask
    have Hmc := hide hmc
    clear hmc
    rcases hx with ⟨hz0, rfl⟩ | ⟨hz0, h30, rfl⟩ | ⟨hz0, h30, hx⟩
    rotate_left 2
    · obtain ⟨i, rfl⟩ := Int.eq_ofNat_of_zero_le hz0
      obtain ⟨k, hk, hkn⟩ : ∃ k, k = i % n3 ∧ k < n3 := ⟨_, rfl, Nat.mod_lt _ h30⟩
      rw [Int.toNat_natCast, ← hk] at hx
      have e1 : (i : Int) % (n3 : Int) = (k : Int) := by rw [hk]; simp
      have h3p : (0 : Int) < (n3 : Int) := by omega
      have h3n : ((n3 : Int) == 0) = false := by rw [beq_eq_false_iff_ne]; omega
      obtain ⟨a3, rfl, _, _⟩ := Hl3.out.byte (k := k) (by rw [← Hn3.out]; exact hkn)
      have hcm : ∀ W, Lies W B (some a3) (bys m) → W.cell? (a3.add k) = some (.int .u8 (x : Int)) := fun W hW => by
        obtain ⟨a', ha, _, hc⟩ := hW.byte (k := k) (by rw [← Hn3.out]; exact hkn)
        cases ha
        rw [hx]; exact hc
      have Hcm := hide hcm
      clear hcm hx hk
      have h3ne : ¬ n3 = 0 := by omega
      have e1t : (i : Int).tmod (n3 : Int) = (k : Int) := by rw [Int.tmod_eq_emod_of_nonneg (by omega)]; exact e1
      go_enter Try.func5, Try.ntmps5
      go_wp2_with fail
      (with_reducible refine (few_2 A (some a3) n c n3 c3 w true Hfew.out.symm).mono ?_)
      rintro e w1 ⟨rfl, hw1⟩
      have hb1 : Below w.heap.size w w1 := by rw [← hw1]; exact (Below.refl _ w).alloc (Nat.le_refl _) _
      clear hw1
      have HL := hide (Hl.out.below (hb1.mono hB))
      have HL3 := hide (Hl3.out.below (hb1.mono hB))
      have Hb1 := hide hb1
      have hz := Nat.le_trans hB hb1.size
      clear hb1
      go_wp2_with fail
      (with_reducible refine (Hmc.out _ HL3.out).mono ?_)
      rintro e w2 ⟨rfl, rfl⟩
      have fp : ∀ W, Below w1.heap.size w1 W → Makes 19 #[.slice A n c, .slice (some a3) n3 c3] W n (erasL l m) := fun W hW =>
        Makes.of (by rw [erasL_len]; exact Hn.out) (erase_any A (some a3) n c n3 c3 B l m W (HL.out.below (hW.mono hz)) Hn.out (by omega) (HL3.out.below (hW.mono hz)) Hn3.out (Nat.le_trans hz hW.size))
      have fr : ∀ W, Below w1.heap.size w1 W → Makes 20 #[.slice A n c, .slice (some a3) n3 c3] W n (erasL l m) := fun W hW =>
        Makes.of (by rw [erasL_len]; exact Hn.out) (erase2_any A (some a3) n c n3 c3 B l m W (HL.out.below (hW.mono hz)) Hn.out (by omega) (HL3.out.below (hW.mono hz)) Hn3.out (by omega) (Nat.le_trans hz hW.size))
      have FP := hide fp
      have FR := hide fr
      clear fp fr
      have hcm : ∀ W, Below w1.heap.size w1 W → W.cell? (a3.add k) = some (.int .u8 (x : Int)) := fun W hW => Hcm.out W (HL3.out.below (hW.mono hz))
      go_upto_region 4 with fail
      refine wp_region_flow (by kernel_rfl) (fun d => if d = 6 then is (.bool true) else List.getD [is (.bool true), is (.bool true), is (.slice A n c), is (.slice (some a3) n3 c3), SliceStr n (erasL l m), is (.string (str (erasL l m))), is (.slice A n c), is (.slice (some a3) n3 c3), SliceStr n (erasL l m), is (.string (str (erasL l m))), is (.bool true), is (.bool true), is (.bool true), is (.int .i64 (i : Int)), is (.bool true), is (.bool true), is (.slice (some a3) n3 c3), is (.int .i64 (n3 : Int)), is (.bool true), is (.bool true), is (.bool true), is (.int .u8 (x : Int)), is (.slice (some a3) n3 c3), is (.int .i64 (i : Int)), is (.slice (some a3) n3 c3), is (.int .i64 (n3 : Int)), is (.int .i64 (k : Int)), is (.pointer (some (a3.add k))), is (.int .u8 (x : Int)), is (.bool true), is (.bool true), is (.bool true), is (undef), is (undef), is (undef), is (undef), is (undef), is (undef), is (undef), is (undef), is (undef), is (undef), is (undef), is (.bool true), is (.bool true)] (d - 17) (fun _ _ => True)) 6 (by kernel_rfl) (by kernel_rfl) ?_ ?_
      · refine And.intro ?_ (And.intro ?_ (And.intro ?_ (And.intro ?_ (And.intro ?_ (And.intro ?_ (And.intro ?_ (And.intro ?_ (And.intro ?_ (And.intro ?_ (And.intro ?_ (And.intro ?_ (And.intro ?_ (And.intro ?_ (And.intro ?_ (And.intro ?_ (And.intro ?_ (And.intro ?_ (And.intro ?_ (And.intro ?_ (And.intro ?_ (And.intro ?_ (And.intro ?_ (And.intro ?_ (And.intro ?_ (And.intro ?_ (And.intro ?_ (And.intro ?_ (And.intro ?_ (And.intro ?_ (And.intro ?_ (And.intro ?_ (And.intro ?_ (And.intro ?_ (And.intro ?_ (And.intro ?_ (And.intro ?_ (And.intro ?_ (And.intro ?_ (And.intro ?_ (And.intro ?_ (And.intro ?_ (And.intro ?_ (And.intro ?_ (And.intro ?_ (And.intro ?_ trivial)))))))))))))))))))))))))))))))))))))))))))))
        · intro a w hb h
          exact .called (want0 rfl) rfl (by simp [go_sem]) (belowF (awake2_any w))
        · intro a w hb h
          have e17 := (sw h 17 (by kernel_rfl) (by kernel_rfl)).eq
          exact .val (want0 rfl) rfl (by simp [Act.eval, e17, go_sem]) (Keeps.is rfl)
        · intro a w hb h
          have eg := (sw h 18 (by kernel_rfl) (by kernel_rfl)).eq
          have e0 : a.tmps.getD 0 undef = .slice A n c := sb h 0 (by kernel_rfl) (by kernel_rfl) rfl
          exact .val (wantg rfl (by kernel_rfl) eg) rfl (by simp [Act.eval, e0, go_sem]) (Keeps.is rfl)
        · intro a w hb h
          have eg := (sw h 18 (by kernel_rfl) (by kernel_rfl)).eq
          have e1 : a.tmps.getD 1 undef = .slice (some a3) n3 c3 := sb h 1 (by kernel_rfl) (by kernel_rfl) rfl
          exact .val (wantg rfl (by kernel_rfl) eg) rfl (by simp [Act.eval, e1, go_sem]) (Keeps.is rfl)
        · intro a w hb h
          have eg := (sw h 18 (by kernel_rfl) (by kernel_rfl)).eq
          have e19 := (sw h 19 (by kernel_rfl) (by kernel_rfl)).eq
          have e20 := (sw h 20 (by kernel_rfl) (by kernel_rfl)).eq
          exact .called (wantg rfl (by kernel_rfl) eg) rfl (by simp [Act.eval, e19, e20, go_sem]) (FP.out w hb)
        · intro a w hb h
          have eg := (sw h 18 (by kernel_rfl) (by kernel_rfl)).eq
          have e21 := sw h 21 (by kernel_rfl) (by kernel_rfl)
          obtain ⟨A', c', e', hc'⟩ := e21.now
          rw [e'] at hc'
          exact .val (wantg rfl (by kernel_rfl) eg) rfl (by simp [Act.eval, e', hc', go_sem]) (Keeps.is rfl)
        · intro a w hb h
          have eg := (sw h 18 (by kernel_rfl) (by kernel_rfl)).eq
          have e0 : a.tmps.getD 0 undef = .slice A n c := sb h 0 (by kernel_rfl) (by kernel_rfl) rfl
          exact .val (wantg rfl (by kernel_rfl) eg) rfl (by simp [Act.eval, e0, go_sem]) (Keeps.is rfl)
        · intro a w hb h
          have eg := (sw h 18 (by kernel_rfl) (by kernel_rfl)).eq
          have e1 : a.tmps.getD 1 undef = .slice (some a3) n3 c3 := sb h 1 (by kernel_rfl) (by kernel_rfl) rfl
          exact .val (wantg rfl (by kernel_rfl) eg) rfl (by simp [Act.eval, e1, go_sem]) (Keeps.is rfl)
        · intro a w hb h
          have eg := (sw h 18 (by kernel_rfl) (by kernel_rfl)).eq
          have e23 := (sw h 23 (by kernel_rfl) (by kernel_rfl)).eq
          have e24 := (sw h 24 (by kernel_rfl) (by kernel_rfl)).eq
          exact .called (wantg rfl (by kernel_rfl) eg) rfl (by simp [Act.eval, e23, e24, go_sem]) (FR.out w hb)
        · intro a w hb h
          have eg := (sw h 18 (by kernel_rfl) (by kernel_rfl)).eq
          have e25 := sw h 25 (by kernel_rfl) (by kernel_rfl)
          obtain ⟨A', c', e', hc'⟩ := e25.now
          rw [e'] at hc'
          exact .val (wantg rfl (by kernel_rfl) eg) rfl (by simp [Act.eval, e', hc', go_sem]) (Keeps.is rfl)
        · intro a w hb h
          have eg := (sw h 18 (by kernel_rfl) (by kernel_rfl)).eq
          have e22 := (sw h 22 (by kernel_rfl) (by kernel_rfl)).eq
          have e26 := (sw h 26 (by kernel_rfl) (by kernel_rfl)).eq
          exact .val (wantg rfl (by kernel_rfl) eg) rfl (by simp [Act.eval, e22, e26, go_sem]) (Keeps.is rfl)
        · intro a w hb h
          have e18 := (sw h 18 (by kernel_rfl) (by kernel_rfl)).eq
          have e27 := (sw h 27 (by kernel_rfl) (by kernel_rfl)).eq
          exact .val (want0 rfl) rfl (by simp [Act.eval, e18, e27, go_sem]) (Keeps.is rfl)
        · intro a w hb h
          have e28 := (sw h 28 (by kernel_rfl) (by kernel_rfl)).eq
          exact .val (want0 rfl) rfl (by simp [Act.eval, e28, go_sem]) (Keeps.is rfl)
        · intro a w hb h
          have eg := (sw h 29 (by kernel_rfl) (by kernel_rfl)).eq
          have e2 : a.tmps.getD 2 undef = .int .i64 (i : Int) := sb h 2 (by kernel_rfl) (by kernel_rfl) rfl
          exact .val (wantg rfl (by kernel_rfl) eg) rfl (by simp [Act.eval, e2, go_sem]) (Keeps.is rfl)
        · intro a w hb h
          have eg := (sw h 29 (by kernel_rfl) (by kernel_rfl)).eq
          have e30 := (sw h 30 (by kernel_rfl) (by kernel_rfl)).eq
          exact .val (wantg rfl (by kernel_rfl) eg) rfl (by simp [Act.eval, e30, go_sem]) (Keeps.is rfl)
        · intro a w hb h
          have eg := (sw h 29 (by kernel_rfl) (by kernel_rfl)).eq
          have e31 := (sw h 31 (by kernel_rfl) (by kernel_rfl)).eq
          exact .val (wantg rfl (by kernel_rfl) eg) rfl (by simp [Act.eval, e31, go_sem]) (Keeps.is rfl)
        · intro a w hb h
          have eg := (sw h 32 (by kernel_rfl) (by kernel_rfl)).eq
          have e1 : a.tmps.getD 1 undef = .slice (some a3) n3 c3 := sb h 1 (by kernel_rfl) (by kernel_rfl) rfl
          exact .val (wantg rfl (by kernel_rfl) eg) rfl (by simp [Act.eval, e1, go_sem]) (Keeps.is rfl)
        · intro a w hb h
          have eg := (sw h 32 (by kernel_rfl) (by kernel_rfl)).eq
          have e33 := (sw h 33 (by kernel_rfl) (by kernel_rfl)).eq
          exact .val (wantg rfl (by kernel_rfl) eg) rfl (by simp [Act.eval, e33, go_sem]) (Keeps.is rfl)
        · intro a w hb h
          have eg := (sw h 32 (by kernel_rfl) (by kernel_rfl)).eq
          have e34 := (sw h 34 (by kernel_rfl) (by kernel_rfl)).eq
          exact .val (wantg rfl (by kernel_rfl) eg) rfl (by simp [Act.eval, e34, h30, go_sem]) (Keeps.is rfl)
        · intro a w hb h
          have eg := (sw h 29 (by kernel_rfl) (by kernel_rfl)).eq
          have e32 := (sw h 32 (by kernel_rfl) (by kernel_rfl)).eq
          have e35 := (sw h 35 (by kernel_rfl) (by kernel_rfl)).eq
          exact .val (wantg rfl (by kernel_rfl) eg) rfl (by simp [Act.eval, e32, e35, go_sem]) (Keeps.is rfl)
        · intro a w hb h
          have eg := (sw h 29 (by kernel_rfl) (by kernel_rfl)).eq
          have e36 := (sw h 36 (by kernel_rfl) (by kernel_rfl)).eq
          exact .val (wantg rfl (by kernel_rfl) eg) rfl (by simp [Act.eval, e36, go_sem]) (Keeps.is rfl)
        · intro a w hb h
          have eg := (sw h 37 (by kernel_rfl) (by kernel_rfl)).eq
          have e7 : a.tmps.getD 7 undef = .int .u8 (x : Int) := sb h 7 (by kernel_rfl) (by kernel_rfl) rfl
          exact .val (wantg rfl (by kernel_rfl) eg) rfl (by simp [Act.eval, e7, go_sem]) (Keeps.is rfl)
        · intro a w hb h
          have eg := (sw h 37 (by kernel_rfl) (by kernel_rfl)).eq
          have e1 : a.tmps.getD 1 undef = .slice (some a3) n3 c3 := sb h 1 (by kernel_rfl) (by kernel_rfl) rfl
          exact .val (wantg rfl (by kernel_rfl) eg) rfl (by simp [Act.eval, e1, go_sem]) (Keeps.is rfl)
        · intro a w hb h
          have eg := (sw h 37 (by kernel_rfl) (by kernel_rfl)).eq
          have e2 : a.tmps.getD 2 undef = .int .i64 (i : Int) := sb h 2 (by kernel_rfl) (by kernel_rfl) rfl
          exact .val (wantg rfl (by kernel_rfl) eg) rfl (by simp [Act.eval, e2, go_sem]) (Keeps.is rfl)
        · intro a w hb h
          have eg := (sw h 37 (by kernel_rfl) (by kernel_rfl)).eq
          have e1 : a.tmps.getD 1 undef = .slice (some a3) n3 c3 := sb h 1 (by kernel_rfl) (by kernel_rfl) rfl
          exact .val (wantg rfl (by kernel_rfl) eg) rfl (by simp [Act.eval, e1, go_sem]) (Keeps.is rfl)
        · intro a w hb h
          have eg := (sw h 37 (by kernel_rfl) (by kernel_rfl)).eq
          have e41 := (sw h 41 (by kernel_rfl) (by kernel_rfl)).eq
          exact .val (wantg rfl (by kernel_rfl) eg) rfl (by simp [Act.eval, e41, go_sem]) (Keeps.is rfl)
        · intro a w hb h
          have eg := (sw h 37 (by kernel_rfl) (by kernel_rfl)).eq
          have e40 := (sw h 40 (by kernel_rfl) (by kernel_rfl)).eq
          have e42 := (sw h 42 (by kernel_rfl) (by kernel_rfl)).eq
          exact .val (wantg rfl (by kernel_rfl) eg) rfl (by simp [Act.eval, e40, e42, h3ne, e1t, go_sem]) (Keeps.is rfl)
        · intro a w hb h
          have eg := (sw h 37 (by kernel_rfl) (by kernel_rfl)).eq
          have e39 := (sw h 39 (by kernel_rfl) (by kernel_rfl)).eq
          have e43 := (sw h 43 (by kernel_rfl) (by kernel_rfl)).eq
          exact .val (wantg rfl (by kernel_rfl) eg) rfl (by simp [Act.eval, e39, e43, hkn, go_sem]) (Keeps.is rfl)
        · intro a w hb h
          have eg := (sw h 37 (by kernel_rfl) (by kernel_rfl)).eq
          have e44 := (sw h 44 (by kernel_rfl) (by kernel_rfl)).eq
          exact .val (wantg rfl (by kernel_rfl) eg) rfl (by simp [Act.eval, e44, hcm w hb, go_sem]) (Keeps.is rfl)
        · intro a w hb h
          have eg := (sw h 37 (by kernel_rfl) (by kernel_rfl)).eq
          have e38 := (sw h 38 (by kernel_rfl) (by kernel_rfl)).eq
          have e45 := (sw h 45 (by kernel_rfl) (by kernel_rfl)).eq
          exact .val (wantg rfl (by kernel_rfl) eg) rfl (by simp [Act.eval, e38, e45, go_sem]) (Keeps.is rfl)
        · intro a w hb h
          have eg := (sw h 29 (by kernel_rfl) (by kernel_rfl)).eq
          have e37 := (sw h 37 (by kernel_rfl) (by kernel_rfl)).eq
          have e46 := (sw h 46 (by kernel_rfl) (by kernel_rfl)).eq
          exact .val (wantg rfl (by kernel_rfl) eg) rfl (by simp [Act.eval, e37, e46, go_sem]) (Keeps.is rfl)
        · intro a w hb h
          have eg := (sw h 29 (by kernel_rfl) (by kernel_rfl)).eq
          have e47 := (sw h 47 (by kernel_rfl) (by kernel_rfl)).eq
          exact .val (wantg rfl (by kernel_rfl) eg) rfl (by simp [Act.eval, e47, go_sem]) (Keeps.is rfl)
        · intro a w hb h
          have eg := (sw h 48 (by kernel_rfl) (by kernel_rfl)).eq
          exact .off (idleg rfl (by kernel_rfl) eg rfl) rfl (Keeps.is rfl)
        · intro a w hb h
          have eg := (sw h 48 (by kernel_rfl) (by kernel_rfl)).eq
          exact .off (idleg rfl (by kernel_rfl) eg rfl) rfl (Keeps.is rfl)
        · intro a w hb h
          have eg := (sw h 48 (by kernel_rfl) (by kernel_rfl)).eq
          exact .off (idleg rfl (by kernel_rfl) eg rfl) rfl (Keeps.is rfl)
        · intro a w hb h
          have eg := (sw h 51 (by kernel_rfl) (by kernel_rfl)).eq
          exact .off (idleu rfl (by kernel_rfl) eg) rfl (Keeps.is rfl)
        · intro a w hb h
          have eg := (sw h 51 (by kernel_rfl) (by kernel_rfl)).eq
          exact .off (idleu rfl (by kernel_rfl) eg) rfl (Keeps.is rfl)
        · intro a w hb h
          have eg := (sw h 51 (by kernel_rfl) (by kernel_rfl)).eq
          exact .off (idleu rfl (by kernel_rfl) eg) rfl (Keeps.is rfl)
        · intro a w hb h
          have eg := (sw h 48 (by kernel_rfl) (by kernel_rfl)).eq
          exact .off (idleg rfl (by kernel_rfl) eg rfl) rfl (Keeps.is rfl)
        · intro a w hb h
          have eg := (sw h 48 (by kernel_rfl) (by kernel_rfl)).eq
          exact .off (idleg rfl (by kernel_rfl) eg rfl) rfl (Keeps.is rfl)
        · intro a w hb h
          have eg := (sw h 56 (by kernel_rfl) (by kernel_rfl)).eq
          exact .off (idleu rfl (by kernel_rfl) eg) rfl (Keeps.is rfl)
        · intro a w hb h
          have eg := (sw h 56 (by kernel_rfl) (by kernel_rfl)).eq
          exact .off (idleu rfl (by kernel_rfl) eg) rfl (Keeps.is rfl)
        · intro a w hb h
          have eg := (sw h 48 (by kernel_rfl) (by kernel_rfl)).eq
          exact .off (idleg rfl (by kernel_rfl) eg rfl) rfl (Keeps.is rfl)
        · intro a w hb h
          have eg := (sw h 29 (by kernel_rfl) (by kernel_rfl)).eq
          have e48 := (sw h 48 (by kernel_rfl) (by kernel_rfl)).eq
          exact .val (wantg rfl (by kernel_rfl) eg) rfl (by simp [Act.eval, e48, go_sem]) (Keeps.is rfl)
        · intro a w hb h
          have e29 := (sw h 29 (by kernel_rfl) (by kernel_rfl)).eq
          have e60 := (sw h 60 (by kernel_rfl) (by kernel_rfl)).eq
          exact .val (want0 rfl) rfl (by simp [Act.eval, e29, e60, go_sem]) (Keeps.is rfl)
        · intro a w hb h
          have e61 := (sw h 61 (by kernel_rfl) (by kernel_rfl)).eq
          exact .val (want0 rfl) rfl (by simp [Act.eval, e61, go_sem]) (Keeps.is rfl)
      · intro a w2 hd hb hv
        have er := hv.eq
        clear hv
        simp only [Exit.then]
        go_wp2
        exact ⟨hd, _, results_tmp rfl _ _ _, by rw [er], Hb1.out.trans (hb.mono Hb1.out.size)⟩
    · have h0 : z < 0 := hz0
      go_enter Try.func5, Try.ntmps5
      go_wp2_with fail
      (with_reducible refine (few_2 A A3 n c n3 c3 w true Hfew.out.symm).mono ?_)
      rintro e w1 ⟨rfl, hw1⟩
      have hb1 : Below w.heap.size w w1 := by rw [← hw1]; exact (Below.refl _ w).alloc (Nat.le_refl _) _
      clear hw1
      have HL := hide (Hl.out.below (hb1.mono hB))
      have HL3 := hide (Hl3.out.below (hb1.mono hB))
      have Hb1 := hide hb1
      have hz := Nat.le_trans hB hb1.size
      clear hb1
      go_wp2_with fail
      (with_reducible refine (Hmc.out _ HL3.out).mono ?_)
      rintro e w2 ⟨rfl, rfl⟩
      have fp : ∀ W, Below w1.heap.size w1 W → Makes 19 #[.slice A n c, .slice A3 n3 c3] W n (erasL l m) := fun W hW =>
        Makes.of (by rw [erasL_len]; exact Hn.out) (erase_any A A3 n c n3 c3 B l m W (HL.out.below (hW.mono hz)) Hn.out (by omega) (HL3.out.below (hW.mono hz)) Hn3.out (Nat.le_trans hz hW.size))
      have fr : ∀ W, Below w1.heap.size w1 W → Makes 20 #[.slice A n c, .slice A3 n3 c3] W n (erasL l m) := fun W hW =>
        Makes.of (by rw [erasL_len]; exact Hn.out) (erase2_any A A3 n c n3 c3 B l m W (HL.out.below (hW.mono hz)) Hn.out (by omega) (HL3.out.below (hW.mono hz)) Hn3.out (by omega) (Nat.le_trans hz hW.size))
      have FP := hide fp
      have FR := hide fr
      clear fp fr
      go_upto_region 4 with fail
      refine wp_region_flow (by kernel_rfl) (fun d => if d = 6 then is (.bool true) else List.getD [is (.bool true), is (.bool true), is (.slice A n c), is (.slice A3 n3 c3), SliceStr n (erasL l m), is (.string (str (erasL l m))), is (.slice A n c), is (.slice A3 n3 c3), SliceStr n (erasL l m), is (.string (str (erasL l m))), is (.bool true), is (.bool true), is (.bool true), is (.int .i64 z), is (.bool false), is (.bool false), is (undef), is (undef), is (undef), is (.bool false), is (.bool false), is (undef), is (undef), is (undef), is (undef), is (undef), is (undef), is (undef), is (undef), is (undef), is (.bool false), is (.bool false), is (.int .i64 z), is (.bool true), is (.bool true), is (undef), is (undef), is (undef), is (.bool true), is (.bool true), is (.int .u8 0), is (.bool true), is (.bool true), is (.bool true), is (.bool true)] (d - 17) (fun _ _ => True)) 6 (by kernel_rfl) (by kernel_rfl) ?_ ?_
      · refine And.intro ?_ (And.intro ?_ (And.intro ?_ (And.intro ?_ (And.intro ?_ (And.intro ?_ (And.intro ?_ (And.intro ?_ (And.intro ?_ (And.intro ?_ (And.intro ?_ (And.intro ?_ (And.intro ?_ (And.intro ?_ (And.intro ?_ (And.intro ?_ (And.intro ?_ (And.intro ?_ (And.intro ?_ (And.intro ?_ (And.intro ?_ (And.intro ?_ (And.intro ?_ (And.intro ?_ (And.intro ?_ (And.intro ?_ (And.intro ?_ (And.intro ?_ (And.intro ?_ (And.intro ?_ (And.intro ?_ (And.intro ?_ (And.intro ?_ (And.intro ?_ (And.intro ?_ (And.intro ?_ (And.intro ?_ (And.intro ?_ (And.intro ?_ (And.intro ?_ (And.intro ?_ (And.intro ?_ (And.intro ?_ (And.intro ?_ (And.intro ?_ (And.intro ?_ trivial)))))))))))))))))))))))))))))))))))))))))))))
        · intro a w hb h
          exact .called (want0 rfl) rfl (by simp [go_sem]) (belowF (awake2_any w))
        · intro a w hb h
          have e17 := (sw h 17 (by kernel_rfl) (by kernel_rfl)).eq
          exact .val (want0 rfl) rfl (by simp [Act.eval, e17, go_sem]) (Keeps.is rfl)
        · intro a w hb h
          have eg := (sw h 18 (by kernel_rfl) (by kernel_rfl)).eq
          have e0 : a.tmps.getD 0 undef = .slice A n c := sb h 0 (by kernel_rfl) (by kernel_rfl) rfl
          exact .val (wantg rfl (by kernel_rfl) eg) rfl (by simp [Act.eval, e0, go_sem]) (Keeps.is rfl)
        · intro a w hb h
          have eg := (sw h 18 (by kernel_rfl) (by kernel_rfl)).eq
          have e1 : a.tmps.getD 1 undef = .slice A3 n3 c3 := sb h 1 (by kernel_rfl) (by kernel_rfl) rfl
          exact .val (wantg rfl (by kernel_rfl) eg) rfl (by simp [Act.eval, e1, go_sem]) (Keeps.is rfl)
        · intro a w hb h
          have eg := (sw h 18 (by kernel_rfl) (by kernel_rfl)).eq
          have e19 := (sw h 19 (by kernel_rfl) (by kernel_rfl)).eq
          have e20 := (sw h 20 (by kernel_rfl) (by kernel_rfl)).eq
          exact .called (wantg rfl (by kernel_rfl) eg) rfl (by simp [Act.eval, e19, e20, go_sem]) (FP.out w hb)
        · intro a w hb h
          have eg := (sw h 18 (by kernel_rfl) (by kernel_rfl)).eq
          have e21 := sw h 21 (by kernel_rfl) (by kernel_rfl)
          obtain ⟨A', c', e', hc'⟩ := e21.now
          rw [e'] at hc'
          exact .val (wantg rfl (by kernel_rfl) eg) rfl (by simp [Act.eval, e', hc', go_sem]) (Keeps.is rfl)
        · intro a w hb h
          have eg := (sw h 18 (by kernel_rfl) (by kernel_rfl)).eq
          have e0 : a.tmps.getD 0 undef = .slice A n c := sb h 0 (by kernel_rfl) (by kernel_rfl) rfl
          exact .val (wantg rfl (by kernel_rfl) eg) rfl (by simp [Act.eval, e0, go_sem]) (Keeps.is rfl)
        · intro a w hb h
          have eg := (sw h 18 (by kernel_rfl) (by kernel_rfl)).eq
          have e1 : a.tmps.getD 1 undef = .slice A3 n3 c3 := sb h 1 (by kernel_rfl) (by kernel_rfl) rfl
          exact .val (wantg rfl (by kernel_rfl) eg) rfl (by simp [Act.eval, e1, go_sem]) (Keeps.is rfl)
        · intro a w hb h
          have eg := (sw h 18 (by kernel_rfl) (by kernel_rfl)).eq
          have e23 := (sw h 23 (by kernel_rfl) (by kernel_rfl)).eq
          have e24 := (sw h 24 (by kernel_rfl) (by kernel_rfl)).eq
          exact .called (wantg rfl (by kernel_rfl) eg) rfl (by simp [Act.eval, e23, e24, go_sem]) (FR.out w hb)
        · intro a w hb h
          have eg := (sw h 18 (by kernel_rfl) (by kernel_rfl)).eq
          have e25 := sw h 25 (by kernel_rfl) (by kernel_rfl)
          obtain ⟨A', c', e', hc'⟩ := e25.now
          rw [e'] at hc'
          exact .val (wantg rfl (by kernel_rfl) eg) rfl (by simp [Act.eval, e', hc', go_sem]) (Keeps.is rfl)
        · intro a w hb h
          have eg := (sw h 18 (by kernel_rfl) (by kernel_rfl)).eq
          have e22 := (sw h 22 (by kernel_rfl) (by kernel_rfl)).eq
          have e26 := (sw h 26 (by kernel_rfl) (by kernel_rfl)).eq
          exact .val (wantg rfl (by kernel_rfl) eg) rfl (by simp [Act.eval, e22, e26, go_sem]) (Keeps.is rfl)
        · intro a w hb h
          have e18 := (sw h 18 (by kernel_rfl) (by kernel_rfl)).eq
          have e27 := (sw h 27 (by kernel_rfl) (by kernel_rfl)).eq
          exact .val (want0 rfl) rfl (by simp [Act.eval, e18, e27, go_sem]) (Keeps.is rfl)
        · intro a w hb h
          have e28 := (sw h 28 (by kernel_rfl) (by kernel_rfl)).eq
          exact .val (want0 rfl) rfl (by simp [Act.eval, e28, go_sem]) (Keeps.is rfl)
        · intro a w hb h
          have eg := (sw h 29 (by kernel_rfl) (by kernel_rfl)).eq
          have e2 : a.tmps.getD 2 undef = .int .i64 z := sb h 2 (by kernel_rfl) (by kernel_rfl) rfl
          exact .val (wantg rfl (by kernel_rfl) eg) rfl (by simp [Act.eval, e2, go_sem]) (Keeps.is rfl)
        · intro a w hb h
          have eg := (sw h 29 (by kernel_rfl) (by kernel_rfl)).eq
          have e30 := (sw h 30 (by kernel_rfl) (by kernel_rfl)).eq
          exact .val (wantg rfl (by kernel_rfl) eg) rfl (by simp [Act.eval, e30, h0, go_sem]) (Keeps.is rfl)
        · intro a w hb h
          have eg := (sw h 29 (by kernel_rfl) (by kernel_rfl)).eq
          have e31 := (sw h 31 (by kernel_rfl) (by kernel_rfl)).eq
          exact .val (wantg rfl (by kernel_rfl) eg) rfl (by simp [Act.eval, e31, go_sem]) (Keeps.is rfl)
        · intro a w hb h
          have eg := (sw h 32 (by kernel_rfl) (by kernel_rfl)).eq
          exact .off (idleg rfl (by kernel_rfl) eg rfl) rfl (Keeps.is rfl)
        · intro a w hb h
          have eg := (sw h 32 (by kernel_rfl) (by kernel_rfl)).eq
          exact .off (idleg rfl (by kernel_rfl) eg rfl) rfl (Keeps.is rfl)
        · intro a w hb h
          have eg := (sw h 32 (by kernel_rfl) (by kernel_rfl)).eq
          exact .off (idleg rfl (by kernel_rfl) eg rfl) rfl (Keeps.is rfl)
        · intro a w hb h
          have eg := (sw h 29 (by kernel_rfl) (by kernel_rfl)).eq
          have e32 := (sw h 32 (by kernel_rfl) (by kernel_rfl)).eq
          exact .val (wantg rfl (by kernel_rfl) eg) rfl (by simp [Act.eval, e32, go_sem]) (Keeps.is rfl)
        · intro a w hb h
          have eg := (sw h 29 (by kernel_rfl) (by kernel_rfl)).eq
          have e36 := (sw h 36 (by kernel_rfl) (by kernel_rfl)).eq
          exact .val (wantg rfl (by kernel_rfl) eg) rfl (by simp [Act.eval, e36, go_sem]) (Keeps.is rfl)
        · intro a w hb h
          have eg := (sw h 37 (by kernel_rfl) (by kernel_rfl)).eq
          exact .off (idleg rfl (by kernel_rfl) eg rfl) rfl (Keeps.is rfl)
        · intro a w hb h
          have eg := (sw h 37 (by kernel_rfl) (by kernel_rfl)).eq
          exact .off (idleg rfl (by kernel_rfl) eg rfl) rfl (Keeps.is rfl)
        · intro a w hb h
          have eg := (sw h 37 (by kernel_rfl) (by kernel_rfl)).eq
          exact .off (idleg rfl (by kernel_rfl) eg rfl) rfl (Keeps.is rfl)
        · intro a w hb h
          have eg := (sw h 37 (by kernel_rfl) (by kernel_rfl)).eq
          exact .off (idleg rfl (by kernel_rfl) eg rfl) rfl (Keeps.is rfl)
        · intro a w hb h
          have eg := (sw h 37 (by kernel_rfl) (by kernel_rfl)).eq
          exact .off (idleg rfl (by kernel_rfl) eg rfl) rfl (Keeps.is rfl)
        · intro a w hb h
          have eg := (sw h 37 (by kernel_rfl) (by kernel_rfl)).eq
          exact .off (idleg rfl (by kernel_rfl) eg rfl) rfl (Keeps.is rfl)
        · intro a w hb h
          have eg := (sw h 37 (by kernel_rfl) (by kernel_rfl)).eq
          exact .off (idleg rfl (by kernel_rfl) eg rfl) rfl (Keeps.is rfl)
        · intro a w hb h
          have eg := (sw h 37 (by kernel_rfl) (by kernel_rfl)).eq
          exact .off (idleg rfl (by kernel_rfl) eg rfl) rfl (Keeps.is rfl)
        · intro a w hb h
          have eg := (sw h 37 (by kernel_rfl) (by kernel_rfl)).eq
          exact .off (idleg rfl (by kernel_rfl) eg rfl) rfl (Keeps.is rfl)
        · intro a w hb h
          have eg := (sw h 29 (by kernel_rfl) (by kernel_rfl)).eq
          have e37 := (sw h 37 (by kernel_rfl) (by kernel_rfl)).eq
          exact .val (wantg rfl (by kernel_rfl) eg) rfl (by simp [Act.eval, e37, go_sem]) (Keeps.is rfl)
        · intro a w hb h
          have eg := (sw h 29 (by kernel_rfl) (by kernel_rfl)).eq
          have e47 := (sw h 47 (by kernel_rfl) (by kernel_rfl)).eq
          exact .val (wantg rfl (by kernel_rfl) eg) rfl (by simp [Act.eval, e47, go_sem]) (Keeps.is rfl)
        · intro a w hb h
          have eg := (sw h 48 (by kernel_rfl) (by kernel_rfl)).eq
          have e2 : a.tmps.getD 2 undef = .int .i64 z := sb h 2 (by kernel_rfl) (by kernel_rfl) rfl
          exact .val (wantg rfl (by kernel_rfl) eg) rfl (by simp [Act.eval, e2, go_sem]) (Keeps.is rfl)
        · intro a w hb h
          have eg := (sw h 48 (by kernel_rfl) (by kernel_rfl)).eq
          have e49 := (sw h 49 (by kernel_rfl) (by kernel_rfl)).eq
          exact .val (wantg rfl (by kernel_rfl) eg) rfl (by simp [Act.eval, e49, h0, go_sem]) (Keeps.is rfl)
        · intro a w hb h
          have eg := (sw h 48 (by kernel_rfl) (by kernel_rfl)).eq
          have e50 := (sw h 50 (by kernel_rfl) (by kernel_rfl)).eq
          exact .val (wantg rfl (by kernel_rfl) eg) rfl (by simp [Act.eval, e50, go_sem]) (Keeps.is rfl)
        · intro a w hb h
          have eg := (sw h 51 (by kernel_rfl) (by kernel_rfl)).eq
          exact .off (idleg rfl (by kernel_rfl) eg rfl) rfl (Keeps.is rfl)
        · intro a w hb h
          have eg := (sw h 51 (by kernel_rfl) (by kernel_rfl)).eq
          exact .off (idleg rfl (by kernel_rfl) eg rfl) rfl (Keeps.is rfl)
        · intro a w hb h
          have eg := (sw h 51 (by kernel_rfl) (by kernel_rfl)).eq
          exact .off (idleg rfl (by kernel_rfl) eg rfl) rfl (Keeps.is rfl)
        · intro a w hb h
          have eg := (sw h 48 (by kernel_rfl) (by kernel_rfl)).eq
          have e51 := (sw h 51 (by kernel_rfl) (by kernel_rfl)).eq
          exact .val (wantg rfl (by kernel_rfl) eg) rfl (by simp [Act.eval, e51, go_sem]) (Keeps.is rfl)
        · intro a w hb h
          have eg := (sw h 48 (by kernel_rfl) (by kernel_rfl)).eq
          have e55 := (sw h 55 (by kernel_rfl) (by kernel_rfl)).eq
          exact .val (wantg rfl (by kernel_rfl) eg) rfl (by simp [Act.eval, e55, go_sem]) (Keeps.is rfl)
        · intro a w hb h
          have eg := (sw h 56 (by kernel_rfl) (by kernel_rfl)).eq
          have e7 : a.tmps.getD 7 undef = .int .u8 0 := sb h 7 (by kernel_rfl) (by kernel_rfl) rfl
          exact .val (wantg rfl (by kernel_rfl) eg) rfl (by simp [Act.eval, e7, go_sem]) (Keeps.is rfl)
        · intro a w hb h
          have eg := (sw h 56 (by kernel_rfl) (by kernel_rfl)).eq
          have e57 := (sw h 57 (by kernel_rfl) (by kernel_rfl)).eq
          exact .val (wantg rfl (by kernel_rfl) eg) rfl (by simp [Act.eval, e57, go_sem]) (Keeps.is rfl)
        · intro a w hb h
          have eg := (sw h 48 (by kernel_rfl) (by kernel_rfl)).eq
          have e56 := (sw h 56 (by kernel_rfl) (by kernel_rfl)).eq
          have e58 := (sw h 58 (by kernel_rfl) (by kernel_rfl)).eq
          exact .val (wantg rfl (by kernel_rfl) eg) rfl (by simp [Act.eval, e56, e58, go_sem]) (Keeps.is rfl)
        · intro a w hb h
          have eg := (sw h 29 (by kernel_rfl) (by kernel_rfl)).eq
          have e48 := (sw h 48 (by kernel_rfl) (by kernel_rfl)).eq
          have e59 := (sw h 59 (by kernel_rfl) (by kernel_rfl)).eq
          exact .val (wantg rfl (by kernel_rfl) eg) rfl (by simp [Act.eval, e48, e59, go_sem]) (Keeps.is rfl)
        · intro a w hb h
          have e29 := (sw h 29 (by kernel_rfl) (by kernel_rfl)).eq
          have e60 := (sw h 60 (by kernel_rfl) (by kernel_rfl)).eq
          exact .val (want0 rfl) rfl (by simp [Act.eval, e29, e60, go_sem]) (Keeps.is rfl)
        · intro a w hb h
          have e61 := (sw h 61 (by kernel_rfl) (by kernel_rfl)).eq
          exact .val (want0 rfl) rfl (by simp [Act.eval, e61, go_sem]) (Keeps.is rfl)
      · intro a w2 hd hb hv
        have er := hv.eq
        clear hv
        simp only [Exit.then]
        go_wp2
        exact ⟨hd, _, results_tmp rfl _ _ _, by rw [er], Hb1.out.trans (hb.mono Hb1.out.size)⟩
    · subst h30
      have h00 : 0 ≤ z := hz0
      go_enter Try.func5, Try.ntmps5
      go_wp2_with fail
      (with_reducible refine (few_2 A A3 n c 0 c3 w true Hfew.out.symm).mono ?_)
      rintro e w1 ⟨rfl, hw1⟩
      have hb1 : Below w.heap.size w w1 := by rw [← hw1]; exact (Below.refl _ w).alloc (Nat.le_refl _) _
      clear hw1
      have HL := hide (Hl.out.below (hb1.mono hB))
      have HL3 := hide (Hl3.out.below (hb1.mono hB))
      have Hb1 := hide hb1
      have hz := Nat.le_trans hB hb1.size
      clear hb1
      go_wp2_with fail
      (with_reducible refine (Hmc.out _ HL3.out).mono ?_)
      rintro e w2 ⟨rfl, rfl⟩
      have fp : ∀ W, Below w1.heap.size w1 W → Makes 19 #[.slice A n c, .slice A3 0 c3] W n (erasL l m) := fun W hW =>
        Makes.of (by rw [erasL_len]; exact Hn.out) (erase_any A A3 n c 0 c3 B l m W (HL.out.below (hW.mono hz)) Hn.out (by omega) (HL3.out.below (hW.mono hz)) Hn3.out (Nat.le_trans hz hW.size))
      have fr : ∀ W, Below w1.heap.size w1 W → Makes 20 #[.slice A n c, .slice A3 0 c3] W n (erasL l m) := fun W hW =>
        Makes.of (by rw [erasL_len]; exact Hn.out) (erase2_any A A3 n c 0 c3 B l m W (HL.out.below (hW.mono hz)) Hn.out (by omega) (HL3.out.below (hW.mono hz)) Hn3.out (by omega) (Nat.le_trans hz hW.size))
      have FP := hide fp
      have FR := hide fr
      clear fp fr
      go_upto_region 4 with fail
      refine wp_region_flow (by kernel_rfl) (fun d => if d = 6 then is (.bool true) else List.getD [is (.bool true), is (.bool true), is (.slice A n c), is (.slice A3 0 c3), SliceStr n (erasL l m), is (.string (str (erasL l m))), is (.slice A n c), is (.slice A3 0 c3), SliceStr n (erasL l m), is (.string (str (erasL l m))), is (.bool true), is (.bool true), is (.bool true), is (.int .i64 z), is (.bool true), is (.bool true), is (.slice A3 0 c3), is (.int .i64 (0 : Int)), is (.bool false), is (.bool false), is (.bool false), is (undef), is (undef), is (undef), is (undef), is (undef), is (undef), is (undef), is (undef), is (undef), is (.bool false), is (.bool false), is (.int .i64 z), is (.bool false), is (.bool false), is (.slice A3 0 c3), is (.int .i64 (0 : Int)), is (.bool true), is (.bool true), is (.bool true), is (.int .u8 0), is (.bool true), is (.bool true), is (.bool true), is (.bool true)] (d - 17) (fun _ _ => True)) 6 (by kernel_rfl) (by kernel_rfl) ?_ ?_
      · refine And.intro ?_ (And.intro ?_ (And.intro ?_ (And.intro ?_ (And.intro ?_ (And.intro ?_ (And.intro ?_ (And.intro ?_ (And.intro ?_ (And.intro ?_ (And.intro ?_ (And.intro ?_ (And.intro ?_ (And.intro ?_ (And.intro ?_ (And.intro ?_ (And.intro ?_ (And.intro ?_ (And.intro ?_ (And.intro ?_ (And.intro ?_ (And.intro ?_ (And.intro ?_ (And.intro ?_ (And.intro ?_ (And.intro ?_ (And.intro ?_ (And.intro ?_ (And.intro ?_ (And.intro ?_ (And.intro ?_ (And.intro ?_ (And.intro ?_ (And.intro ?_ (And.intro ?_ (And.intro ?_ (And.intro ?_ (And.intro ?_ (And.intro ?_ (And.intro ?_ (And.intro ?_ (And.intro ?_ (And.intro ?_ (And.intro ?_ (And.intro ?_ (And.intro ?_ trivial)))))))))))))))))))))))))))))))))))))))))))))
        · intro a w hb h
          exact .called (want0 rfl) rfl (by simp [go_sem]) (belowF (awake2_any w))
        · intro a w hb h
          have e17 := (sw h 17 (by kernel_rfl) (by kernel_rfl)).eq
          exact .val (want0 rfl) rfl (by simp [Act.eval, e17, go_sem]) (Keeps.is rfl)
        · intro a w hb h
          have eg := (sw h 18 (by kernel_rfl) (by kernel_rfl)).eq
          have e0 : a.tmps.getD 0 undef = .slice A n c := sb h 0 (by kernel_rfl) (by kernel_rfl) rfl
          exact .val (wantg rfl (by kernel_rfl) eg) rfl (by simp [Act.eval, e0, go_sem]) (Keeps.is rfl)
        · intro a w hb h
          have eg := (sw h 18 (by kernel_rfl) (by kernel_rfl)).eq
          have e1 : a.tmps.getD 1 undef = .slice A3 0 c3 := sb h 1 (by kernel_rfl) (by kernel_rfl) rfl
          exact .val (wantg rfl (by kernel_rfl) eg) rfl (by simp [Act.eval, e1, go_sem]) (Keeps.is rfl)
        · intro a w hb h
          have eg := (sw h 18 (by kernel_rfl) (by kernel_rfl)).eq
          have e19 := (sw h 19 (by kernel_rfl) (by kernel_rfl)).eq
          have e20 := (sw h 20 (by kernel_rfl) (by kernel_rfl)).eq
          exact .called (wantg rfl (by kernel_rfl) eg) rfl (by simp [Act.eval, e19, e20, go_sem]) (FP.out w hb)
        · intro a w hb h
          have eg := (sw h 18 (by kernel_rfl) (by kernel_rfl)).eq
          have e21 := sw h 21 (by kernel_rfl) (by kernel_rfl)
          obtain ⟨A', c', e', hc'⟩ := e21.now
          rw [e'] at hc'
          exact .val (wantg rfl (by kernel_rfl) eg) rfl (by simp [Act.eval, e', hc', go_sem]) (Keeps.is rfl)
        · intro a w hb h
          have eg := (sw h 18 (by kernel_rfl) (by kernel_rfl)).eq
          have e0 : a.tmps.getD 0 undef = .slice A n c := sb h 0 (by kernel_rfl) (by kernel_rfl) rfl
          exact .val (wantg rfl (by kernel_rfl) eg) rfl (by simp [Act.eval, e0, go_sem]) (Keeps.is rfl)
        · intro a w hb h
          have eg := (sw h 18 (by kernel_rfl) (by kernel_rfl)).eq
          have e1 : a.tmps.getD 1 undef = .slice A3 0 c3 := sb h 1 (by kernel_rfl) (by kernel_rfl) rfl
          exact .val (wantg rfl (by kernel_rfl) eg) rfl (by simp [Act.eval, e1, go_sem]) (Keeps.is rfl)
        · intro a w hb h
          have eg := (sw h 18 (by kernel_rfl) (by kernel_rfl)).eq
          have e23 := (sw h 23 (by kernel_rfl) (by kernel_rfl)).eq
          have e24 := (sw h 24 (by kernel_rfl) (by kernel_rfl)).eq
          exact .called (wantg rfl (by kernel_rfl) eg) rfl (by simp [Act.eval, e23, e24, go_sem]) (FR.out w hb)
        · intro a w hb h
          have eg := (sw h 18 (by kernel_rfl) (by kernel_rfl)).eq
          have e25 := sw h 25 (by kernel_rfl) (by kernel_rfl)
          obtain ⟨A', c', e', hc'⟩ := e25.now
          rw [e'] at hc'
          exact .val (wantg rfl (by kernel_rfl) eg) rfl (by simp [Act.eval, e', hc', go_sem]) (Keeps.is rfl)
        · intro a w hb h
          have eg := (sw h 18 (by kernel_rfl) (by kernel_rfl)).eq
          have e22 := (sw h 22 (by kernel_rfl) (by kernel_rfl)).eq
          have e26 := (sw h 26 (by kernel_rfl) (by kernel_rfl)).eq
          exact .val (wantg rfl (by kernel_rfl) eg) rfl (by simp [Act.eval, e22, e26, go_sem]) (Keeps.is rfl)
        · intro a w hb h
          have e18 := (sw h 18 (by kernel_rfl) (by kernel_rfl)).eq
          have e27 := (sw h 27 (by kernel_rfl) (by kernel_rfl)).eq
          exact .val (want0 rfl) rfl (by simp [Act.eval, e18, e27, go_sem]) (Keeps.is rfl)
        · intro a w hb h
          have e28 := (sw h 28 (by kernel_rfl) (by kernel_rfl)).eq
          exact .val (want0 rfl) rfl (by simp [Act.eval, e28, go_sem]) (Keeps.is rfl)
        · intro a w hb h
          have eg := (sw h 29 (by kernel_rfl) (by kernel_rfl)).eq
          have e2 : a.tmps.getD 2 undef = .int .i64 z := sb h 2 (by kernel_rfl) (by kernel_rfl) rfl
          exact .val (wantg rfl (by kernel_rfl) eg) rfl (by simp [Act.eval, e2, go_sem]) (Keeps.is rfl)
        · intro a w hb h
          have eg := (sw h 29 (by kernel_rfl) (by kernel_rfl)).eq
          have e30 := (sw h 30 (by kernel_rfl) (by kernel_rfl)).eq
          exact .val (wantg rfl (by kernel_rfl) eg) rfl (by simp [Act.eval, e30, h00, go_sem]) (Keeps.is rfl)
        · intro a w hb h
          have eg := (sw h 29 (by kernel_rfl) (by kernel_rfl)).eq
          have e31 := (sw h 31 (by kernel_rfl) (by kernel_rfl)).eq
          exact .val (wantg rfl (by kernel_rfl) eg) rfl (by simp [Act.eval, e31, go_sem]) (Keeps.is rfl)
        · intro a w hb h
          have eg := (sw h 32 (by kernel_rfl) (by kernel_rfl)).eq
          have e1 : a.tmps.getD 1 undef = .slice A3 0 c3 := sb h 1 (by kernel_rfl) (by kernel_rfl) rfl
          exact .val (wantg rfl (by kernel_rfl) eg) rfl (by simp [Act.eval, e1, go_sem]) (Keeps.is rfl)
        · intro a w hb h
          have eg := (sw h 32 (by kernel_rfl) (by kernel_rfl)).eq
          have e33 := (sw h 33 (by kernel_rfl) (by kernel_rfl)).eq
          exact .val (wantg rfl (by kernel_rfl) eg) rfl (by simp [Act.eval, e33, go_sem]) (Keeps.is rfl)
        · intro a w hb h
          have eg := (sw h 32 (by kernel_rfl) (by kernel_rfl)).eq
          have e34 := (sw h 34 (by kernel_rfl) (by kernel_rfl)).eq
          exact .val (wantg rfl (by kernel_rfl) eg) rfl (by simp [Act.eval, e34, go_sem]) (Keeps.is rfl)
        · intro a w hb h
          have eg := (sw h 29 (by kernel_rfl) (by kernel_rfl)).eq
          have e32 := (sw h 32 (by kernel_rfl) (by kernel_rfl)).eq
          have e35 := (sw h 35 (by kernel_rfl) (by kernel_rfl)).eq
          exact .val (wantg rfl (by kernel_rfl) eg) rfl (by simp [Act.eval, e32, e35, go_sem]) (Keeps.is rfl)
        · intro a w hb h
          have eg := (sw h 29 (by kernel_rfl) (by kernel_rfl)).eq
          have e36 := (sw h 36 (by kernel_rfl) (by kernel_rfl)).eq
          exact .val (wantg rfl (by kernel_rfl) eg) rfl (by simp [Act.eval, e36, go_sem]) (Keeps.is rfl)
        · intro a w hb h
          have eg := (sw h 37 (by kernel_rfl) (by kernel_rfl)).eq
          exact .off (idleg rfl (by kernel_rfl) eg rfl) rfl (Keeps.is rfl)
        · intro a w hb h
          have eg := (sw h 37 (by kernel_rfl) (by kernel_rfl)).eq
          exact .off (idleg rfl (by kernel_rfl) eg rfl) rfl (Keeps.is rfl)
        · intro a w hb h
          have eg := (sw h 37 (by kernel_rfl) (by kernel_rfl)).eq
          exact .off (idleg rfl (by kernel_rfl) eg rfl) rfl (Keeps.is rfl)
        · intro a w hb h
          have eg := (sw h 37 (by kernel_rfl) (by kernel_rfl)).eq
          exact .off (idleg rfl (by kernel_rfl) eg rfl) rfl (Keeps.is rfl)
        · intro a w hb h
          have eg := (sw h 37 (by kernel_rfl) (by kernel_rfl)).eq
          exact .off (idleg rfl (by kernel_rfl) eg rfl) rfl (Keeps.is rfl)
        · intro a w hb h
          have eg := (sw h 37 (by kernel_rfl) (by kernel_rfl)).eq
          exact .off (idleg rfl (by kernel_rfl) eg rfl) rfl (Keeps.is rfl)
        · intro a w hb h
          have eg := (sw h 37 (by kernel_rfl) (by kernel_rfl)).eq
          exact .off (idleg rfl (by kernel_rfl) eg rfl) rfl (Keeps.is rfl)
        · intro a w hb h
          have eg := (sw h 37 (by kernel_rfl) (by kernel_rfl)).eq
          exact .off (idleg rfl (by kernel_rfl) eg rfl) rfl (Keeps.is rfl)
        · intro a w hb h
          have eg := (sw h 37 (by kernel_rfl) (by kernel_rfl)).eq
          exact .off (idleg rfl (by kernel_rfl) eg rfl) rfl (Keeps.is rfl)
        · intro a w hb h
          have eg := (sw h 29 (by kernel_rfl) (by kernel_rfl)).eq
          have e37 := (sw h 37 (by kernel_rfl) (by kernel_rfl)).eq
          exact .val (wantg rfl (by kernel_rfl) eg) rfl (by simp [Act.eval, e37, go_sem]) (Keeps.is rfl)
        · intro a w hb h
          have eg := (sw h 29 (by kernel_rfl) (by kernel_rfl)).eq
          have e47 := (sw h 47 (by kernel_rfl) (by kernel_rfl)).eq
          exact .val (wantg rfl (by kernel_rfl) eg) rfl (by simp [Act.eval, e47, go_sem]) (Keeps.is rfl)
        · intro a w hb h
          have eg := (sw h 48 (by kernel_rfl) (by kernel_rfl)).eq
          have e2 : a.tmps.getD 2 undef = .int .i64 z := sb h 2 (by kernel_rfl) (by kernel_rfl) rfl
          exact .val (wantg rfl (by kernel_rfl) eg) rfl (by simp [Act.eval, e2, go_sem]) (Keeps.is rfl)
        · intro a w hb h
          have eg := (sw h 48 (by kernel_rfl) (by kernel_rfl)).eq
          have e49 := (sw h 49 (by kernel_rfl) (by kernel_rfl)).eq
          exact .val (wantg rfl (by kernel_rfl) eg) rfl (by simp [Act.eval, e49, h00, go_sem]) (Keeps.is rfl)
        · intro a w hb h
          have eg := (sw h 48 (by kernel_rfl) (by kernel_rfl)).eq
          have e50 := (sw h 50 (by kernel_rfl) (by kernel_rfl)).eq
          exact .val (wantg rfl (by kernel_rfl) eg) rfl (by simp [Act.eval, e50, go_sem]) (Keeps.is rfl)
        · intro a w hb h
          have eg := (sw h 51 (by kernel_rfl) (by kernel_rfl)).eq
          have e1 : a.tmps.getD 1 undef = .slice A3 0 c3 := sb h 1 (by kernel_rfl) (by kernel_rfl) rfl
          exact .val (wantg rfl (by kernel_rfl) eg) rfl (by simp [Act.eval, e1, go_sem]) (Keeps.is rfl)
        · intro a w hb h
          have eg := (sw h 51 (by kernel_rfl) (by kernel_rfl)).eq
          have e52 := (sw h 52 (by kernel_rfl) (by kernel_rfl)).eq
          exact .val (wantg rfl (by kernel_rfl) eg) rfl (by simp [Act.eval, e52, go_sem]) (Keeps.is rfl)
        · intro a w hb h
          have eg := (sw h 51 (by kernel_rfl) (by kernel_rfl)).eq
          have e53 := (sw h 53 (by kernel_rfl) (by kernel_rfl)).eq
          exact .val (wantg rfl (by kernel_rfl) eg) rfl (by simp [Act.eval, e53, go_sem]) (Keeps.is rfl)
        · intro a w hb h
          have eg := (sw h 48 (by kernel_rfl) (by kernel_rfl)).eq
          have e51 := (sw h 51 (by kernel_rfl) (by kernel_rfl)).eq
          have e54 := (sw h 54 (by kernel_rfl) (by kernel_rfl)).eq
          exact .val (wantg rfl (by kernel_rfl) eg) rfl (by simp [Act.eval, e51, e54, go_sem]) (Keeps.is rfl)
        · intro a w hb h
          have eg := (sw h 48 (by kernel_rfl) (by kernel_rfl)).eq
          have e55 := (sw h 55 (by kernel_rfl) (by kernel_rfl)).eq
          exact .val (wantg rfl (by kernel_rfl) eg) rfl (by simp [Act.eval, e55, go_sem]) (Keeps.is rfl)
        · intro a w hb h
          have eg := (sw h 56 (by kernel_rfl) (by kernel_rfl)).eq
          have e7 : a.tmps.getD 7 undef = .int .u8 0 := sb h 7 (by kernel_rfl) (by kernel_rfl) rfl
          exact .val (wantg rfl (by kernel_rfl) eg) rfl (by simp [Act.eval, e7, go_sem]) (Keeps.is rfl)
        · intro a w hb h
          have eg := (sw h 56 (by kernel_rfl) (by kernel_rfl)).eq
          have e57 := (sw h 57 (by kernel_rfl) (by kernel_rfl)).eq
          exact .val (wantg rfl (by kernel_rfl) eg) rfl (by simp [Act.eval, e57, go_sem]) (Keeps.is rfl)
        · intro a w hb h
          have eg := (sw h 48 (by kernel_rfl) (by kernel_rfl)).eq
          have e56 := (sw h 56 (by kernel_rfl) (by kernel_rfl)).eq
          have e58 := (sw h 58 (by kernel_rfl) (by kernel_rfl)).eq
          exact .val (wantg rfl (by kernel_rfl) eg) rfl (by simp [Act.eval, e56, e58, go_sem]) (Keeps.is rfl)
        · intro a w hb h
          have eg := (sw h 29 (by kernel_rfl) (by kernel_rfl)).eq
          have e48 := (sw h 48 (by kernel_rfl) (by kernel_rfl)).eq
          have e59 := (sw h 59 (by kernel_rfl) (by kernel_rfl)).eq
          exact .val (wantg rfl (by kernel_rfl) eg) rfl (by simp [Act.eval, e48, e59, go_sem]) (Keeps.is rfl)
        · intro a w hb h
          have e29 := (sw h 29 (by kernel_rfl) (by kernel_rfl)).eq
          have e60 := (sw h 60 (by kernel_rfl) (by kernel_rfl)).eq
          exact .val (want0 rfl) rfl (by simp [Act.eval, e29, e60, go_sem]) (Keeps.is rfl)
        · intro a w hb h
          have e61 := (sw h 61 (by kernel_rfl) (by kernel_rfl)).eq
          exact .val (want0 rfl) rfl (by simp [Act.eval, e61, go_sem]) (Keeps.is rfl)
      · intro a w2 hd hb hv
        have er := hv.eq
        clear hv
        simp only [Exit.then]
        go_wp2
        exact ⟨hd, _, results_tmp rfl _ _ _, by rw [er], Hb1.out.trans (hb.mono Hb1.out.size)⟩
  · have Hfew := hide (decide_eq_false hfew)
    go_enter Try.func5, Try.ntmps5
    go_wp2_with fail
    (with_reducible refine (few_2 A A3 n c n3 c3 w false Hfew.out.symm).mono ?_)
    rintro e w1 ⟨rfl, hw1⟩
    have Hb1 := hide (show Below w.heap.size w w1 by rw [← hw1]; exact (Below.refl _ w).alloc (Nat.le_refl _) _)
    clear hw1
    go_wp2_with fail
    refine (awake2_any _).mono ?_
    rintro e w2 ⟨rfl, hb2⟩
    have Hb2 := hide (Hb1.out.trans (hb2.mono Hb1.out.size))
    clear hb2
    go_wp2
    go_ret
    exact ⟨rfl, Hb2.out⟩
end Go.Proofs.Ytbcplfdbnfmhoaa
