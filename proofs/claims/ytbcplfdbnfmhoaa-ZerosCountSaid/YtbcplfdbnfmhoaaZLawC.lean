/-
  The walk of ZerosCount.
-/
import Derived.Test.YtbcplfdbnfmhoaaZLawP
import Derived.Test.YtbcplfdbnfmhoaaLow
namespace Go.Proofs.Ytbcplfdbnfmhoaa
open Go.RowKit

/-- Ones of the plain answer, of any small number. -/
theorem ones2_int (z : Int) (w : World) (hz : z ≤ 1000) : Calls Try.prog 15 #[.int .i64 z] w fun e w' => ∃ A' c', e = .returned (.slice A' z.toNat c') ∧
      w'.ownsRow w.heap.size 5 1 (.slice A' z.toNat c') z.toNat (bys (List.replicate z.toNat 255)) ∧ Below w.heap.size w w' := by
  by_cases h : 0 ≤ z
  · obtain ⟨k, rfl⟩ := Int.eq_ofNat_of_zero_le h
    exact ones2_any k w (by omega)
  · rw [show z.toNat = 0 by omega]
    have h0 : ¬ (0 : Int) < z := by omega
    go_enter Try.func15, Try.ntmps15
    go_wp2
    go_loop [3, 4] (fun o i => o = .slice none 0 0 ∧ i = .int .i64 0) (fun _ _ => 0)
    case atStart => exact ⟨rfl, rfl⟩
    case round =>
      obtain ⟨rfl, rfl⟩ := hrel
      go_wp2
      go_ret
      exact ⟨none, 0, rfl, World.ownsRow_nil _ _ _ _, Below.refl _ _⟩

set_option maxHeartbeats 4000000 in
theorem zerosCount_low (A : Option Addr) (n c B : Nat) (l : List UInt8) (z : Int) (w : World) (Hl : Hid (Lies w B A (bys l))) (Hn : Hid (n = l.length)) (hB : B ≤ w.heap.size) (hfew : n ≤ 60) (Hfew : Hid (decide (n ≤ 60) = true)) (hzz : z ≤ 100) :
    Calls Try.prog 3 #[.slice A n c, .int .i64 z] w fun e w' => e = .returned (.bool true) ∧ Below w.heap.size w w' := by
  obtain ⟨x, hx⟩ : ∃ x, x = (min (max z 0) 1048576).toNat := ⟨_, rfl⟩
  have hx2 : max (min z 1048576) 0 = (x : Int) := by omega
  have Hx := hide hx
  have Hx2 := hide hx2
  obtain ⟨k, hk⟩ : ∃ k, k = zc l (8 * l.length) := ⟨_, rfl⟩
  have Hk := hide hk
  have Hkb := hide (show (zc l (8 * l.length) == 0) = ((k : Int) == 0) by rw [hk, Bool.eq_iff_iff]; simp)
  clear hx hx2 hk
  go_enter Try.func3, Try.ntmps3
  go_wp2_with fail
  (with_reducible refine (few_1 A n c w true Hfew.out.symm).mono ?_)
  rintro e w1 ⟨rfl, hw1⟩
  have hb1 : Below w.heap.size w w1 := by rw [← hw1]; exact (Below.refl _ w).alloc (Nat.le_refl _) _
  clear hw1
  have HL := hide (Hl.out.below (hb1.mono hB))
  have Hb1 := hide hb1
  have hz := Nat.le_trans hB hb1.size
  clear hb1
  go_wp2_with fail
  (with_reducible refine (low_any z 1048576 _).mono ?_)
  rintro e w2 ⟨rfl, rfl⟩
  go_wp2_with fail
  (with_reducible refine (high_any _ 0 _).mono ?_)
  rintro e w2 ⟨he, rfl⟩
  rw [Hx2.out] at he
  subst he
  have fc : ∀ W, Below w1.heap.size w1 W → Calls Try.prog 11 #[.slice A n c] W fun e w' => e = .returned (.int .i64 (k : Int)) ∧ W = w' := fun W hW => by
    rw [Hk.out]; exact count_any A n c B l W (HL.out.below (hW.mono hz)) Hn.out (by omega)
  have fc2 : ∀ W, Below w1.heap.size w1 W → Calls Try.prog 12 #[.slice A n c] W fun e w' => e = .returned (.int .i64 (k : Int)) ∧ W = w' := fun W hW => by
    rw [Hk.out]; exact count2_any A n c B l W (HL.out.below (hW.mono hz)) Hn.out (by omega)
  have fb : ∀ W, Below w1.heap.size w1 W → Calls Try.prog 13 #[.slice A n c] W fun e w' => e = .returned (.bool ((k : Int) == 0)) ∧ W = w' := fun W hW => by
    rw [← Hkb.out]; exact blank_any A n c B l W (HL.out.below (hW.mono hz)) Hn.out (by omega)
  have fo : ∀ W, Below w1.heap.size w1 W → Makes 14 #[.int .i64 z] W x (List.replicate x 255) := fun W hW => by
    rw [Hx.out]
    exact (ones_any z W).mono fun _ _ ⟨A', c', he, hl', hb'⟩ => ⟨_, he, hb', fun _ hW' => ⟨A', c', rfl, strU8 c' (hl'.below hW') (by simp)⟩⟩
  have fo2 : z ≤ 100 → ∀ W, Below w1.heap.size w1 W → Makes 15 #[.int .i64 z] W x (List.replicate x 255) := fun h100 W hW => by
    rw [show x = z.toNat by have := Hx.out; omega]
    exact Makes.of (by simp) (ones2_int z W (by omega))
  have FC := hide fc
  have FC2 := hide fc2
  have FB := hide fb
  have FO := hide fo
  have FO2 := hide fo2
  clear fc fc2 fb fo fo2
  have h100 : ¬ 100 < z := by omega
  go_upto_region 4 with fail
  refine wp_region_flow (by kernel_rfl) (fun d => if d = 4 then is (.bool true) else List.getD [is (.bool true), is (.bool true), is (.slice A n c), is (.int .i64 (k : Int)), is (.slice A n c), is (.int .i64 (k : Int)), is (.bool true), is (.bool true), is (.bool true), is (.slice A n c), is (.bool ((k : Int) == 0)), is (.slice A n c), is (.int .i64 (k : Int)), is (.bool ((k : Int) == 0)), is (.bool true), is (.bool true), is (.bool true), is (.int .i64 z), SliceStr x (List.replicate x 255), is (.int .i64 (x : Int)), is (.int .i64 (x : Int)), is (.bool true), is (.bool true), is (.bool true), is (.int .i64 z), is (.bool false), is (.bool false), is (.int .i64 z), SliceStr x (List.replicate x 255), is (.string (str (List.replicate x 255))), is (.int .i64 z), SliceStr x (List.replicate x 255), is (.string (str (List.replicate x 255))), is (.bool true), is (.bool true), is (.bool true)] (d - 22) (fun _ _ => True)) 4 (by kernel_rfl) (by kernel_rfl) ?_ ?_
  · refine And.intro ?_ (And.intro ?_ (And.intro ?_ (And.intro ?_ (And.intro ?_ (And.intro ?_ (And.intro ?_ (And.intro ?_ (And.intro ?_ (And.intro ?_ (And.intro ?_ (And.intro ?_ (And.intro ?_ (And.intro ?_ (And.intro ?_ (And.intro ?_ (And.intro ?_ (And.intro ?_ (And.intro ?_ (And.intro ?_ (And.intro ?_ (And.intro ?_ (And.intro ?_ (And.intro ?_ (And.intro ?_ (And.intro ?_ (And.intro ?_ (And.intro ?_ (And.intro ?_ (And.intro ?_ (And.intro ?_ (And.intro ?_ (And.intro ?_ (And.intro ?_ (And.intro ?_ (And.intro ?_ (And.intro ?_ trivial))))))))))))))))))))))))))))))))))))
    · intro a w hb h
      exact .called (want0 rfl) rfl (by simp [go_sem]) (belowF (awake2_any w))
    · intro a w hb h
      have e22 := (sw h 22 (by kernel_rfl) (by kernel_rfl)).eq
      exact .val (want0 rfl) rfl (by simp [Act.eval, e22, go_sem]) (Keeps.is rfl)
    · intro a w hb h
      have eg := (sw h 23 (by kernel_rfl) (by kernel_rfl)).eq
      have e0 : a.tmps.getD 0 undef = .slice A n c := sb h 0 (by kernel_rfl) (by kernel_rfl) rfl
      exact .val (wantg rfl (by kernel_rfl) eg) rfl (by simp [Act.eval, e0, go_sem]) (Keeps.is rfl)
    · intro a w hb h
      have eg := (sw h 23 (by kernel_rfl) (by kernel_rfl)).eq
      have e24 := (sw h 24 (by kernel_rfl) (by kernel_rfl)).eq
      exact .called (wantg rfl (by kernel_rfl) eg) rfl (by simp [Act.eval, e24, go_sem]) (quietF (FC.out w hb))
    · intro a w hb h
      have eg := (sw h 23 (by kernel_rfl) (by kernel_rfl)).eq
      have e0 : a.tmps.getD 0 undef = .slice A n c := sb h 0 (by kernel_rfl) (by kernel_rfl) rfl
      exact .val (wantg rfl (by kernel_rfl) eg) rfl (by simp [Act.eval, e0, go_sem]) (Keeps.is rfl)
    · intro a w hb h
      have eg := (sw h 23 (by kernel_rfl) (by kernel_rfl)).eq
      have e26 := (sw h 26 (by kernel_rfl) (by kernel_rfl)).eq
      exact .called (wantg rfl (by kernel_rfl) eg) rfl (by simp [Act.eval, e26, go_sem]) (quietF (FC2.out w hb))
    · intro a w hb h
      have eg := (sw h 23 (by kernel_rfl) (by kernel_rfl)).eq
      have e25 := (sw h 25 (by kernel_rfl) (by kernel_rfl)).eq
      have e27 := (sw h 27 (by kernel_rfl) (by kernel_rfl)).eq
      exact .val (wantg rfl (by kernel_rfl) eg) rfl (by simp [Act.eval, e25, e27, go_sem]) (Keeps.is rfl)
    · intro a w hb h
      have e23 := (sw h 23 (by kernel_rfl) (by kernel_rfl)).eq
      have e28 := (sw h 28 (by kernel_rfl) (by kernel_rfl)).eq
      exact .val (want0 rfl) rfl (by simp [Act.eval, e23, e28, go_sem]) (Keeps.is rfl)
    · intro a w hb h
      have e29 := (sw h 29 (by kernel_rfl) (by kernel_rfl)).eq
      exact .val (want0 rfl) rfl (by simp [Act.eval, e29, go_sem]) (Keeps.is rfl)
    · intro a w hb h
      have eg := (sw h 30 (by kernel_rfl) (by kernel_rfl)).eq
      have e0 : a.tmps.getD 0 undef = .slice A n c := sb h 0 (by kernel_rfl) (by kernel_rfl) rfl
      exact .val (wantg rfl (by kernel_rfl) eg) rfl (by simp [Act.eval, e0, go_sem]) (Keeps.is rfl)
    · intro a w hb h
      have eg := (sw h 30 (by kernel_rfl) (by kernel_rfl)).eq
      have e31 := (sw h 31 (by kernel_rfl) (by kernel_rfl)).eq
      exact .called (wantg rfl (by kernel_rfl) eg) rfl (by simp [Act.eval, e31, go_sem]) (quietF (FB.out w hb))
    · intro a w hb h
      have eg := (sw h 30 (by kernel_rfl) (by kernel_rfl)).eq
      have e0 : a.tmps.getD 0 undef = .slice A n c := sb h 0 (by kernel_rfl) (by kernel_rfl) rfl
      exact .val (wantg rfl (by kernel_rfl) eg) rfl (by simp [Act.eval, e0, go_sem]) (Keeps.is rfl)
    · intro a w hb h
      have eg := (sw h 30 (by kernel_rfl) (by kernel_rfl)).eq
      have e33 := (sw h 33 (by kernel_rfl) (by kernel_rfl)).eq
      exact .called (wantg rfl (by kernel_rfl) eg) rfl (by simp [Act.eval, e33, go_sem]) (quietF (FC2.out w hb))
    · intro a w hb h
      have eg := (sw h 30 (by kernel_rfl) (by kernel_rfl)).eq
      have e34 := (sw h 34 (by kernel_rfl) (by kernel_rfl)).eq
      exact .val (wantg rfl (by kernel_rfl) eg) rfl (by simp [Act.eval, e34, go_sem]) (Keeps.is rfl)
    · intro a w hb h
      have eg := (sw h 30 (by kernel_rfl) (by kernel_rfl)).eq
      have e32 := (sw h 32 (by kernel_rfl) (by kernel_rfl)).eq
      have e35 := (sw h 35 (by kernel_rfl) (by kernel_rfl)).eq
      exact .val (wantg rfl (by kernel_rfl) eg) rfl (by simp [Act.eval, e32, e35, go_sem]) (Keeps.is rfl)
    · intro a w hb h
      have e30 := (sw h 30 (by kernel_rfl) (by kernel_rfl)).eq
      have e36 := (sw h 36 (by kernel_rfl) (by kernel_rfl)).eq
      exact .val (want0 rfl) rfl (by simp [Act.eval, e30, e36, go_sem]) (Keeps.is rfl)
    · intro a w hb h
      have e37 := (sw h 37 (by kernel_rfl) (by kernel_rfl)).eq
      exact .val (want0 rfl) rfl (by simp [Act.eval, e37, go_sem]) (Keeps.is rfl)
    · intro a w hb h
      have eg := (sw h 38 (by kernel_rfl) (by kernel_rfl)).eq
      have e1 : a.tmps.getD 1 undef = .int .i64 z := sb h 1 (by kernel_rfl) (by kernel_rfl) rfl
      exact .val (wantg rfl (by kernel_rfl) eg) rfl (by simp [Act.eval, e1, go_sem]) (Keeps.is rfl)
    · intro a w hb h
      have eg := (sw h 38 (by kernel_rfl) (by kernel_rfl)).eq
      have e39 := (sw h 39 (by kernel_rfl) (by kernel_rfl)).eq
      exact .called (wantg rfl (by kernel_rfl) eg) rfl (by simp [Act.eval, e39, go_sem]) (FO.out w hb)
    · intro a w hb h
      have eg := (sw h 38 (by kernel_rfl) (by kernel_rfl)).eq
      have e40 := sw h 40 (by kernel_rfl) (by kernel_rfl)
      obtain ⟨A', c', e', _⟩ := e40.now
      exact .val (wantg rfl (by kernel_rfl) eg) rfl (by simp [Act.eval, e', go_sem]) (Keeps.is rfl)
    · intro a w hb h
      have eg := (sw h 38 (by kernel_rfl) (by kernel_rfl)).eq
      have e5 : a.tmps.getD 5 undef = .int .i64 (x : Int) := sb h 5 (by kernel_rfl) (by kernel_rfl) rfl
      exact .val (wantg rfl (by kernel_rfl) eg) rfl (by simp [Act.eval, e5, go_sem]) (Keeps.is rfl)
    · intro a w hb h
      have eg := (sw h 38 (by kernel_rfl) (by kernel_rfl)).eq
      have e41 := (sw h 41 (by kernel_rfl) (by kernel_rfl)).eq
      have e42 := (sw h 42 (by kernel_rfl) (by kernel_rfl)).eq
      exact .val (wantg rfl (by kernel_rfl) eg) rfl (by simp [Act.eval, e41, e42, go_sem]) (Keeps.is rfl)
    · intro a w hb h
      have e38 := (sw h 38 (by kernel_rfl) (by kernel_rfl)).eq
      have e43 := (sw h 43 (by kernel_rfl) (by kernel_rfl)).eq
      exact .val (want0 rfl) rfl (by simp [Act.eval, e38, e43, go_sem]) (Keeps.is rfl)
    · intro a w hb h
      have e44 := (sw h 44 (by kernel_rfl) (by kernel_rfl)).eq
      exact .val (want0 rfl) rfl (by simp [Act.eval, e44, go_sem]) (Keeps.is rfl)
    · intro a w hb h
      have eg := (sw h 45 (by kernel_rfl) (by kernel_rfl)).eq
      have e1 : a.tmps.getD 1 undef = .int .i64 z := sb h 1 (by kernel_rfl) (by kernel_rfl) rfl
      exact .val (wantg rfl (by kernel_rfl) eg) rfl (by simp [Act.eval, e1, go_sem]) (Keeps.is rfl)
    · intro a w hb h
      have eg := (sw h 45 (by kernel_rfl) (by kernel_rfl)).eq
      have e46 := (sw h 46 (by kernel_rfl) (by kernel_rfl)).eq
      exact .val (wantg rfl (by kernel_rfl) eg) rfl (by simp [Act.eval, e46, h100, go_sem]) (Keeps.is rfl)
    · intro a w hb h
      have eg := (sw h 45 (by kernel_rfl) (by kernel_rfl)).eq
      have e47 := (sw h 47 (by kernel_rfl) (by kernel_rfl)).eq
      exact .val (wantg rfl (by kernel_rfl) eg) rfl (by simp [Act.eval, e47, go_sem]) (Keeps.is rfl)
    · intro a w hb h
      have eg := (sw h 48 (by kernel_rfl) (by kernel_rfl)).eq
      have e1 : a.tmps.getD 1 undef = .int .i64 z := sb h 1 (by kernel_rfl) (by kernel_rfl) rfl
      exact .val (wantg rfl (by kernel_rfl) eg) rfl (by simp [Act.eval, e1, go_sem]) (Keeps.is rfl)
    · intro a w hb h
      have eg := (sw h 48 (by kernel_rfl) (by kernel_rfl)).eq
      have e49 := (sw h 49 (by kernel_rfl) (by kernel_rfl)).eq
      exact .called (wantg rfl (by kernel_rfl) eg) rfl (by simp [Act.eval, e49, go_sem]) (FO.out w hb)
    · intro a w hb h
      have eg := (sw h 48 (by kernel_rfl) (by kernel_rfl)).eq
      have e50 := sw h 50 (by kernel_rfl) (by kernel_rfl)
      obtain ⟨A', c', e', hc'⟩ := e50.now
      rw [e'] at hc'
      exact .val (wantg rfl (by kernel_rfl) eg) rfl (by simp [Act.eval, e', hc', go_sem]) (Keeps.is rfl)
    · intro a w hb h
      have eg := (sw h 48 (by kernel_rfl) (by kernel_rfl)).eq
      have e1 : a.tmps.getD 1 undef = .int .i64 z := sb h 1 (by kernel_rfl) (by kernel_rfl) rfl
      exact .val (wantg rfl (by kernel_rfl) eg) rfl (by simp [Act.eval, e1, go_sem]) (Keeps.is rfl)
    · intro a w hb h
      have eg := (sw h 48 (by kernel_rfl) (by kernel_rfl)).eq
      have e52 := (sw h 52 (by kernel_rfl) (by kernel_rfl)).eq
      exact .called (wantg rfl (by kernel_rfl) eg) rfl (by simp [Act.eval, e52, go_sem]) (FO2.out hzz w hb)
    · intro a w hb h
      have eg := (sw h 48 (by kernel_rfl) (by kernel_rfl)).eq
      have e53 := sw h 53 (by kernel_rfl) (by kernel_rfl)
      obtain ⟨A', c', e', hc'⟩ := e53.now
      rw [e'] at hc'
      exact .val (wantg rfl (by kernel_rfl) eg) rfl (by simp [Act.eval, e', hc', go_sem]) (Keeps.is rfl)
    · intro a w hb h
      have eg := (sw h 48 (by kernel_rfl) (by kernel_rfl)).eq
      have e51 := (sw h 51 (by kernel_rfl) (by kernel_rfl)).eq
      have e54 := (sw h 54 (by kernel_rfl) (by kernel_rfl)).eq
      exact .val (wantg rfl (by kernel_rfl) eg) rfl (by simp [Act.eval, e51, e54, go_sem]) (Keeps.is rfl)
    · intro a w hb h
      have eg := (sw h 45 (by kernel_rfl) (by kernel_rfl)).eq
      have e48 := (sw h 48 (by kernel_rfl) (by kernel_rfl)).eq
      have e55 := (sw h 55 (by kernel_rfl) (by kernel_rfl)).eq
      exact .val (wantg rfl (by kernel_rfl) eg) rfl (by simp [Act.eval, e48, e55, go_sem]) (Keeps.is rfl)
    · intro a w hb h
      have e45 := (sw h 45 (by kernel_rfl) (by kernel_rfl)).eq
      have e56 := (sw h 56 (by kernel_rfl) (by kernel_rfl)).eq
      exact .val (want0 rfl) rfl (by simp [Act.eval, e45, e56, go_sem]) (Keeps.is rfl)
    · intro a w hb h
      have e57 := (sw h 57 (by kernel_rfl) (by kernel_rfl)).eq
      exact .val (want0 rfl) rfl (by simp [Act.eval, e57, go_sem]) (Keeps.is rfl)
  · intro a w2 hd hb hv
    have er := hv.eq
    clear hv
    simp only [Exit.then]
    go_wp2
    exact ⟨hd, _, results_tmp rfl _ _ _, by rw [er], Hb1.out.trans (hb.mono Hb1.out.size)⟩

set_option maxHeartbeats 4000000 in
theorem zerosCount_high (A : Option Addr) (n c B : Nat) (l : List UInt8) (z : Int) (w : World) (Hl : Hid (Lies w B A (bys l))) (Hn : Hid (n = l.length)) (hB : B ≤ w.heap.size) (hfew : n ≤ 60) (Hfew : Hid (decide (n ≤ 60) = true)) (hzz : 1048576 < z) :
    Calls Try.prog 3 #[.slice A n c, .int .i64 z] w fun e w' => e = .returned (.bool true) ∧ Below w.heap.size w w' := by
  obtain ⟨x, hx⟩ : ∃ x, x = (min (max z 0) 1048576).toNat := ⟨_, rfl⟩
  have hx2 : max (min z 1048576) 0 = (x : Int) := by omega
  have Hx := hide hx
  have Hx2 := hide hx2
  obtain ⟨k, hk⟩ : ∃ k, k = zc l (8 * l.length) := ⟨_, rfl⟩
  have Hk := hide hk
  have Hkb := hide (show (zc l (8 * l.length) == 0) = ((k : Int) == 0) by rw [hk, Bool.eq_iff_iff]; simp)
  clear hx hx2 hk
  go_enter Try.func3, Try.ntmps3
  go_wp2_with fail
  (with_reducible refine (few_1 A n c w true Hfew.out.symm).mono ?_)
  rintro e w1 ⟨rfl, hw1⟩
  have hb1 : Below w.heap.size w w1 := by rw [← hw1]; exact (Below.refl _ w).alloc (Nat.le_refl _) _
  clear hw1
  have HL := hide (Hl.out.below (hb1.mono hB))
  have Hb1 := hide hb1
  have hz := Nat.le_trans hB hb1.size
  clear hb1
  go_wp2_with fail
  (with_reducible refine (low_any z 1048576 _).mono ?_)
  rintro e w2 ⟨rfl, rfl⟩
  go_wp2_with fail
  (with_reducible refine (high_any _ 0 _).mono ?_)
  rintro e w2 ⟨he, rfl⟩
  rw [Hx2.out] at he
  subst he
  have fc : ∀ W, Below w1.heap.size w1 W → Calls Try.prog 11 #[.slice A n c] W fun e w' => e = .returned (.int .i64 (k : Int)) ∧ W = w' := fun W hW => by
    rw [Hk.out]; exact count_any A n c B l W (HL.out.below (hW.mono hz)) Hn.out (by omega)
  have fc2 : ∀ W, Below w1.heap.size w1 W → Calls Try.prog 12 #[.slice A n c] W fun e w' => e = .returned (.int .i64 (k : Int)) ∧ W = w' := fun W hW => by
    rw [Hk.out]; exact count2_any A n c B l W (HL.out.below (hW.mono hz)) Hn.out (by omega)
  have fb : ∀ W, Below w1.heap.size w1 W → Calls Try.prog 13 #[.slice A n c] W fun e w' => e = .returned (.bool ((k : Int) == 0)) ∧ W = w' := fun W hW => by
    rw [← Hkb.out]; exact blank_any A n c B l W (HL.out.below (hW.mono hz)) Hn.out (by omega)
  have fo : ∀ W, Below w1.heap.size w1 W → Makes 14 #[.int .i64 z] W x (List.replicate x 255) := fun W hW => by
    rw [Hx.out]
    exact (ones_any z W).mono fun _ _ ⟨A', c', he, hl', hb'⟩ => ⟨_, he, hb', fun _ hW' => ⟨A', c', rfl, strU8 c' (hl'.below hW') (by simp)⟩⟩
  have fo2 : z ≤ 100 → ∀ W, Below w1.heap.size w1 W → Makes 15 #[.int .i64 z] W x (List.replicate x 255) := fun h100 W hW => by
    rw [show x = z.toNat by have := Hx.out; omega]
    exact Makes.of (by simp) (ones2_int z W (by omega))
  have FC := hide fc
  have FC2 := hide fc2
  have FB := hide fb
  have FO := hide fo
  have FO2 := hide fo2
  clear fc fc2 fb fo fo2
  have h100 : 100 < z := by omega
  go_upto_region 4 with fail
  refine wp_region_flow (by kernel_rfl) (fun d => if d = 4 then is (.bool true) else List.getD [is (.bool true), is (.bool true), is (.slice A n c), is (.int .i64 (k : Int)), is (.slice A n c), is (.int .i64 (k : Int)), is (.bool true), is (.bool true), is (.bool true), is (.slice A n c), is (.bool ((k : Int) == 0)), is (.slice A n c), is (.int .i64 (k : Int)), is (.bool ((k : Int) == 0)), is (.bool true), is (.bool true), is (.bool true), is (.int .i64 z), SliceStr x (List.replicate x 255), is (.int .i64 (x : Int)), is (.int .i64 (x : Int)), is (.bool true), is (.bool true), is (.bool true), is (.int .i64 z), is (.bool true), is (.bool true), is (undef), is (undef), is (undef), is (undef), is (undef), is (undef), is (undef), is (.bool true), is (.bool true)] (d - 22) (fun _ _ => True)) 4 (by kernel_rfl) (by kernel_rfl) ?_ ?_
  · refine And.intro ?_ (And.intro ?_ (And.intro ?_ (And.intro ?_ (And.intro ?_ (And.intro ?_ (And.intro ?_ (And.intro ?_ (And.intro ?_ (And.intro ?_ (And.intro ?_ (And.intro ?_ (And.intro ?_ (And.intro ?_ (And.intro ?_ (And.intro ?_ (And.intro ?_ (And.intro ?_ (And.intro ?_ (And.intro ?_ (And.intro ?_ (And.intro ?_ (And.intro ?_ (And.intro ?_ (And.intro ?_ (And.intro ?_ (And.intro ?_ (And.intro ?_ (And.intro ?_ (And.intro ?_ (And.intro ?_ (And.intro ?_ (And.intro ?_ (And.intro ?_ (And.intro ?_ (And.intro ?_ (And.intro ?_ trivial))))))))))))))))))))))))))))))))))))
    · intro a w hb h
      exact .called (want0 rfl) rfl (by simp [go_sem]) (belowF (awake2_any w))
    · intro a w hb h
      have e22 := (sw h 22 (by kernel_rfl) (by kernel_rfl)).eq
      exact .val (want0 rfl) rfl (by simp [Act.eval, e22, go_sem]) (Keeps.is rfl)
    · intro a w hb h
      have eg := (sw h 23 (by kernel_rfl) (by kernel_rfl)).eq
      have e0 : a.tmps.getD 0 undef = .slice A n c := sb h 0 (by kernel_rfl) (by kernel_rfl) rfl
      exact .val (wantg rfl (by kernel_rfl) eg) rfl (by simp [Act.eval, e0, go_sem]) (Keeps.is rfl)
    · intro a w hb h
      have eg := (sw h 23 (by kernel_rfl) (by kernel_rfl)).eq
      have e24 := (sw h 24 (by kernel_rfl) (by kernel_rfl)).eq
      exact .called (wantg rfl (by kernel_rfl) eg) rfl (by simp [Act.eval, e24, go_sem]) (quietF (FC.out w hb))
    · intro a w hb h
      have eg := (sw h 23 (by kernel_rfl) (by kernel_rfl)).eq
      have e0 : a.tmps.getD 0 undef = .slice A n c := sb h 0 (by kernel_rfl) (by kernel_rfl) rfl
      exact .val (wantg rfl (by kernel_rfl) eg) rfl (by simp [Act.eval, e0, go_sem]) (Keeps.is rfl)
    · intro a w hb h
      have eg := (sw h 23 (by kernel_rfl) (by kernel_rfl)).eq
      have e26 := (sw h 26 (by kernel_rfl) (by kernel_rfl)).eq
      exact .called (wantg rfl (by kernel_rfl) eg) rfl (by simp [Act.eval, e26, go_sem]) (quietF (FC2.out w hb))
    · intro a w hb h
      have eg := (sw h 23 (by kernel_rfl) (by kernel_rfl)).eq
      have e25 := (sw h 25 (by kernel_rfl) (by kernel_rfl)).eq
      have e27 := (sw h 27 (by kernel_rfl) (by kernel_rfl)).eq
      exact .val (wantg rfl (by kernel_rfl) eg) rfl (by simp [Act.eval, e25, e27, go_sem]) (Keeps.is rfl)
    · intro a w hb h
      have e23 := (sw h 23 (by kernel_rfl) (by kernel_rfl)).eq
      have e28 := (sw h 28 (by kernel_rfl) (by kernel_rfl)).eq
      exact .val (want0 rfl) rfl (by simp [Act.eval, e23, e28, go_sem]) (Keeps.is rfl)
    · intro a w hb h
      have e29 := (sw h 29 (by kernel_rfl) (by kernel_rfl)).eq
      exact .val (want0 rfl) rfl (by simp [Act.eval, e29, go_sem]) (Keeps.is rfl)
    · intro a w hb h
      have eg := (sw h 30 (by kernel_rfl) (by kernel_rfl)).eq
      have e0 : a.tmps.getD 0 undef = .slice A n c := sb h 0 (by kernel_rfl) (by kernel_rfl) rfl
      exact .val (wantg rfl (by kernel_rfl) eg) rfl (by simp [Act.eval, e0, go_sem]) (Keeps.is rfl)
    · intro a w hb h
      have eg := (sw h 30 (by kernel_rfl) (by kernel_rfl)).eq
      have e31 := (sw h 31 (by kernel_rfl) (by kernel_rfl)).eq
      exact .called (wantg rfl (by kernel_rfl) eg) rfl (by simp [Act.eval, e31, go_sem]) (quietF (FB.out w hb))
    · intro a w hb h
      have eg := (sw h 30 (by kernel_rfl) (by kernel_rfl)).eq
      have e0 : a.tmps.getD 0 undef = .slice A n c := sb h 0 (by kernel_rfl) (by kernel_rfl) rfl
      exact .val (wantg rfl (by kernel_rfl) eg) rfl (by simp [Act.eval, e0, go_sem]) (Keeps.is rfl)
    · intro a w hb h
      have eg := (sw h 30 (by kernel_rfl) (by kernel_rfl)).eq
      have e33 := (sw h 33 (by kernel_rfl) (by kernel_rfl)).eq
      exact .called (wantg rfl (by kernel_rfl) eg) rfl (by simp [Act.eval, e33, go_sem]) (quietF (FC2.out w hb))
    · intro a w hb h
      have eg := (sw h 30 (by kernel_rfl) (by kernel_rfl)).eq
      have e34 := (sw h 34 (by kernel_rfl) (by kernel_rfl)).eq
      exact .val (wantg rfl (by kernel_rfl) eg) rfl (by simp [Act.eval, e34, go_sem]) (Keeps.is rfl)
    · intro a w hb h
      have eg := (sw h 30 (by kernel_rfl) (by kernel_rfl)).eq
      have e32 := (sw h 32 (by kernel_rfl) (by kernel_rfl)).eq
      have e35 := (sw h 35 (by kernel_rfl) (by kernel_rfl)).eq
      exact .val (wantg rfl (by kernel_rfl) eg) rfl (by simp [Act.eval, e32, e35, go_sem]) (Keeps.is rfl)
    · intro a w hb h
      have e30 := (sw h 30 (by kernel_rfl) (by kernel_rfl)).eq
      have e36 := (sw h 36 (by kernel_rfl) (by kernel_rfl)).eq
      exact .val (want0 rfl) rfl (by simp [Act.eval, e30, e36, go_sem]) (Keeps.is rfl)
    · intro a w hb h
      have e37 := (sw h 37 (by kernel_rfl) (by kernel_rfl)).eq
      exact .val (want0 rfl) rfl (by simp [Act.eval, e37, go_sem]) (Keeps.is rfl)
    · intro a w hb h
      have eg := (sw h 38 (by kernel_rfl) (by kernel_rfl)).eq
      have e1 : a.tmps.getD 1 undef = .int .i64 z := sb h 1 (by kernel_rfl) (by kernel_rfl) rfl
      exact .val (wantg rfl (by kernel_rfl) eg) rfl (by simp [Act.eval, e1, go_sem]) (Keeps.is rfl)
    · intro a w hb h
      have eg := (sw h 38 (by kernel_rfl) (by kernel_rfl)).eq
      have e39 := (sw h 39 (by kernel_rfl) (by kernel_rfl)).eq
      exact .called (wantg rfl (by kernel_rfl) eg) rfl (by simp [Act.eval, e39, go_sem]) (FO.out w hb)
    · intro a w hb h
      have eg := (sw h 38 (by kernel_rfl) (by kernel_rfl)).eq
      have e40 := sw h 40 (by kernel_rfl) (by kernel_rfl)
      obtain ⟨A', c', e', _⟩ := e40.now
      exact .val (wantg rfl (by kernel_rfl) eg) rfl (by simp [Act.eval, e', go_sem]) (Keeps.is rfl)
    · intro a w hb h
      have eg := (sw h 38 (by kernel_rfl) (by kernel_rfl)).eq
      have e5 : a.tmps.getD 5 undef = .int .i64 (x : Int) := sb h 5 (by kernel_rfl) (by kernel_rfl) rfl
      exact .val (wantg rfl (by kernel_rfl) eg) rfl (by simp [Act.eval, e5, go_sem]) (Keeps.is rfl)
    · intro a w hb h
      have eg := (sw h 38 (by kernel_rfl) (by kernel_rfl)).eq
      have e41 := (sw h 41 (by kernel_rfl) (by kernel_rfl)).eq
      have e42 := (sw h 42 (by kernel_rfl) (by kernel_rfl)).eq
      exact .val (wantg rfl (by kernel_rfl) eg) rfl (by simp [Act.eval, e41, e42, go_sem]) (Keeps.is rfl)
    · intro a w hb h
      have e38 := (sw h 38 (by kernel_rfl) (by kernel_rfl)).eq
      have e43 := (sw h 43 (by kernel_rfl) (by kernel_rfl)).eq
      exact .val (want0 rfl) rfl (by simp [Act.eval, e38, e43, go_sem]) (Keeps.is rfl)
    · intro a w hb h
      have e44 := (sw h 44 (by kernel_rfl) (by kernel_rfl)).eq
      exact .val (want0 rfl) rfl (by simp [Act.eval, e44, go_sem]) (Keeps.is rfl)
    · intro a w hb h
      have eg := (sw h 45 (by kernel_rfl) (by kernel_rfl)).eq
      have e1 : a.tmps.getD 1 undef = .int .i64 z := sb h 1 (by kernel_rfl) (by kernel_rfl) rfl
      exact .val (wantg rfl (by kernel_rfl) eg) rfl (by simp [Act.eval, e1, go_sem]) (Keeps.is rfl)
    · intro a w hb h
      have eg := (sw h 45 (by kernel_rfl) (by kernel_rfl)).eq
      have e46 := (sw h 46 (by kernel_rfl) (by kernel_rfl)).eq
      exact .val (wantg rfl (by kernel_rfl) eg) rfl (by simp [Act.eval, e46, h100, go_sem]) (Keeps.is rfl)
    · intro a w hb h
      have eg := (sw h 45 (by kernel_rfl) (by kernel_rfl)).eq
      have e47 := (sw h 47 (by kernel_rfl) (by kernel_rfl)).eq
      exact .val (wantg rfl (by kernel_rfl) eg) rfl (by simp [Act.eval, e47, go_sem]) (Keeps.is rfl)
    · intro a w hb h
      have eg := (sw h 48 (by kernel_rfl) (by kernel_rfl)).eq
      exact .off (idleg rfl (by kernel_rfl) eg rfl) rfl (Keeps.is rfl)
    · intro a w hb h
      have eg := (sw h 48 (by kernel_rfl) (by kernel_rfl)).eq
      exact .off (idleg rfl (by kernel_rfl) eg rfl) rfl (Keeps.is rfl)
    · intro a w hb h
      have eg := (sw h 48 (by kernel_rfl) (by kernel_rfl)).eq
      exact .off (idleg rfl (by kernel_rfl) eg rfl) rfl (Keeps.is rfl)
    · intro a w hb h
      have eg := (sw h 48 (by kernel_rfl) (by kernel_rfl)).eq
      exact .off (idleg rfl (by kernel_rfl) eg rfl) rfl (Keeps.is rfl)
    · intro a w hb h
      have eg := (sw h 48 (by kernel_rfl) (by kernel_rfl)).eq
      exact .off (idleg rfl (by kernel_rfl) eg rfl) rfl (Keeps.is rfl)
    · intro a w hb h
      have eg := (sw h 48 (by kernel_rfl) (by kernel_rfl)).eq
      exact .off (idleg rfl (by kernel_rfl) eg rfl) rfl (Keeps.is rfl)
    · intro a w hb h
      have eg := (sw h 48 (by kernel_rfl) (by kernel_rfl)).eq
      exact .off (idleg rfl (by kernel_rfl) eg rfl) rfl (Keeps.is rfl)
    · intro a w hb h
      have eg := (sw h 45 (by kernel_rfl) (by kernel_rfl)).eq
      have e48 := (sw h 48 (by kernel_rfl) (by kernel_rfl)).eq
      exact .val (wantg rfl (by kernel_rfl) eg) rfl (by simp [Act.eval, e48, go_sem]) (Keeps.is rfl)
    · intro a w hb h
      have e45 := (sw h 45 (by kernel_rfl) (by kernel_rfl)).eq
      have e56 := (sw h 56 (by kernel_rfl) (by kernel_rfl)).eq
      exact .val (want0 rfl) rfl (by simp [Act.eval, e45, e56, go_sem]) (Keeps.is rfl)
    · intro a w hb h
      have e57 := (sw h 57 (by kernel_rfl) (by kernel_rfl)).eq
      exact .val (want0 rfl) rfl (by simp [Act.eval, e57, go_sem]) (Keeps.is rfl)
  · intro a w2 hd hb hv
    have er := hv.eq
    clear hv
    simp only [Exit.then]
    go_wp2
    exact ⟨hd, _, results_tmp rfl _ _ _, by rw [er], Hb1.out.trans (hb.mono Hb1.out.size)⟩

set_option maxHeartbeats 1000000 in
theorem zerosCount_any (A : Option Addr) (n c B : Nat) (l : List UInt8) (z : Int) (w : World) (h : Lies w B A (bys l)) (hn : n = l.length) (hB : B ≤ w.heap.size) :
    Calls Try.prog 3 #[.slice A n c, .int .i64 z] w fun e w' => e = .returned (.bool true) ∧ Below w.heap.size w w' := by
  have Hn := hide hn
  have Hl := hide h
  clear hn h
  by_cases hfew : n ≤ 60
  · have Hfew := hide (decide_eq_true hfew)
    rcases (by omega : 100 < z ∧ z ≤ 1048576 ∨ z ≤ 100 ∨ 1048576 < z) with hzz | hzz
    · obtain ⟨hz1, hz2⟩ := hzz
      go_enter Try.func3, Try.ntmps3
      go_wp2_with fail
      (with_reducible refine (few_1 A n c w true Hfew.out.symm).mono ?_)
      rintro e w1 ⟨rfl, hw1⟩
      have Hb1 := hide (show Below w.heap.size w w1 by rw [← hw1]; exact (Below.refl _ w).alloc (Nat.le_refl _) _)
      clear hw1
      go_wp2_with fail
      refine (awake2_any _).mono ?_
      rintro e w2 ⟨rfl, hb2⟩
      have Hb2 := hide (Hb1.out.trans (hb2.mono Hb1.out.size))
      clear hb2
      go_wp2
      go_ret
      exact ⟨rfl, Hb2.out⟩
    · rcases hzz with hzz | hzz
      · exact zerosCount_low A n c B l z w Hl Hn hB hfew Hfew hzz
      · exact zerosCount_high A n c B l z w Hl Hn hB hfew Hfew hzz
  · have Hfew := hide (decide_eq_false hfew)
    go_enter Try.func3, Try.ntmps3
    go_wp2_with fail
    (with_reducible refine (few_1 A n c w false Hfew.out.symm).mono ?_)
    rintro e w1 ⟨rfl, hw1⟩
    have Hb1 := hide (show Below w.heap.size w w1 by rw [← hw1]; exact (Below.refl _ w).alloc (Nat.le_refl _) _)
    clear hw1
    go_wp2_with fail
    refine (awake2_any _).mono ?_
    rintro e w2 ⟨rfl, hb2⟩
    have Hb2 := hide (Hb1.out.trans (hb2.mono Hb1.out.size))
    clear hb2
    go_wp2
    go_ret
    exact ⟨rfl, Hb2.out⟩

end Go.Proofs.Ytbcplfdbnfmhoaa
