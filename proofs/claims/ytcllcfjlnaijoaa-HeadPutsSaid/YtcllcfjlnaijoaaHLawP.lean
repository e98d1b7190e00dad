/-
  The walk of HeadPuts.
-/
import Derived.Test.YtcllcfjlnaijoaaAwakee
import Derived.Test.YtcllcfjlnaijoaaRef5
namespace Go.Proofs.Ytcllcfjlnaijoaa
open Go.RowKit

set_option maxHeartbeats 2000000 in
theorem headPuts_any (m x : Int) (A : Option Addr) (n c B : Nat) (l : List UInt8) (w : World) (h : Lies w B A (bys l)) (hn : n = l.length) (hB : B ≤ w.heap.size) (hx : 0 ≤ x ∧ x ≤ 18446744073709551615) :
    Calls Try.prog 3 #[.int .i64 m, .int .u64 x, .slice A n c] w fun e w' => e = .returned (.bool true) ∧ Below w.heap.size w w' := by
  by_cases h100 : 100 < n
  · have h1 : (100 : Int) < (n : Int) := by omega
    clear h hn
    go_enter Try.func3, Try.ntmps3
    go_wp2_with fail
    (with_reducible refine (awake5_any _).mono ?_)
    rintro e w1 ⟨rfl, hb⟩
    go_wp2
    go_ret
    exact ⟨rfl, hb⟩
  have h1 : ¬ (100 : Int) < (n : Int) := by omega
  by_cases hm : 0 ≤ m ∧ m ≤ 7
  · obtain ⟨M, rfl⟩ := Int.eq_ofNat_of_zero_le hm.1
    obtain ⟨N, rfl⟩ := Int.eq_ofNat_of_zero_le hx.1
    have hM : M < 8 := by omega
    have hN : N < 18446744073709551616 := by omega
    have hm1 : ¬ (M : Int) < 0 := by omega
    have hm2 : ¬ (7 : Int) < (M : Int) := by omega
    have Hp := hide (fun W => hputs_any M N W hM hN)
    have Hr := hide (fun W => put5_any M N W hM hN)
    have Hs := hide (fun W => size_any N W hN)
    have Hg := hide (getH_headB M N l hM hN)
    have hz := sizeN_le N
    have HL := hide (headB_len M N)
    have Hn := hide hn
    have Hl := hide h
    clear hn h hm hx
    generalize headB M N = hd at *
    generalize sizeN N = s at *
    go_enter Try.func3, Try.ntmps3
    go_wp2_with fail
    (with_reducible refine (Hp.out w).mono ?_)
    rintro e w1 ⟨A1, c1, rfl, ho1, hb1⟩
    have Hl1 := hide (Lies.of_own ho1)
    have Hb1 := hide hb1
    have hz1 := hb1.size
    clear ho1 hb1 Hp
    go_wp2_with fail
    (with_reducible refine (Hr.out w1).mono ?_)
    rintro e w2 ⟨A2, c2, rfl, ho2, hb2⟩
    have Hl1b := hide (Hl1.out.below hb2)
    have Hl2 := hide (Lies.of_own ho2)
    have Hb2 := hide (Hb1.out.trans (hb2.mono hz1))
    have hz12 := hb2.size
    have hz2 := Hb2.out.size
    clear ho2 hb2 Hr Hl1 Hb1
    go_wp2_with (first
      | (at_builtin; refine wpl_app _ rfl u8elems (.tmp 44) (.tmp 45) rfl w2.heap.size (.slice (some ⟨w2.heap.size, 0, none⟩) 0 0) 0 [] rfl (World.ownsRow_made w2 #[] 0 (Nat.le_refl _) (Nat.zero_le _) rfl) w2.heap.size A2 s c2 (bys hd) rfl (by rw [bys_len, HL.out, Nat.mul_one]) (Hl2.out.alloc (Nat.le_refl _) _) (bys_one _) (by unfold maxLen; omega) (by omega) (by simp) ?_; simp only [Nat.zero_add, List.nil_append]; intro A3 c3 w3 hown3 hg3 hat3; have Ho3 := hide hown3; have Hb3 := hide (((Below.refl w2.heap.size w2).alloc (Nat.le_refl _) _).grown hg3 (by simp) (by intro k hk; simp [Value.ownBlock] at hk; omega)); have hz3 := Hb3.out.size; clear hown3 hg3 hat3)
      | (at_builtin; refine wpl_app _ rfl u8elems (.tmp 46) (.tmp 47) rfl w2.heap.size (.slice A3 s c3) s (bys hd) rfl Ho3.out B A n c (bys l) rfl (by rw [bys_len, Nat.mul_one]; exact Hn.out.symm) (Hl.out.below ((Hb2.out.trans (Hb3.out.mono hz2)).mono hB)) (bys_one _) (by unfold maxLen; omega) (by omega) hz3 ?_; intro A4 c4 w4 hown4 hg4 hat4; have Ho4 := hide hown4; have Hb4 := hide (Hb3.out.grown hg4 hz3 (fun g hg => (Ho3.out.lt g hg).1)); clear hown4 hg4 hat4))
    have hz24 := Hb4.out.size
    have Ho := hide (show Lies w4 w4.heap.size A4 (bys (hd ++ l)) by rw [bys_app]; exact Lies.of_own Ho4.out)
    have Hn3 := hide (show s + n = (hd ++ l).length by rw [List.length_append, HL.out, ← Hn.out])
    have Hl14 := hide ((Hl1b.out.up hz12).below Hb4.out)
    have Hl24 := hide (Hl2.out.below Hb4.out)
    have Hb4' := hide (Hb2.out.trans (Hb4.out.mono hz2))
    have hz4 := Hb4'.out.size
    clear Ho3 Hb3 Ho4 Hb4 Hl1b Hl2
    go_wp2_with fail
    have fp := hgets_any A4 (s + n) c4 w4.heap.size (hd ++ l) w4 Ho.out Hn3.out (by omega) (Nat.le_refl _)
    rw [Hg.out, show getV (M, N, s, 0) = .tuple #[.int .i64 (M : Int), .int .u64 (N : Int), .int .i64 (s : Int), .int .i64 0] from rfl] at fp
    (with_reducible refine fp.mono ?_)
    clear fp Ho Hn3 Hg
    rintro e w5 ⟨rfl, hb5⟩
    have Hb5 := hide (Hb4'.out.trans (hb5.mono hz4))
    have Hl15 := hide (Hl14.out.below (hb5.mono hz24))
    have Hl25 := hide (Hl24.out.below (hb5.mono hz24))
    have hz5 := Hb5.out.size
    have hz25 : w2.heap.size ≤ w5.heap.size := Nat.le_trans hz24 hb5.size
    clear hb5 Hb4' Hl14 Hl24
    go_wp2_with fail
    (with_reducible refine (awake5_any w5).mono ?_)
    rintro e w6 ⟨rfl, hb6⟩
    have Hb6 := hide (Hb5.out.trans (hb6.mono hz5))
    have hz6 := Hb6.out.size
    have hs1 : (convert 23 9 (.slice A1 s c1)).run Try.prog w6 = .ok (.string (str hd)) w6 := strU8 c1 (Hl15.out.below (hb6.mono hz25)) HL.out.symm
    have hs2 : (convert 23 9 (.slice A2 s c2)).run Try.prog w6 = .ok (.string (str hd)) w6 := strU8 c2 (Hl25.out.below (hb6.mono hz25)) HL.out.symm
    clear hb6 Hb5 Hl15 Hl25
    go_wp2_with fail
    (with_reducible refine (Hs.out w6).mono ?_)
    rintro e w7 ⟨rfl, hb7⟩
    have Hb7 := hide (Hb6.out.trans (hb7.mono hz6))
    clear hb7 hs1 hs2
    go_wp2
    go_ret
    exact ⟨rfl, Hb7.out⟩
  · have Hp := hide (hputs_bad m x w (by omega))
    clear h hn
    by_cases hm0 : m < 0
    · go_enter Try.func3, Try.ntmps3
      go_wp2_with fail
      (with_reducible refine Hp.out.mono ?_)
      rintro e w1 ⟨rfl, rfl⟩
      go_wp2_with fail
      (with_reducible refine (awake5_any _).mono ?_)
      rintro e w1 ⟨rfl, hb⟩
      go_wp2
      go_ret
      exact ⟨rfl, hb⟩
    · have hm7 : 7 < m := by omega
      go_enter Try.func3, Try.ntmps3
      go_wp2_with fail
      (with_reducible refine Hp.out.mono ?_)
      rintro e w1 ⟨rfl, rfl⟩
      go_wp2_with fail
      (with_reducible refine (awake5_any _).mono ?_)
      rintro e w1 ⟨rfl, hb⟩
      go_wp2
      go_ret
      exact ⟨rfl, hb⟩

end Go.Proofs.Ytcllcfjlnaijoaa
