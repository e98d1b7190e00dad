/-
  The walk of CrcGoes.
-/
import Derived.Test.YtkjmnpglbehojaaAwakec
namespace Go.Proofs.Ytkjmnpglbehojaa
open Go.RowKit

set_option maxHeartbeats 2000000 in
theorem crcGoes_any (A A2 : Option Addr) (n c n2 c2 B : Nat) (a b : List UInt8) (w : World) (h : Lies w B A (bys a)) (hn : n = a.length) (h2 : Lies w B A2 (bys b)) (hn2 : n2 = b.length) (hB : B ≤ w.heap.size) :
    Calls Try.prog 4 #[.slice A n c, .slice A2 n2 c2] w fun e w' => e = .returned (.bool true) ∧ Below w.heap.size w w' := by
  have Hn := hide hn
  have Hl := hide h
  have Hn2 := hide hn2
  have Hl2 := hide h2
  clear hn h hn2 h2
  by_cases hlen : n ≤ 1000 ∧ n2 ≤ 1000
  · obtain ⟨hlen1, hlen2⟩ := hlen
    have h1 : ¬ (1000 : Int) < (n : Int) := by omega
    have h2 : ¬ (1000 : Int) < (n2 : Int) := by omega
    have Hsl := hide (shortOf_lt 0 (by decide) a)
    have Hll := hide (longOf_lt 0 (by decide) a)
    have Hsa := hide (shortOf_app 0 a b)
    have Hla := hide (longOf_app 0 a b)
    obtain ⟨s, hs⟩ : ∃ s, s = shortOf 0 a := ⟨_, rfl⟩
    obtain ⟨t, ht⟩ : ∃ t, t = longOf 0 a := ⟨_, rfl⟩
    obtain ⟨u, hu⟩ : ∃ u, u = shortOf 0 (a ++ b) := ⟨_, rfl⟩
    obtain ⟨v, hv⟩ : ∃ v, v = longOf 0 (a ++ b) := ⟨_, rfl⟩
    rw [← hs, ← hu] at Hsa
    rw [← ht, ← hv] at Hla
    rw [← hs] at Hsl
    rw [← ht] at Hll
    have Hs := hide hs
    have Ht := hide ht
    have Hu := hide hu
    have Hv := hide hv
    clear hs ht hu hv
    go_enter Try.func4, Try.ntmps4
    go_wp2_with (first | (at_builtin; refine wpl_app _ rfl u8elems (.tmp 15) (.tmp 16) rfl w.heap.size (.slice (some ⟨w.heap.size, 0, none⟩) 0 0) 0 [] rfl (World.ownsRow_made w #[] 0 (Nat.le_refl _) (Nat.zero_le _) rfl) B A n c (bys a) rfl (by rw [bys_len, Nat.mul_one]; exact Hn.out.symm) (Hl.out.alloc hB _) (bys_one _) (by unfold maxLen; omega) (by omega) (by simp) ?_; simp only [Nat.zero_add, List.nil_append]; intro A3 c3 w1 hown1 hg1 hat1; have Ho1 := hide hown1; have Hb1 := hide (((Below.refl w.heap.size w).alloc (Nat.le_refl _) _).grown hg1 (by simp) (by intro k hk; simp [Value.ownBlock] at hk; omega)); have hz1 := Hb1.out.size; clear hown1 hg1 hat1) | (at_builtin; refine wpl_app _ rfl u8elems (.tmp 17) (.tmp 18) rfl w.heap.size (.slice A3 n c3) n (bys a) rfl Ho1.out B A2 n2 c2 (bys b) rfl (by rw [bys_len, Nat.mul_one]; exact Hn2.out.symm) (Hl2.out.below (Hb1.out.mono hB)) (bys_one _) (by unfold maxLen; omega) (by omega) (by omega) ?_; intro A4 c4 w2 hown2 hg2 hat2; have Ho2 := hide hown2; have Hb2 := hide (Hb1.out.grown hg2 (by omega) (fun g hg => (Ho1.out.lt g hg).1)); clear hown2 hg2 hat2))
    have hz2 := Hb2.out.size
    have Ho := hide (show Lies w2 w2.heap.size A4 (bys (a ++ b)) by rw [bys_app]; exact Lies.of_own Ho2.out)
    have Hn3 := hide (show n + n2 = (a ++ b).length by rw [List.length_append, ← Hn.out, ← Hn2.out])
    obtain ⟨n3, hn3⟩ : ∃ n3, n3 = n + n2 := ⟨_, rfl⟩
    rw [← hn3] at Hn3 ⊢
    have hn4 : n3 ≤ 2000 := by omega
    clear Ho1 Hb1 hn3 Ho2
    go_wp2_with fail
    refine (awake3_any _).mono ?_
    rintro e w3 ⟨rfl, hb3⟩
    have Hb3 := hide (Hb2.out.trans (hb3.mono hz2))
    have Ho3 := hide ((Ho.out.below hb3).up hb3.size)
    have hz3 := Hb3.out.size
    clear hb3 Hb2 Ho hz2
    go_wp2_with fail
    have fp := short_any A n c B a w3 (Hl.out.below (Hb3.out.mono hB)) (by omega) Hn.out (by omega)
    rw [← Hs.out] at fp
    (with_reducible refine fp.mono ?_)
    clear fp
    rintro e w4 ⟨rfl, hb4⟩
    have Hb4 := hide (Hb3.out.trans (hb4.mono hz3))
    have Ho4 := hide ((Ho3.out.below hb4).up hb4.size)
    have hz4 := Hb4.out.size
    clear hb4 Hb3 Ho3 hz3
    go_wp2_with fail
    have fp := goShort_any s A2 n2 c2 B b w4 Hsl.out (Hl2.out.below (Hb4.out.mono hB)) (by omega) Hn2.out (by omega)
    rw [Hsa.out] at fp
    (with_reducible refine fp.mono ?_)
    clear fp
    rintro e w5 ⟨rfl, hb5⟩
    have Hb5 := hide (Hb4.out.trans (hb5.mono hz4))
    have Ho5 := hide ((Ho4.out.below hb5).up hb5.size)
    have hz5 := Hb5.out.size
    clear hb5 Hb4 Ho4 hz4
    go_wp2_with fail
    have fp := short_any A4 n3 c4 w5.heap.size (a ++ b) w5 Ho5.out (Nat.le_refl _) Hn3.out (by omega)
    rw [← Hu.out] at fp
    (with_reducible refine fp.mono ?_)
    clear fp
    rintro e w6 ⟨rfl, hb6⟩
    have Hb6 := hide (Hb5.out.trans (hb6.mono hz5))
    have Ho6 := hide ((Ho5.out.below hb6).up hb6.size)
    have hz6 := Hb6.out.size
    clear hb6 Hb5 Ho5 hz5
    go_wp2_with fail
    have fp := long_any A n c B a w6 (Hl.out.below (Hb6.out.mono hB)) (by omega) Hn.out (by omega)
    rw [← Ht.out] at fp
    (with_reducible refine fp.mono ?_)
    clear fp
    rintro e w7 ⟨rfl, hb7⟩
    have Hb7 := hide (Hb6.out.trans (hb7.mono hz6))
    have Ho7 := hide ((Ho6.out.below hb7).up hb7.size)
    have hz7 := Hb7.out.size
    clear hb7 Hb6 Ho6 hz6
    go_wp2_with fail
    have fp := goLong_any t A2 n2 c2 B b w7 Hll.out (Hl2.out.below (Hb7.out.mono hB)) (by omega) Hn2.out (by omega)
    rw [Hla.out] at fp
    (with_reducible refine fp.mono ?_)
    clear fp
    rintro e w8 ⟨rfl, hb8⟩
    have Hb8 := hide (Hb7.out.trans (hb8.mono hz7))
    have Ho8 := hide ((Ho7.out.below hb8).up hb8.size)
    have hz8 := Hb8.out.size
    clear hb8 Hb7 Ho7 hz7
    go_wp2_with fail
    have fp := long_any A4 n3 c4 w8.heap.size (a ++ b) w8 Ho8.out (Nat.le_refl _) Hn3.out (by omega)
    rw [← Hv.out] at fp
    (with_reducible refine fp.mono ?_)
    clear fp
    rintro e w9 ⟨rfl, hb9⟩
    have Hb9 := hide (Hb8.out.trans (hb9.mono hz8))
    clear hb9 Hb8 Ho8 hz8
    go_wp2
    go_ret
    exact ⟨rfl, Hb9.out⟩
  · by_cases h1 : (1000 : Int) < (n : Int)
    · go_enter Try.func4, Try.ntmps4
      go_wp2_with fail
      refine (awake3_any _).mono ?_
      rintro e w1 ⟨rfl, hb1⟩
      have Hb1 := hide hb1
      clear hb1
      go_wp2
      go_ret
      exact ⟨rfl, Hb1.out⟩
    · have h2 : (1000 : Int) < (n2 : Int) := by omega
      go_enter Try.func4, Try.ntmps4
      go_wp2_with fail
      refine (awake3_any _).mono ?_
      rintro e w1 ⟨rfl, hb1⟩
      have Hb1 := hide hb1
      clear hb1
      go_wp2
      go_ret
      exact ⟨rfl, Hb1.out⟩

end Go.Proofs.Ytkjmnpglbehojaa
