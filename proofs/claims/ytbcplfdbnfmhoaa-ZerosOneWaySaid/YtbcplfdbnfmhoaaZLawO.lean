/-
  The walk of ZerosOneWay.
-/
import Derived.Test.YtbcplfdbnfmhoaaZLawP
namespace Go.Proofs.Ytbcplfdbnfmhoaa
open Go.RowKit

set_option maxHeartbeats 2000000 in
theorem zerosOneWay_any (A A2 A3 : Option Addr) (n c n2 c2 n3 c3 B : Nat) (b d m : List UInt8) (w : World) (h : Lies w B A (bys b)) (hn : n = b.length) (h2 : Lies w B A2 (bys d)) (hn2 : n2 = d.length)
    (h3 : Lies w B A3 (bys m)) (hn3 : n3 = m.length) (hB : B ≤ w.heap.size) :
    Calls Try.prog 6 #[.slice A n c, .slice A2 n2 c2, .slice A3 n3 c3] w fun e w' => e = .returned (.bool true) ∧ Below w.heap.size w w' := by
  have Hn := hide hn
  have Hl := hide h
  have Hn2 := hide hn2
  have Hl2 := hide h2
  have Hn3 := hide hn3
  have Hl3 := hide h3
  clear hn h hn2 h2 hn3 h3
  by_cases hfew : n ≤ 60 ∧ n2 ≤ 60 ∧ n3 ≤ 60
  · have Hfew := hide (decide_eq_true hfew)
    go_enter Try.func6, Try.ntmps6
    go_wp2_with fail
    (with_reducible refine (few_3 A A2 A3 n c n2 c2 n3 c3 w true Hfew.out.symm).mono ?_)
    rintro e w1 ⟨rfl, hw1⟩
    have hb1 : Below w.heap.size w w1 := by rw [← hw1]; exact (Below.refl _ w).alloc (Nat.le_refl _) _
    have Hb1 := hide hb1
    clear hw1 hb1
    go_wp2_with fail
    (with_reducible refine (ones2_any n _ (by omega)).mono ?_)
    rintro e w2 ⟨A4, c4, rfl, ho4, hb2⟩
    have Ho4 := hide ho4
    have Hb2 := hide (Hb1.out.trans (hb2.mono Hb1.out.size))
    have hz2 := Hb2.out.size
    clear ho4 hb2 Hb1
    go_wp2_with fail
    have fp := program_any A4 A A3 n c4 n c n3 c3 w2.heap.size (List.replicate n 255) b m w2 (Lies.of_own Ho4.out) (by simp) (by omega) ((Hl.out.below (Hb2.out.mono hB)).up (by omega)) Hn.out (by omega) ((Hl3.out.below (Hb2.out.mono hB)).up (by omega)) Hn3.out (Nat.le_refl _)
    (with_reducible refine fp.mono ?_)
    clear fp
    rintro e w3 ⟨A5, c5, rfl, ho5, hb3⟩
    have Ho5 := hide ho5
    have Hb3 := hide (Hb2.out.trans (hb3.mono Hb2.out.size))
    have hz3 := Hb3.out.size
    have Hl5 := hide (Lies.of_own ho5)
    clear ho5 hb3 Hb2 Ho4
    go_wp2_with fail
    have fp := erase_any A A3 n c n3 c3 w3.heap.size b m w3 ((Hl.out.below (Hb3.out.mono hB)).up (by omega)) Hn.out (by omega) ((Hl3.out.below (Hb3.out.mono hB)).up (by omega)) Hn3.out (Nat.le_refl _)
    (with_reducible refine fp.mono ?_)
    clear fp
    rintro e w4 ⟨A6, c6, rfl, ho6, hb4⟩
    have Hl6 := hide (Lies.of_own ho6)
    have Hl5' := hide ((Hl5.out.below hb4).up hb4.size)
    have Hb4 := hide (Hb3.out.trans (hb4.mono Hb3.out.size))
    have hz4 := Hb4.out.size
    have Hlb := hide ((Hl.out.below (Hb4.out.mono hB)).up (show B ≤ w4.heap.size by omega))
    have Hld := hide ((Hl2.out.below (Hb4.out.mono hB)).up (show B ≤ w4.heap.size by omega))
    clear ho6 hb4 Hb3 Hl5 Ho5
    have hp := prog_covers (List.replicate n 255) b m (by simp; exact Hn.out) (fun j hj => by simp [List.getD, Hn.out, hj])
    have he := eras_covers b m
    obtain ⟨P, hP⟩ : ∃ P, P = progL (List.replicate n 255) b m := ⟨_, rfl⟩
    obtain ⟨E, hE⟩ : ∃ E, E = erasL b m := ⟨_, rfl⟩
    have hPn : n = P.length := by rw [hP, progL_len]; simp
    have hEn : n = E.length := by rw [hE, erasL_len]; exact Hn.out
    rw [← hP] at hp Hl5'
    rw [← hE] at he Hl6
    have HP := hide hp
    have HE := hide he
    have HPn := hide hPn
    have HEn := hide hEn
    clear hp he hP hE hPn hEn
    go_wp2_with fail
    have fp := covers_any A5 A n c5 n c w4.heap.size P b w4 Hl5'.out HPn.out (by omega) Hlb.out Hn.out (by omega)
    rw [HP.out] at fp
    (with_reducible refine fp.mono ?_)
    clear fp
    rintro e w5 ⟨rfl, q5, hw5⟩
    have Hb5 := hide (show Below w4.heap.size w4 w5 by rw [hw5]; exact bel_drewN (Below.refl _ _) _)
    clear hw5
    go_wp2_with fail
    have fp := covers_any A6 A n c6 n c w4.heap.size E b w5 (Hl6.out.below Hb5.out) HEn.out (by omega) (Hlb.out.below Hb5.out) Hn.out (by omega)
    rw [HE.out] at fp
    (with_reducible refine fp.mono ?_)
    clear fp
    rintro e w6 ⟨rfl, q6, hw6⟩
    have Hb6 := hide (show Below w4.heap.size w4 w6 by rw [hw6]; exact bel_drewN Hb5.out _)
    clear hw6 Hb5
    obtain ⟨cv, hcv⟩ : ∃ cv, cv = covB b d := ⟨_, rfl⟩
    have Hcv := hide hcv
    clear hcv
    go_wp2_with fail
    have fp := covers_any A A2 n c n2 c2 w4.heap.size b d w6 (Hlb.out.below Hb6.out) Hn.out (by omega) (Hld.out.below Hb6.out) Hn2.out (by omega)
    rw [← Hcv.out] at fp
    (with_reducible refine fp.mono ?_)
    clear fp
    rintro e w7 ⟨rfl, q7, hw7⟩
    have Hb7 := hide (show Below w4.heap.size w4 w7 by rw [hw7]; exact bel_drewN Hb6.out _)
    clear hw7 Hb6
    go_wp2_with fail
    have fp := covers2_any A A2 n c n2 c2 w4.heap.size b d w7 (Hlb.out.below Hb7.out) Hn.out (by omega) (Hld.out.below Hb7.out) Hn2.out (by omega)
    rw [← Hcv.out] at fp
    (with_reducible refine fp.mono ?_)
    clear fp
    rintro e w8 ⟨rfl, rfl⟩
    have Hp := hide (cov_count P b HP.out)
    have He := hide (cov_count E b HE.out)
    obtain ⟨kp, hkp⟩ : ∃ k, k = zc P (8 * P.length) := ⟨_, rfl⟩
    obtain ⟨ke, hke⟩ : ∃ k, k = zc E (8 * E.length) := ⟨_, rfl⟩
    obtain ⟨kb, hkb⟩ : ∃ k, k = zc b (8 * b.length) := ⟨_, rfl⟩
    rw [← hkp, ← hkb] at Hp
    rw [← hke, ← hkb] at He
    have Hkp := hide hkp
    have Hke := hide hke
    have Hkb := hide hkb
    clear hkp hke hkb
    cases cv
    all_goals
      go_wp2_with fail
      (with_reducible refine (awake2_any _).mono ?_)
      rintro e w9 ⟨rfl, hb9⟩
      have Hb9 := hide (Hb7.out.trans (hb9.mono Hb7.out.size))
      clear hb9
      go_wp2_with fail
      have fp := count2_any A5 n c5 w4.heap.size P w9 (Hl5'.out.below Hb9.out) HPn.out (by omega)
      rw [← Hkp.out] at fp
      (with_reducible refine fp.mono ?_)
      clear fp
      rintro e w10 ⟨rfl, rfl⟩
      go_wp2_with fail
      have fp := count2_any A n c w4.heap.size b w9 (Hlb.out.below Hb9.out) Hn.out (by omega)
      rw [← Hkb.out] at fp
      (with_reducible refine fp.mono ?_)
      clear fp
      rintro e w10 ⟨rfl, rfl⟩
      have hs5 : (convert 22 9 (.slice A5 n c5)).run Try.prog w9 = .ok (.string (str P)) w9 := strU8 c5 (Hl5'.out.below Hb9.out) HPn.out
      have hs6 : (convert 22 9 (.slice A6 n c6)).run Try.prog w9 = .ok (.string (str E)) w9 := strU8 c6 (Hl6.out.below Hb9.out) HEn.out
      have hsb : (convert 22 9 (.slice A n c)).run Try.prog w9 = .ok (.string (str b)) w9 := strU8 c (Hlb.out.below Hb9.out) Hn.out
      have Hfin := hide (Hb4.out.trans (Hb9.out.mono hz4))
      have fe := count2_any A6 n c6 w4.heap.size E w9 (Hl6.out.below Hb9.out) HEn.out (by omega)
      rw [← Hke.out] at fe
      have fb := count2_any A n c w4.heap.size b w9 (Hlb.out.below Hb9.out) Hn.out (by omega)
      rw [← Hkb.out] at fb
      have Fe := hide fe
      have Fb := hide fb
      clear fe fb
      have hpb : (kp : Int) < (kb : Int) ∨ ¬ (kp : Int) < (kb : Int) ∧ str P = str b := by
        rcases Hp.out with hh | hh
        · exact .inl (by omega)
        · by_cases h9 : (kp : Int) < (kb : Int)
          · exact .inl h9
          · exact .inr ⟨h9, by rw [hh]⟩
      have heb : (ke : Int) < (kb : Int) ∨ ¬ (ke : Int) < (kb : Int) ∧ str E = str b := by
        rcases He.out with hh | hh
        · exact .inl (by omega)
        · by_cases h9 : (ke : Int) < (kb : Int)
          · exact .inl h9
          · exact .inr ⟨h9, by rw [hh]⟩
      rcases hpb with h9 | ⟨h9, h10⟩
      all_goals
        go_wp2_with fail
        (with_reducible refine Fe.out.mono ?_)
        rintro e w10 ⟨rfl, rfl⟩
        go_wp2_with fail
        (with_reducible refine Fb.out.mono ?_)
        rintro e w10 ⟨rfl, rfl⟩
        rcases heb with h11 | ⟨h11, h12⟩
        all_goals
          go_wp2
          go_ret
          exact ⟨rfl, Hfin.out⟩
  · have Hfew := hide (decide_eq_false hfew)
    go_enter Try.func6, Try.ntmps6
    go_wp2_with fail
    (with_reducible refine (few_3 A A2 A3 n c n2 c2 n3 c3 w false Hfew.out.symm).mono ?_)
    rintro e w1 ⟨rfl, hw1⟩
    have Hb1 := hide (show Below w.heap.size w w1 by rw [← hw1]; exact (Below.refl _ w).alloc (Nat.le_refl _) _)
    clear hw1
    go_wp2_with fail
    refine (awake2_any _).mono ?_
    rintro e w2 ⟨rfl, hb2⟩
    have Hb2 := hide (Hb1.out.trans (hb2.mono Hb1.out.size))
    clear hb2
    go_wp2
    go_ret
    exact ⟨rfl, Hb2.out⟩

end Go.Proofs.Ytbcplfdbnfmhoaa
