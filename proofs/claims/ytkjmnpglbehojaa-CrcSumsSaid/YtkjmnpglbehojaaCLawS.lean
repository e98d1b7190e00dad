/-
  The walk of CrcSums.
-/
import Derived.Test.YtkjmnpglbehojaaAwakec
namespace Go.Proofs.Ytkjmnpglbehojaa
open Go.RowKit

set_option maxHeartbeats 2000000 in
theorem crcSums_any (A : Option Addr) (n c B : Nat) (l : List UInt8) (z : Int) (w : World) (h : Lies w B A (bys l)) (hn : n = l.length) (hB : B ≤ w.heap.size) :
    Calls Try.prog 3 #[.slice A n c, .int .i64 z] w fun e w' => e = .returned (.bool true) ∧ Below w.heap.size w w' := by
  have Hn := hide hn
  have Hl := hide h
  clear hn h
  by_cases hlen : n ≤ 2000
  · have h1 : ¬ (2000 : Int) < (n : Int) := by omega
    have es := wrap64u (shortOf 0 l) (Nat.lt_of_lt_of_le (shortOf_lt 0 (by decide) l) (by decide))
    have el := wrap64u (longOf 0 l) (longOf_lt 0 (by decide) l)
    have Hw := hide (show widthOf z = if z = 1 then 2 else if z = 2 then 4 else 0 from rfl)
    have Hs1 := hide (show sumOf 1 l = shortOf 0 l from rfl)
    have Hs2 := hide (show sumOf 2 l = longOf 0 l from rfl)
    obtain ⟨u, hu⟩ : ∃ u, u = shortOf 0 l := ⟨_, rfl⟩
    obtain ⟨v, hv⟩ : ∃ v, v = longOf 0 l := ⟨_, rfl⟩
    obtain ⟨x, hx⟩ : ∃ x, x = sumOf z l := ⟨_, rfl⟩
    obtain ⟨y, hy⟩ : ∃ y, y = widthOf z := ⟨_, rfl⟩
    rw [← hu] at es Hs1
    rw [← hv] at el Hs2
    rw [← hy] at Hw
    have Hu := hide hu
    have Hv := hide hv
    have Hx := hide hx
    have Hy := hide hy
    clear hu hv hx hy
    rcases (by omega : z = 1 ∨ z = 2 ∨ z ≠ 1 ∧ z ≠ 2) with hz | hz | ⟨hz, hz2⟩
    all_goals
      first
      | (have hyz : y = 2 := by rw [Hw.out, hz]; rfl)
      | (have hyz : y = 4 := by rw [Hw.out, hz]; rfl)
      | (have hyz : y = 0 := by rw [Hw.out, if_neg hz, if_neg hz2])
      go_enter Try.func3, Try.ntmps3
      go_wp2_with fail
      refine (awake3_any _).mono ?_
      rintro e w1 ⟨rfl, hb1⟩
      have Hb1 := hide hb1
      have hz1 := hb1.size
      clear hb1
      go_wp2_with fail
      have fp := short_any A n c B l w1 (Hl.out.below (Hb1.out.mono hB)) (by omega) Hn.out (by omega)
      rw [← Hu.out] at fp
      (with_reducible refine fp.mono ?_)
      clear fp
      rintro e w2 ⟨rfl, hb2⟩
      have Hb2 := hide (Hb1.out.trans (hb2.mono hz1))
      have hz2 := Hb2.out.size
      clear hb2 Hb1 hz1
      go_wp2_with fail
      have fp := of3_any 1 A n c B l w2 (Hl.out.below (Hb2.out.mono hB)) Hn.out (by omega)
      rw [Hs1.out] at fp
      (with_reducible refine fp.mono ?_)
      clear fp
      rintro e w3 ⟨rfl, rfl⟩
      go_wp2_with fail
      have fp := long_any A n c B l w2 (Hl.out.below (Hb2.out.mono hB)) (by omega) Hn.out (by omega)
      rw [← Hv.out] at fp
      (with_reducible refine fp.mono ?_)
      clear fp
      rintro e w3 ⟨rfl, hb3⟩
      have Hb3 := hide (Hb2.out.trans (hb3.mono hz2))
      have hz3 := Hb3.out.size
      clear hb3 Hb2 hz2
      go_wp2_with fail
      have fp := of3_any 2 A n c B l w3 (Hl.out.below (Hb3.out.mono hB)) Hn.out (by omega)
      rw [Hs2.out] at fp
      (with_reducible refine fp.mono ?_)
      clear fp
      rintro e w4 ⟨rfl, rfl⟩
      go_wp2_with fail
      have fp := of_any z A n c B l w3 (Hl.out.below (Hb3.out.mono hB)) (by omega) Hn.out (by omega)
      rw [← Hx.out] at fp
      try rw [hz] at fp
      (with_reducible refine fp.mono ?_)
      clear fp
      rintro e w4 ⟨rfl, hb4⟩
      have Hb4 := hide (Hb3.out.trans (hb4.mono hz3))
      have hz4 := Hb4.out.size
      clear hb4 Hb3 hz3
      go_wp2_with fail
      have fp := of3_any z A n c B l w4 (Hl.out.below (Hb4.out.mono hB)) Hn.out (by omega)
      rw [← Hx.out] at fp
      try rw [hz] at fp
      (with_reducible refine fp.mono ?_)
      clear fp
      rintro e w5 ⟨rfl, rfl⟩
      go_wp2_with fail
      have fp := width_any z w4
      rw [← Hy.out, hyz] at fp
      try rw [hz] at fp
      (with_reducible refine fp.mono ?_)
      clear fp
      rintro e w5 ⟨rfl, rfl⟩
      go_wp2
      go_ret
      exact ⟨rfl, Hb4.out⟩
  · have h1 : (2000 : Int) < (n : Int) := by omega
    go_enter Try.func3, Try.ntmps3
    go_wp2_with fail
    refine (awake3_any _).mono ?_
    rintro e w1 ⟨rfl, hb1⟩
    have Hb1 := hide hb1
    clear hb1
    go_wp2
    go_ret
    exact ⟨rfl, Hb1.out⟩

end Go.Proofs.Ytkjmnpglbehojaa
