/-
  The walk of CrcTurned.
-/
import Derived.Test.YtkjmnpglbehojaaAwakec
import Derived.StillTailTactics
namespace Go.Proofs.Ytkjmnpglbehojaa
open Go.RowKit

theorem own_addr3 {w : World} {base size : Nat} {e : TypeId} {A : Option Addr} {n m c : Nat} {xs : List Value} (h : w.ownsRow base e size (.slice A m c) n xs) (hn : 0 < n) : ∃ g, A = some ⟨g, 0, none⟩ ∧ base ≤ g := by
  rcases h.2 with ⟨_, rfl⟩ | ⟨g, cap, cur, hv, hg, _⟩
  · omega
  · injection hv with h1 _ _
    exact ⟨g, h1, hg⟩

/-- One bit of a byte is another one: the byte is. -/
theorem turned_byte (x : UInt8) (r : Nat) (hr : r < 8) : ∃ y : UInt8, y ≠ x ∧ bits .xor .u8 (x.toNat : Int) (2 ^ r % 256) = (y.toNat : Int) := by
  have hp : (2 : Nat) ^ r < 256 := Nat.pow_lt_pow_right (n := 8) (by decide) hr
  have e : (2 : Int) ^ r % 256 = ((2 ^ r : Nat) : Int) := by
    have : (2 : Int) ^ r = ((2 ^ r : Nat) : Int) := by simp
    rw [this]
    have hp2 : ((2 ^ r : Nat) : Int) < 256 := Int.ofNat_lt.2 hp
    have hp3 : (0 : Int) ≤ ((2 ^ r : Nat) : Int) := Int.natCast_nonneg _
    generalize ((2 ^ r : Nat) : Int) = v at *
    omega
  have hx : x.toNat ^^^ 2 ^ r < 256 := Nat.xor_lt_two_pow (n := 8) x.toNat_lt hp
  refine ⟨UInt8.ofNat (x.toNat ^^^ 2 ^ r), ?_, ?_⟩
  · intro h
    have h1 := congrArg UInt8.toNat h
    rw [UInt8.toNat_ofNat_of_lt' hx] at h1
    have h2 : x.toNat ^^^ (x.toNat ^^^ 2 ^ r) = x.toNat ^^^ x.toNat := by rw [h1]
    rw [xor_back, Nat.xor_self] at h2
    have : 0 < 2 ^ r := Nat.pow_pos (by decide)
    omega
  · rw [e, u8_xor_nat _ _ x.toNat_lt hp, UInt8.toNat_ofNat_of_lt' hx]

set_option maxHeartbeats 2000000 in
theorem crcTurned_any (A : Option Addr) (n c B : Nat) (a : List UInt8) (z : Int) (w : World) (h : Lies w B A (bys a)) (hn : n = a.length) (hB : B ≤ w.heap.size) (hz : 0 ≤ z ∧ z ≤ 65535) :
    Calls Try.prog 5 #[.slice A n c, .int .u16 z] w fun e w' => e = .returned (.bool true) ∧ Below w.heap.size w w' := by
  have Hn := hide hn
  have Hl := hide h
  clear hn h
  obtain ⟨k, rfl⟩ : ∃ k : Nat, z = (k : Int) := ⟨z.toNat, by omega⟩
  by_cases hlen : 0 < n ∧ n ≤ 1000
  · obtain ⟨hlen1, hlen2⟩ := hlen
    have h1 : ¬ (n : Int) = 0 := by omega
    have h2 : ¬ (1000 : Int) < (n : Int) := by omega
    obtain ⟨i, hi⟩ : ∃ i, i = k % (8 * n) := ⟨_, rfl⟩
    have hil : i < 8 * n := by rw [hi]; exact Nat.mod_lt _ (by omega)
    have e1 : (k : Int) % (8 * (n : Int)) = (i : Int) := by rw [hi]; simp
    obtain ⟨q, r, hq, hr, hqn, hr8⟩ : ∃ q r : Nat, q = i / 8 ∧ r = i % 8 ∧ q < n ∧ r < 8 := ⟨i / 8, i % 8, rfl, rfl, by omega, by omega⟩
    have e3 : (i : Int) / 8 = (q : Int) := by omega
    have e4 : (i : Int) % 8 = (r : Int) := by omega
    clear hq hr hi
    go_enter Try.func5, Try.ntmps5
    go_wp2_with (at_builtin; refine wpl_app _ rfl u8elems (.tmp 16) (.tmp 17) rfl w.heap.size (.slice (some ⟨w.heap.size, 0, none⟩) 0 0) 0 [] rfl (World.ownsRow_made w #[] 0 (Nat.le_refl _) (Nat.zero_le _) rfl) B A n c (bys a) rfl (by rw [bys_len, Nat.mul_one]; exact Hn.out.symm) (Hl.out.alloc hB _) (bys_one _) (by unfold maxLen; omega) (by omega) (by simp) ?_; simp only [Nat.zero_add, List.nil_append]; intro A3 c3 w1 hown1 hg1 hat1; have Ho1 := hide hown1; have Hb1 := hide (((Below.refl w.heap.size w).alloc (Nat.le_refl _) _).grown hg1 (by simp) (by intro k hk; simp [Value.ownBlock] at hk; omega)); have hz1 := Hb1.out.size; clear hown1 hg1 hat1)
    obtain ⟨g, rfl, hg⟩ := own_addr3 Ho1.out (by omega)
    have hcq := Ho1.out.cellAt q (by omega)
    rw [bys_at a q (by rw [← Hn.out]; exact hqn)] at hcq
    have hfq := Ho1.out.frozenAt q
    obtain ⟨y, hy, ey⟩ := turned_byte (a[q]'(by rw [← Hn.out]; exact hqn)) r hr8
    have hy' : y ≠ a.getD q 0 := by
      simp [List.getD, List.getElem?_eq_getElem (show q < a.length by rw [← Hn.out]; exact hqn)]; exact hy
    have Hst := hide (shortOf_turned a q y (by rw [← Hn.out]; exact hqn) hy')
    have Hlt := hide (longOf_turned a q y (by rw [← Hn.out]; exact hqn) hy')
    generalize (a[q]'(by rw [← Hn.out]; exact hqn)).toNat = x at *
    clear hy hy'
    have Ey := hide ey
    clear ey
    go_region
    rw [Ey.out]
    have hst := World.ownsRow.stored (w := w1) Ho1.out q (.int .u8 (y.toNat : Int))
    have hset : (bys a).set q (.int .u8 (y.toNat : Int)) = bys (a.set q y) := by simp [bys]
    rw [hset] at hst
    have Ho2 := hide (show Lies (w1.setCell ⟨g, q, none⟩ (.int .u8 (y.toNat : Int))).drew (w1.setCell ⟨g, q, none⟩ (.int .u8 (y.toNat : Int))).drew.heap.size (some ⟨g, 0, none⟩) (bys (a.set q y)) from (Lies.of_own hst.1).drew)
    have Hb2 := hide (show Below w.heap.size w (w1.setCell ⟨g, q, none⟩ (.int .u8 (y.toNat : Int))).drew from (Hb1.out.setCell (by simp; omega) _).drew)
    generalize (w1.setCell ⟨g, q, none⟩ (.int .u8 (y.toNat : Int))).drew = w2 at *
    have hz2 := Hb2.out.size
    have Hn2 := hide (show n = (a.set q y).length by rw [List.length_set]; exact Hn.out)
    obtain ⟨d, hd⟩ : ∃ d, d = a.set q y := ⟨_, rfl⟩
    rw [← hd] at Ho2 Hn2 Hst Hlt
    clear hd hset hst Ho1 Hb1 hcq hfq Ey
    obtain ⟨s, hs⟩ : ∃ s, s = shortOf 0 a := ⟨_, rfl⟩
    obtain ⟨t, ht⟩ : ∃ t, t = longOf 0 a := ⟨_, rfl⟩
    obtain ⟨u, hu⟩ : ∃ u, u = shortOf 0 d := ⟨_, rfl⟩
    obtain ⟨v, hv⟩ : ∃ v, v = longOf 0 d := ⟨_, rfl⟩
    rw [← hs, ← hu] at Hst
    rw [← ht, ← hv] at Hlt
    have Hs := hide hs
    have Ht := hide ht
    have Hu := hide hu
    have Hv := hide hv
    have hsu : ¬ (s : Int) = (u : Int) := fun h => Hst.out (by omega)
    have htv : ¬ (t : Int) = (v : Int) := fun h => Hlt.out (by omega)
    clear hs ht hu hv
    go_wp2_with fail
    refine (awake3_any _).mono ?_
    rintro e w3 ⟨rfl, hb3⟩
    have Hb3 := hide (Hb2.out.trans (hb3.mono hz2))
    have Ho3 := hide ((Ho2.out.below hb3).up hb3.size)
    have hz3 := Hb3.out.size
    clear hb3 Hb2 Ho2 hz2
    go_wp2_with fail
    have fp := short_any A n c B a w3 (Hl.out.below (Hb3.out.mono hB)) (by omega) Hn.out (by omega)
    rw [← Hs.out] at fp
    (with_reducible refine fp.mono ?_)
    clear fp
    rintro e w4 ⟨rfl, hb4⟩
    have Hb4 := hide (Hb3.out.trans (hb4.mono hz3))
    have Ho4 := hide ((Ho3.out.below hb4).up hb4.size)
    have hz4 := Hb4.out.size
    clear hb4 Hb3 Ho3 hz3
    go_wp2_with fail
    have fp := short_any (some ⟨g, 0, none⟩) n c3 w4.heap.size d w4 Ho4.out (Nat.le_refl _) Hn2.out (by omega)
    rw [← Hu.out] at fp
    (with_reducible refine fp.mono ?_)
    clear fp
    rintro e w5 ⟨rfl, hb5⟩
    have Hb5 := hide (Hb4.out.trans (hb5.mono hz4))
    have Ho5 := hide ((Ho4.out.below hb5).up hb5.size)
    have hz5 := Hb5.out.size
    clear hb5 Hb4 Ho4 hz4
    go_wp2_with fail
    have fp := long_any A n c B a w5 (Hl.out.below (Hb5.out.mono hB)) (by omega) Hn.out (by omega)
    rw [← Ht.out] at fp
    (with_reducible refine fp.mono ?_)
    clear fp
    rintro e w6 ⟨rfl, hb6⟩
    have Hb6 := hide (Hb5.out.trans (hb6.mono hz5))
    have Ho6 := hide ((Ho5.out.below hb6).up hb6.size)
    have hz6 := Hb6.out.size
    clear hb6 Hb5 Ho5 hz5
    go_wp2_with fail
    have fp := long_any (some ⟨g, 0, none⟩) n c3 w6.heap.size d w6 Ho6.out (Nat.le_refl _) Hn2.out (by omega)
    rw [← Hv.out] at fp
    (with_reducible refine fp.mono ?_)
    clear fp
    rintro e w7 ⟨rfl, hb7⟩
    have Hb7 := hide (Hb6.out.trans (hb7.mono hz6))
    clear hb7 Hb6 Ho6 hz6
    go_wp2
    go_ret
    exact ⟨ret_bool (by rw [Bool.and_eq_true]; exact ⟨bne_iff_ne.2 hsu, bne_iff_ne.2 htv⟩), Hb7.out⟩
  · by_cases h1 : (n : Int) = 0
    · go_enter Try.func5, Try.ntmps5
      go_wp2_with fail
      refine (awake3_any _).mono ?_
      rintro e w1 ⟨rfl, hb1⟩
      have Hb1 := hide hb1
      clear hb1
      go_wp2
      go_ret
      exact ⟨rfl, Hb1.out⟩
    · have h2 : (1000 : Int) < (n : Int) := by omega
      go_enter Try.func5, Try.ntmps5
      go_wp2_with fail
      refine (awake3_any _).mono ?_
      rintro e w1 ⟨rfl, hb1⟩
      have Hb1 := hide hb1
      clear hb1
      go_wp2
      go_ret
      exact ⟨rfl, Hb1.out⟩

end Go.Proofs.Ytkjmnpglbehojaa
