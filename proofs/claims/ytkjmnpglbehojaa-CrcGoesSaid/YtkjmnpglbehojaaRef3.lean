/-
  CONTRACTS of the statements' own package wagtailref03: Sum, Of.
-/
import Derived.Test.YtkjmnpglbehojaaCrc
namespace Go.Proofs.Ytkjmnpglbehojaa
open Go.RowKit

theorem sum3_any (A : Option Addr) (n c B m p : Nat) (l : List UInt8) (w : World) (h8 : 8 ≤ m) (hm : m ≤ 32) (hp : p < 2 ^ m) (h : Lies w B A (bys l)) (hn : n = l.length) (hbig : n ≤ 1000000000000) :
    Calls Try.prog 14 #[.slice A n c, .int .i64 (m : Int), .int .u64 (p : Int)] w fun e w' => e = .returned (.int .u64 (onL p (2 ^ m - 1) l ^^^ (2 ^ m - 1) : Nat)) ∧ w = w' := by
  obtain ⟨r, hr⟩ : ∃ r, r = onL p (2 ^ m - 1) l ^^^ (2 ^ m - 1) := ⟨_, rfl⟩
  rw [← hr]
  have hpos : 0 < 2 ^ m := Nat.pow_pos (by decide)
  have h32 : 2 ^ m ≤ 4294967296 := (show (2 : Nat) ^ m ≤ 2 ^ 32 from Nat.pow_le_pow_right (by decide) hm)
  have Hpw := hide (fun i (hi : i ≤ m) => Nat.pow_le_pow_right (n := 2) (by decide) hi)
  have Hps := hide (fun i => Nat.pow_succ (n := 2) (m := i))
  have Hlt := hide (fun j => onL_lt hp h8 (l.take j) (2 ^ m - 1) (by omega))
  have Hxl := hide (fun a (ha : a < 2 ^ m) b (hb : b < 2 ^ m) => Nat.xor_lt_two_pow ha hb)
  obtain ⟨N, hN⟩ : ∃ N, N = 2 ^ m := ⟨_, rfl⟩
  rw [← hN] at hr hpos h32 Hpw Hlt Hxl hp
  have HN := hide hN
  have Hr := hide hr
  have Hall := hide (show onL p (N - 1) l = onL p (N - 1) (l.take n) by rw [hn]; simp)
  have Hn := hide hn
  have Hl := hide h
  have Hp := hide hp
  have h256 : 256 ≤ N := by rw [hN]; exact (show (2 : Nat) ^ 8 ≤ 2 ^ m from Nat.pow_le_pow_right (by decide) h8)
  clear hn h hr hN
  go_enter Try.func14, Try.ntmps14
  go_wp2
  go_loop [7, 8] (fun t i => ∃ j : Nat, j ≤ m ∧ i = .int .i64 (j : Int) ∧ t = .int .u64 ((2 ^ j : Nat) : Int)) (fun _ i => m - (intOf i).toNat)
  case atStart => exact ⟨0, Nat.zero_le _, rfl, rfl⟩
  case round =>
    obtain ⟨j, hj, rfl, rfl⟩ := hrel
    have hle := Hpw.out j hj
    have Hs := hide (Hps.out j)
    obtain ⟨q, hq⟩ : ∃ q, q = 2 ^ j := ⟨_, rfl⟩
    rw [← hq] at hle Hs ⊢
    have Hq := hide hq
    clear hq
    by_cases hlt : j < m
    · have h1 : (j : Int) < (m : Int) := by omega
      have e1 : IntKind.u64.wrap (2 * (q : Int)) = ((2 * q : Nat) : Int) := by rw [wrapU64]; omega
      go_wp2
      go_round
      case rel => exact ⟨j + 1, by omega, by go_num, by rw [Hs.out]; go_num⟩
      case measure => simp [intOf]; omega
    · obtain rfl : j = m := by omega
      obtain rfl : q = N := by rw [Hq.out, HN.out]
      have e1 : IntKind.u64.wrap ((q : Int) - 1) = ((q - 1 : Nat) : Int) := by rw [wrapU64]; omega
      go_wp2
      go_loop [9, 10] (fun t i => ∃ j : Nat, j ≤ n ∧ i = .int .i64 (j : Int) ∧ t = .int .u64 (onL p (q - 1) (l.take j) : Int)) (fun _ i => n - (intOf i).toNat)
      case atStart => exact ⟨0, Nat.zero_le _, rfl, rfl⟩
      case round =>
        obtain ⟨j, hj, rfl, rfl⟩ := hrel
        have htl := Hlt.out j
        by_cases hlt : j < n
        · have h1 : (j : Int) < (n : Int) := by omega
          obtain ⟨a, rfl, _, hc⟩ := Hl.out.byte (k := j) (by have := Hn.out; omega)
          have hx := (l.getD j 0).toNat_lt
          have Hnext := hide (show onL p (q - 1) (l.take (j + 1)) = shN p 8 (onL p (q - 1) (l.take j) ^^^ (l.getD j 0).toNat) by rw [onL_take _ _ _ _ (by have := Hn.out; omega)]; rfl)
          generalize (l.getD j 0).toNat = x at *
          obtain ⟨t, ht⟩ : ∃ t, t = onL p (q - 1) (l.take j) := ⟨_, rfl⟩
          rw [← ht] at htl Hnext ⊢
          clear ht
          have ex := wrap64u x (by omega)
          go_wp2
          clear hc
          go_loop [9, 11, 12] (fun u d i => ∃ k y : Nat, k ≤ 8 ∧ i = .int .i64 (k : Int) ∧ u = .int .u64 (y : Int) ∧ d = .int .u64 ((x / 2 ^ k : Nat) : Int) ∧ y < q ∧ Hid (y ^^^ (x / 2 ^ k) = shN p k (t ^^^ x))) (fun _ _ i => 8 - (intOf i).toNat)
          case atStart => exact ⟨0, t, Nat.zero_le _, rfl, rfl, by simp, htl, hide (by simp [shN])⟩
          case round =>
            obtain ⟨k, y, hk, rfl, rfl, rfl, hyl, hyx⟩ := hrel
            have Hstep := hide (ref_step p y (x / 2 ^ k) _ hyx.out)
            have Hhalf := hide (show x / 2 ^ (k + 1) = x / 2 ^ k / 2 by rw [Nat.pow_succ, Nat.div_div_eq_div_mul])
            have hdl : x / 2 ^ k < 256 := Nat.lt_of_le_of_lt (Nat.div_le_self _ _) hx
            obtain ⟨d, hd⟩ : ∃ d, d = x / 2 ^ k := ⟨_, rfl⟩
            rw [← hd] at Hstep Hhalf hdl ⊢
            have Hd := hide hd
            clear hd
            by_cases hk8 : k < 8
            · have h8 : (k : Int) < 8 := by omega
              have e4 : IntKind.u64.wrap ((y : Int) + (d : Int)) = ((y + d : Nat) : Int) := by rw [wrapU64]; omega
              have e5 : ((y + d : Nat) : Int) % 2 = (((y + d) % 2 : Nat) : Int) := by simp
              have e6 : bits .xor .u64 ((y : Int) / 2) (p : Int) = ((y / 2 ^^^ p : Nat) : Int) := by
                rw [show (y : Int) / 2 = ((y / 2 : Nat) : Int) by simp]
                exact u64_xor_nat (y / 2) p (by omega) (by omega)
              rcases (by omega : (y + d) % 2 = 1 ∨ (y + d) % 2 = 0) with hb | hb
              · have Hb := hide hb
                have hlx := Hxl.out (y / 2) (by omega) p Hp.out
                rw [hb] at e5
                clear hb
                go_wp2
                go_round
                case rel => exact ⟨k + 1, y / 2 ^^^ p, by omega, by go_num, by first | rfl | go_num, by rw [Hhalf.out]; first | rfl | go_num, hlx, hide (by rw [Hhalf.out]; have := Hstep.out; rw [if_pos Hb.out] at this; exact this)⟩
                case measure => simp [intOf]; omega
              · have Hb := hide (show ¬ (y + d) % 2 = 1 by omega)
                rw [hb] at e5
                clear hb
                go_wp2
                go_round
                case rel => exact ⟨k + 1, y / 2, by omega, by go_num, by first | rfl | go_num, by rw [Hhalf.out]; first | rfl | go_num, by omega, hide (by rw [Hhalf.out]; have := Hstep.out; rw [if_neg Hb.out] at this; exact this)⟩
                case measure => simp [intOf]; omega
            · obtain rfl : k = 8 := by omega
              have Hy := hide (show y = shN p 8 (t ^^^ x) by
                have h1 := hyx.out
                rw [show x / 2 ^ 8 = 0 by omega, Nat.xor_zero] at h1
                exact h1)
              go_wp2
              go_round
              case rel => exact ⟨j + 1, by omega, by go_num, by rw [Hnext.out, ← Hy.out]⟩
              case measure => simp [intOf]; omega
        · obtain rfl : j = n := by omega
          have Hfin := hide (show r = onL p (q - 1) (l.take j) ^^^ (q - 1) by rw [Hr.out, Hall.out])
          obtain ⟨t, ht⟩ : ∃ t, t = onL p (q - 1) (l.take j) := ⟨_, rfl⟩
          rw [← ht] at htl Hfin ⊢
          clear ht
          have e7 : bits .xor .u64 (t : Int) ((q - 1 : Nat) : Int) = ((t ^^^ (q - 1) : Nat) : Int) := u64_xor_nat t (q - 1) (by omega) (by omega)
          go_wp2
          go_ret
          exact ⟨ret_int (by rw [Hfin.out]), rfl⟩

theorem of3_any (k : Int) (A : Option Addr) (n c B : Nat) (l : List UInt8) (w : World) (h : Lies w B A (bys l)) (hn : n = l.length) (hbig : n ≤ 1000000000000) :
    Calls Try.prog 8 #[.int .i64 k, .slice A n c] w fun e w' => e = .returned (.int .u64 (sumOf k l : Int)) ∧ w = w' := by
  have hs := sum3_any A n c B 16 33800 l w (by decide) (by decide) (by decide) h hn hbig
  have hl := sum3_any A n c B 32 2197175160 l w (by decide) (by decide) (by decide) h hn hbig
  rw [show onL 33800 (2 ^ 16 - 1) l ^^^ (2 ^ 16 - 1) = shortOf 0 l by rw [Nat.xor_comm]; rfl] at hs
  rw [show onL 2197175160 (2 ^ 32 - 1) l ^^^ (2 ^ 32 - 1) = longOf 0 l by rw [Nat.xor_comm]; rfl] at hl
  have Hs := hide hs
  have Hl := hide hl
  unfold sumOf
  obtain ⟨u, hu⟩ : ∃ u, u = shortOf 0 l := ⟨_, rfl⟩
  obtain ⟨v, hv⟩ : ∃ v, v = longOf 0 l := ⟨_, rfl⟩
  rw [← hu] at Hs ⊢
  rw [← hv] at Hl ⊢
  clear h hn hu hv hs hl
  by_cases h1 : k = 1
  · subst h1
    go_enter Try.func8, Try.ntmps8
    go_wp2_with fail
    refine Hs.out.mono ?_
    rintro e w1 ⟨rfl, rfl⟩
    go_wp2
    go_ret
    exact ⟨rfl, rfl⟩
  · by_cases h2 : k = 2
    · subst h2
      go_enter Try.func8, Try.ntmps8
      go_wp2_with fail
      refine Hl.out.mono ?_
      rintro e w1 ⟨rfl, rfl⟩
      go_wp2
      go_ret
      exact ⟨rfl, rfl⟩
    · rw [if_neg h1, if_neg h2]
      go_enter Try.func8, Try.ntmps8
      go_wp2
      go_ret
      exact ⟨rfl, rfl⟩

end Go.Proofs.Ytkjmnpglbehojaa
