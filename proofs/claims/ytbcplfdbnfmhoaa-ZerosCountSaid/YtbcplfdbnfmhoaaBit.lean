/-
  CONTRACTS of the statements' own package wagtailref02, first part: Bit, masked, powers, Count, Covers.
-/
import Derived.Test.YtbcplfdbnfmhoaaClone
import Derived.Test.YtbcplfdbnfmhoaaBits
import Derived.Deep.QuietTactic
import Derived.BigQuiet
namespace Go.Proofs.Ytbcplfdbnfmhoaa
open Go.RowKit

theorem ret_int {k : IntKind} {a b : Int} (h : a = b) : Ending.returned (.int k a) = .returned (.int k b) := by rw [h]
theorem wr64 {n : Int} (h : -9223372036854775808 ≤ n ∧ n ≤ 9223372036854775807) : wrap64 n = n := by unfold wrap64; omega
theorem ret_bool {a b : Bool} (h : a = b) : Ending.returned (.bool a) = .returned (.bool b) := by rw [h]

theorem bit_any (A : Option Addr) (n c B : Nat) (l : List UInt8) (i : Nat) (w : World) (h : Lies w B A (bys l)) (hn : n = l.length) (hbig : n ≤ 1000000000000) (hi : i < 8 * n) :
    Calls Try.prog 23 #[.slice A n c, .int .i64 (i : Int)] w fun e w' => e = .returned (.int .i64 (bitAt l i : Nat)) ∧ w = w' := by
  obtain ⟨q, r, hq, hr, hqn, hr8⟩ : ∃ q r : Nat, q = i / 8 ∧ r = i % 8 ∧ q < n ∧ r < 8 := ⟨i / 8, i % 8, rfl, rfl, by omega, by omega⟩
  have e1 : (i : Int) / 8 = (q : Int) := by omega
  have e2 : (i : Int) % 8 = (r : Int) := by omega
  have e3 : bitAt l i = (l.getD q 0).toNat / 2 ^ r % 2 := by unfold bitAt bitN; rw [← hq, ← hr]
  rw [e3]
  clear e3
  obtain ⟨z, hz⟩ : ∃ z, z = (l.getD q 0).toNat / 2 ^ r % 2 := ⟨_, rfl⟩
  rw [← hz]
  obtain ⟨a, rfl, _, hc⟩ := h.byte (k := q) (by omega)
  have hb := (l.getD q 0).toNat_lt
  generalize (l.getD q 0).toNat = x at *
  have Hz := hide hz
  clear h hn hq hr hz
  have hi' : i < 8000000000000 := by omega
  clear hi
  go_enter Try.func23, Try.ntmps23
  go_wp2
  clear hc e1
  go_loop [5, 6] (fun s i => ∃ k : Nat, k ≤ r ∧ i = .int .i64 (k : Int) ∧ s = .int .i64 ((x / 2 ^ k : Nat) : Int)) (fun _ i => r - (intOf i).toNat)
  case atStart => exact ⟨0, Nat.zero_le _, rfl, by simp⟩
  case round =>
    obtain ⟨k, hk, rfl, rfl⟩ := hrel
    obtain ⟨y, hy⟩ : ∃ y, y = x / 2 ^ k := ⟨_, rfl⟩
    have hy8 : y < 256 := by rw [hy]; exact Nat.lt_of_le_of_lt (Nat.div_le_self _ _) hb
    rw [← hy]
    have Hy := hide hy
    clear hy
    by_cases hlt : k < r
    · have h1 : (k : Int) < (r : Int) := by omega
      go_wp2
      go_round
      case rel => exact ⟨k + 1, by omega, by go_num, by rw [Nat.pow_succ, ← Nat.div_div_eq_div_mul, ← Hy.out]; first | rfl | go_num⟩
      case measure => simp [intOf]; omega
    · obtain rfl : k = r := by omega
      go_wp2
      go_ret
      exact ⟨ret_int (by rw [Hz.out, ← Hy.out]; omega), rfl⟩

theorem powers_any (i : Nat) (w : World) (hi : i < 8000000000000) :
    Calls Try.prog 28 #[.int .i64 (i : Int)] w fun e w' => e = .returned (.int .i64 ((2 ^ (i % 8) : Nat) : Int)) ∧ w = w' := by
  obtain ⟨r, hr, hr8⟩ : ∃ r : Nat, r = i % 8 ∧ r < 8 := ⟨i % 8, rfl, by omega⟩
  have e2 : (i : Int) % 8 = (r : Int) := by omega
  rw [← hr]
  clear hr
  obtain ⟨z, hz⟩ : ∃ z, z = 2 ^ r := ⟨_, rfl⟩
  rw [← hz]
  have Hz := hide hz
  clear hz
  go_enter Try.func28, Try.ntmps28
  go_wp2
  go_loop [3, 4] (fun s i => ∃ k : Nat, k ≤ r ∧ i = .int .i64 (k : Int) ∧ s = .int .i64 ((2 ^ k : Nat) : Int)) (fun _ i => r - (intOf i).toNat)
  case atStart => exact ⟨0, Nat.zero_le _, rfl, rfl⟩
  case round =>
    obtain ⟨k, hk, rfl, rfl⟩ := hrel
    obtain ⟨y, hy⟩ : ∃ y, y = 2 ^ k := ⟨_, rfl⟩
    have hy8 : y ≤ 128 := by rw [hy]; exact Nat.pow_le_pow_right (n := 2) (by omega) (show k ≤ 7 by omega)
    rw [← hy]
    have Hy := hide hy
    clear hy
    by_cases hlt : k < r
    · have h1 : (k : Int) < (r : Int) := by omega
      go_wp2
      go_round
      case rel => exact ⟨k + 1, by omega, by go_num, by rw [Nat.pow_succ, ← Hy.out]; go_num⟩
      case measure => simp [intOf]; omega
    · obtain rfl : k = r := by omega
      go_wp2
      go_ret
      exact ⟨ret_int (by rw [Hz.out, ← Hy.out]), rfl⟩

theorem masked_any (A : Option Addr) (n c B : Nat) (l : List UInt8) (i : Nat) (w : World) (h : Lies w B A (bys l)) (hn : n = l.length) (hbig : n ≤ 1000000000000) (hi : i < 8000000000000) :
    Calls Try.prog 27 #[.slice A n c, .int .i64 (i : Int)] w fun e w' => e = .returned (.bool (inMask l i)) ∧ w = w' := by
  by_cases h0 : n = 0
  · subst h0
    obtain rfl : l = [] := List.eq_nil_of_length_eq_zero hn.symm
    rw [inMask_empty]
    clear h hn
    go_enter Try.func27, Try.ntmps27
    go_wp2
    go_ret
    exact ⟨rfl, rfl⟩
  · have hpos : 0 < n := by omega
    rw [inMask_bit l (by omega) i]
    obtain ⟨k, hk, hk8⟩ : ∃ k, k = i % (8 * n) ∧ k < 8 * n := ⟨_, rfl, Nat.mod_lt _ (by omega)⟩
    have e1 : (i : Int) % (8 * (n : Int)) = (k : Int) := by rw [hk]; simp
    rw [← hn, ← hk]
    have Hn := hide hn
    have Hl := hide h
    clear hn h hk
    have hz := bitAt_two l k
    obtain ⟨z, hz1⟩ : ∃ z : Bool, z = (bitAt l k == 1) := ⟨_, rfl⟩
    rw [← hz1]
    have Hz1 := hide hz1
    clear hz1
    go_enter Try.func27, Try.ntmps27
    go_wp2_with fail
    refine (bit_any A n c B l k _ Hl.out Hn.out hbig hk8).mono ?_
    rintro e w2 ⟨rfl, rfl⟩
    rcases hz with hz | hz
    all_goals
      rw [hz]
      have Hz := hide hz
      clear hz
      go_wp2
      go_ret
      exact ⟨ret_bool (by rw [Hz1.out, Hz.out]; rfl), rfl⟩

theorem count2_any (A : Option Addr) (n c B : Nat) (l : List UInt8) (w : World) (h : Lies w B A (bys l)) (hn : n = l.length) (hbig : n ≤ 1000000000000) :
    Calls Try.prog 12 #[.slice A n c] w fun e w' => e = .returned (.int .i64 (zc l (8 * l.length) : Nat)) ∧ w = w' := by
  rw [← hn]
  have Hn := hide hn
  have Hl := hide h
  clear hn h
  go_enter Try.func12, Try.ntmps12
  go_wp2
  go_loop [3, 4] (fun s i => ∃ k : Nat, k ≤ 8 * n ∧ i = .int .i64 (k : Int) ∧ s = .int .i64 (zc l k : Nat)) (fun _ i => 8 * n - (intOf i).toNat)
  case atStart => exact ⟨0, Nat.zero_le _, rfl, rfl⟩
  case round =>
    obtain ⟨k, hk, rfl, rfl⟩ := hrel
    have hz := zc_le l k
    have hzs : zc l (k + 1) = zc l k + (1 - bitAt l k) := rfl
    have Hzs := hide hzs
    clear hzs
    by_cases hlt : k < 8 * n
    · have h1 : (k : Int) < 8 * (n : Int) := by omega
      go_wp2_with fail
      refine (bit_any A n c B l k _ Hl.out Hn.out hbig hlt).mono ?_
      rintro e w2 ⟨rfl, rfl⟩
      rcases bitAt_two l k with hb | hb
      all_goals
        rw [hb]
        have Hb := hide hb
        clear hb
        go_wp2
        go_round
        case rel => exact ⟨k + 1, by omega, by go_num, by rw [Hzs.out, Hb.out]; first | rfl | go_num⟩
        case measure => simp [intOf]; omega
    · obtain rfl : k = 8 * n := by omega
      go_wp2
      go_ret
      exact ⟨rfl, rfl⟩

theorem covers2_any (A A2 : Option Addr) (n c n2 c2 B : Nat) (a b : List UInt8) (w : World) (h : Lies w B A (bys a)) (hn : n = a.length) (hbig : n ≤ 1000000000000) (h2 : Lies w B A2 (bys b)) (hn2 : n2 = b.length) (hbig2 : n2 ≤ 1000000000000) :
    Calls Try.prog 22 #[.slice A n c, .slice A2 n2 c2] w fun e w' => e = .returned (.bool (covB a b)) ∧ w = w' := by
  by_cases hl : n = n2
  · subst hl
    have Hn := hide hn
    have Hl := hide h
    have Hn2 := hide hn2
    have Hl2 := hide h2
    clear hn h hn2 h2
    go_enter Try.func22, Try.ntmps22
    go_wp2
    go_loop [5] (fun i => ∃ k : Nat, k ≤ 8 * n ∧ i = .int .i64 (k : Int) ∧ Hid (∀ j, j < k → bitAt b j ≤ bitAt a j)) (fun i => 8 * n - (intOf i).toNat)
    case atStart => exact ⟨0, Nat.zero_le _, rfl, hide (fun j hj => by omega)⟩
    case round =>
      obtain ⟨k, hk, rfl, hal⟩ := hrel
      by_cases hlt : k < 8 * n
      · have h1 : (k : Int) < 8 * (n : Int) := by omega
        go_wp2_with fail
        refine (bit_any A n c B a k _ Hl.out Hn.out hbig hlt).mono ?_
        rintro e w2 ⟨rfl, rfl⟩
        have ha := bitAt_two a k
        have hb := bitAt_two b k
        obtain ⟨x, hx⟩ : ∃ x, x = bitAt a k := ⟨_, rfl⟩
        obtain ⟨y, hy⟩ : ∃ y, y = bitAt b k := ⟨_, rfl⟩
        rw [← hx] at ha ⊢
        rw [← hy] at hb
        have Hx := hide hx
        have Hy := hide hy
        clear hx hy
        go_wp2_with fail
        refine (bit_any A2 n c2 B b k _ Hl2.out Hn2.out hbig2 hlt).mono ?_
        rintro e w2 ⟨he, rfl⟩
        rw [← Hy.out] at he
        subst he
        by_cases hxy : x < y
        · have h2 : (x : Int) < (y : Int) := by omega
          go_wp2
          go_ret
          have hno : covB a b = false := by
            rw [← Bool.not_eq_true, covB_iff]
            intro hh
            have := hh.2 k (by have := Hn2.out; omega)
            have := Hx.out; have := Hy.out; omega
          rw [hno]
          exact ⟨rfl, rfl⟩
        · have h2 : ¬ (x : Int) < (y : Int) := by omega
          go_wp2
          go_round
          case rel =>
            refine ⟨k + 1, by omega, by go_num, hide (fun j hj => ?_)⟩
            rcases Nat.lt_or_ge j k with h4 | h4
            · exact hal.out j h4
            · obtain rfl : j = k := by omega
              have := Hx.out; have := Hy.out; omega
          case measure => simp [intOf]; omega
      · obtain rfl : k = 8 * n := by omega
        go_wp2
        go_ret
        have hyes : covB a b = true := by
          rw [covB_iff]
          exact ⟨by have := Hn.out; have := Hn2.out; omega, fun i hi => hal.out i (by have := Hn2.out; omega)⟩
        rw [hyes]
        exact ⟨rfl, rfl⟩
  · have hno : covB a b = false := by
      rw [← Bool.not_eq_true, covB_iff]
      intro hh
      omega
    have hl' : ¬ (n : Int) = (n2 : Int) := by omega
    rw [hno]
    clear hn hn2 hno hl h h2
    go_enter Try.func22, Try.ntmps22
    go_wp2
    go_ret
    exact ⟨rfl, rfl⟩

end Go.Proofs.Ytbcplfdbnfmhoaa
