/-
  CONTRACTS of package crc: onward and the function that it makes, GoShort, GoLong, Short, Long, Of, Width.
-/
import Derived.Test.YtkjmnpglbehojaaBytes
import Derived.Test.YtkjmnpglbehojaaCrcM
namespace Go.Proofs.Ytkjmnpglbehojaa
open Go.RowKit

theorem onward_any (p : Nat) (w : World) : Calls Try.prog 15 #[.int .u32 (p : Int)] w fun e w' => e = .returned (.func (.func 16) #[] #[.pointer (some ⟨w.heap.size, 0, none⟩)]) ∧ w.alloc (.cells #[.int .u32 (p : Int)] 28) = w' := by
  go_enter Try.func15, Try.ntmps15
  go_wp2
  go_ret
  exact ⟨rfl, rfl⟩

theorem goes_any (g : Nat) (A : Option Addr) (n c B p s : Nat) (l : List UInt8) (w : World) (hp : p < 4294967296) (hs : s < 4294967296) (hg : w.cell? ⟨g, 0, none⟩ = some (.int .u32 (p : Int))) (h : Lies w B A (bys l)) (hn : n = l.length) (hbig : n ≤ 1000000000000) :
    Calls Try.prog 16 #[.int .u32 (s : Int), .slice A n c, .pointer (some ⟨g, 0, none⟩)] w fun e w' => e = .returned (.int .u32 (onL p s l : Int)) ∧ w = w' := by
  have Hlt := hide (fun j => onL_lt (n := 32) hp (by decide) (l.take j) s hs)
  have Hall := hide (show onL p s l = onL p s (l.take n) by rw [hn]; simp)
  have Hn := hide hn
  have Hl := hide h
  clear hn h hs
  rw [Hall.out]
  clear Hall
  go_enter Try.func16, Try.ntmps16
  go_wp2
  go_loop [0, 11] (fun t i => ∃ j : Nat, j ≤ n ∧ i = .int .i64 (j : Int) ∧ t = .int .u32 (onL p s (l.take j) : Int)) (fun _ i => n - (intOf i).toNat)
  case atStart => exact ⟨0, Nat.zero_le _, rfl, rfl⟩
  case round =>
    obtain ⟨j, hj, rfl, rfl⟩ := hrel
    obtain ⟨t, ht⟩ : ∃ t, t = onL p s (l.take j) := ⟨_, rfl⟩
    have htl : t < 4294967296 := by rw [ht]; exact Hlt.out j
    rw [← ht]
    have Ht := hide ht
    clear ht
    by_cases hlt : j < n
    · have h1 : (j : Int) < (n : Int) := by omega
      obtain ⟨a, rfl, _, hc⟩ := Hl.out.byte (k := j) (by have := Hn.out; omega)
      have hx := (l.getD j 0).toNat_lt
      have Hnext := hide (show onL p s (l.take (j + 1)) = shN p 8 (t ^^^ (l.getD j 0).toNat) by rw [onL_take _ _ _ _ (by have := Hn.out; omega), ← Ht.out]; rfl)
      generalize (l.getD j 0).toNat = x at *
      have e1 : bits .xor .u32 (t : Int) (x : Int) = ((t ^^^ x : Nat) : Int) := u32_xor_nat t x htl (by omega)
      have htx : t ^^^ x < 4294967296 := Nat.xor_lt_two_pow (n := 32) htl (by omega)
      obtain ⟨y, hy⟩ : ∃ y, y = t ^^^ x := ⟨_, rfl⟩
      rw [← hy] at e1 htx Hnext
      clear hy
      have Hlt2 := hide (fun k => shN_lt (n := 32) hp y htx k)
      go_wp2
      clear hc e1
      go_loop [0, 19] (fun t i => ∃ k : Nat, k ≤ 8 ∧ i = .int .i64 (k : Int) ∧ t = .int .u32 (shN p k y : Int)) (fun _ i => 8 - (intOf i).toNat)
      case atStart => exact ⟨0, Nat.zero_le _, rfl, rfl⟩
      case round =>
        obtain ⟨k, hk, rfl, rfl⟩ := hrel
        have Hsucc := hide (show shN p (k + 1) y = sh1 p (shN p k y) from rfl)
        obtain ⟨z, hz⟩ : ∃ z, z = shN p k y := ⟨_, rfl⟩
        have hzl : z < 4294967296 := by rw [hz]; exact Hlt2.out k
        rw [← hz] at Hsucc ⊢
        have Hz := hide hz
        clear hz
        by_cases hk8 : k < 8
        · have h8 : (k : Int) < 8 := by omega
          have e2 : bits .and .u32 (z : Int) 1 = ((z % 2 : Nat) : Int) := by
            rw [show (1 : Int) = ((1 : Nat) : Int) from rfl, u32_and_nat z 1 hzl (by omega), nat_mask1]
          have e3 : bits .xor .u32 ((z : Int) / 2) (p : Int) = ((z / 2 ^^^ p : Nat) : Int) := by
            rw [show (z : Int) / 2 = ((z / 2 : Nat) : Int) by simp]
            exact u32_xor_nat (z / 2) p (by omega) hp
          by_cases hodd : z % 2 = 1
          · have Hst := hide (show shN p (k + 1) y = z / 2 ^^^ p by rw [Hsucc.out, sh1, if_pos hodd])
            rw [hodd] at e2
            clear hodd
            go_wp2
            go_round
            case rel => exact ⟨k + 1, by omega, by go_num, by rw [Hst.out]⟩
            case measure => simp [intOf]; omega
          · have Hst := hide (show shN p (k + 1) y = z / 2 by rw [Hsucc.out, sh1, if_neg hodd])
            rw [show z % 2 = 0 by omega] at e2
            clear hodd
            go_wp2
            go_round
            case rel => exact ⟨k + 1, by omega, by go_num, by rw [Hst.out]; first | rfl | go_num⟩
            case measure => simp [intOf]; omega
        · obtain rfl : k = 8 := by omega
          go_wp2
          go_round
          case rel => exact ⟨j + 1, by omega, by go_num, by rw [Hnext.out, ← Hz.out]⟩
          case measure => simp [intOf]; omega
    · obtain rfl : j = n := by omega
      go_wp2
      go_ret
      exact ⟨by rw [Ht.out]; rfl, rfl⟩

theorem wrap16 (x : Nat) (h : x < 65536) : IntKind.u16.wrap (x : Int) = (x : Int) := by
  rw [IntKind.wrap_u16]; omega

theorem goShort_any (s : Nat) (A : Option Addr) (n c B : Nat) (l : List UInt8) (w : World) (hs : s < 65536) (h : Lies w B A (bys l)) (hB : B ≤ w.heap.size) (hn : n = l.length) (hbig : n ≤ 1000000000000) :
    Calls Try.prog 12 #[.int .u16 (s : Int), .slice A n c] w fun e w' => e = .returned (.int .u16 (shortOf s l : Int)) ∧ Below w.heap.size w w' := by
  have e1 : bits .xor .u16 (if IntKind.u16.signed = true then -1 else IntKind.u16.max) (s : Int) = ((65535 ^^^ s : Nat) : Int) := u16_xor_nat 65535 s (by omega) hs
  have hs1 : 65535 ^^^ s < 65536 := Nat.xor_lt_two_pow (n := 16) (by decide) hs
  have Hr := hide (show shortOf s l = 65535 ^^^ onL 33800 (65535 ^^^ s) l from rfl)
  obtain ⟨t, ht⟩ : ∃ t, t = 65535 ^^^ s := ⟨_, rfl⟩
  rw [← ht] at e1 hs1 Hr
  have hu : onL 33800 t l < 65536 := onL_lt (n := 16) short_p (by decide) l t hs1
  obtain ⟨u, hu2⟩ : ∃ u, u = onL 33800 t l := ⟨_, rfl⟩
  rw [← hu2] at hu Hr
  have Hu := hide hu2
  have e2 : bits .xor .u16 (if IntKind.u16.signed = true then -1 else IntKind.u16.max) (u : Int) = ((65535 ^^^ u : Nat) : Int) := u16_xor_nat 65535 u (by omega) hu
  have e3 := wrap16 u hu
  have Hl := hide h
  have Hn := hide hn
  clear ht hu2 h hn
  go_enter Try.func12, Try.ntmps12
  go_wp2_with fail
  refine (onward_any 33800 w).mono ?_
  rintro e w1 ⟨rfl, hw1⟩
  have Hc := hide (show w1.cell? ⟨w.heap.size, 0, none⟩ = some (.int .u32 ((33800 : Nat) : Int)) by rw [← hw1]; simp)
  have Hb := hide (show Below w.heap.size w w1 by rw [← hw1]; exact (Below.refl _ w).alloc (Nat.le_refl _) _)
  clear hw1
  go_wp2_with fail
  (with_reducible refine (goes_any w.heap.size A n c B 33800 t l w1 (by decide) (by omega) Hc.out (Hl.out.below (Hb.out.mono hB)) Hn.out hbig).mono ?_)
  rintro e w2 ⟨he, rfl⟩
  rw [← Hu.out] at he
  subst he
  go_wp2
  go_ret
  exact ⟨ret_int (by rw [Hr.out]), Hb.out⟩

theorem goLong_any (s : Nat) (A : Option Addr) (n c B : Nat) (l : List UInt8) (w : World) (hs : s < 4294967296) (h : Lies w B A (bys l)) (hB : B ≤ w.heap.size) (hn : n = l.length) (hbig : n ≤ 1000000000000) :
    Calls Try.prog 13 #[.int .u32 (s : Int), .slice A n c] w fun e w' => e = .returned (.int .u32 (longOf s l : Int)) ∧ Below w.heap.size w w' := by
  have e1 : bits .xor .u32 (if IntKind.u32.signed = true then -1 else IntKind.u32.max) (s : Int) = ((4294967295 ^^^ s : Nat) : Int) := u32_xor_nat 4294967295 s (by omega) hs
  have hs1 : 4294967295 ^^^ s < 4294967296 := Nat.xor_lt_two_pow (n := 32) (by decide) hs
  have Hr := hide (show longOf s l = 4294967295 ^^^ onL 2197175160 (4294967295 ^^^ s) l from rfl)
  obtain ⟨t, ht⟩ : ∃ t, t = 4294967295 ^^^ s := ⟨_, rfl⟩
  rw [← ht] at e1 hs1 Hr
  have hu : onL 2197175160 t l < 4294967296 := onL_lt (n := 32) long_p (by decide) l t hs1
  obtain ⟨u, hu2⟩ : ∃ u, u = onL 2197175160 t l := ⟨_, rfl⟩
  rw [← hu2] at hu Hr
  have Hu := hide hu2
  have e2 : bits .xor .u32 (if IntKind.u32.signed = true then -1 else IntKind.u32.max) (u : Int) = ((4294967295 ^^^ u : Nat) : Int) := u32_xor_nat 4294967295 u (by omega) hu
  have Hl := hide h
  have Hn := hide hn
  clear ht hu2 h hn
  go_enter Try.func13, Try.ntmps13
  go_wp2_with fail
  refine (onward_any 2197175160 w).mono ?_
  rintro e w1 ⟨rfl, hw1⟩
  have Hc := hide (show w1.cell? ⟨w.heap.size, 0, none⟩ = some (.int .u32 ((2197175160 : Nat) : Int)) by rw [← hw1]; simp)
  have Hb := hide (show Below w.heap.size w w1 by rw [← hw1]; exact (Below.refl _ w).alloc (Nat.le_refl _) _)
  clear hw1
  go_wp2_with fail
  (with_reducible refine (goes_any w.heap.size A n c B 2197175160 t l w1 (by decide) (by omega) Hc.out (Hl.out.below (Hb.out.mono hB)) Hn.out hbig).mono ?_)
  rintro e w2 ⟨he, rfl⟩
  rw [← Hu.out] at he
  subst he
  go_wp2
  go_ret
  exact ⟨ret_int (by rw [Hr.out]), Hb.out⟩

theorem short_any (A : Option Addr) (n c B : Nat) (l : List UInt8) (w : World) (h : Lies w B A (bys l)) (hB : B ≤ w.heap.size) (hn : n = l.length) (hbig : n ≤ 1000000000000) :
    Calls Try.prog 7 #[.slice A n c] w fun e w' => e = .returned (.int .u16 (shortOf 0 l : Int)) ∧ Below w.heap.size w w' := by
  have Hf := hide (goShort_any 0 A n c B l w (by decide) h hB hn hbig)
  obtain ⟨u, hu⟩ : ∃ u, u = shortOf 0 l := ⟨_, rfl⟩
  rw [← hu] at Hf ⊢
  clear h hn hu
  go_enter Try.func7, Try.ntmps7
  go_wp2_with fail
  refine Hf.out.mono ?_
  rintro e w1 ⟨rfl, hb⟩
  have Hb := hide hb
  clear hb
  go_wp2
  go_ret
  exact ⟨rfl, Hb.out⟩

theorem long_any (A : Option Addr) (n c B : Nat) (l : List UInt8) (w : World) (h : Lies w B A (bys l)) (hB : B ≤ w.heap.size) (hn : n = l.length) (hbig : n ≤ 1000000000000) :
    Calls Try.prog 9 #[.slice A n c] w fun e w' => e = .returned (.int .u32 (longOf 0 l : Int)) ∧ Below w.heap.size w w' := by
  have Hf := hide (goLong_any 0 A n c B l w (by decide) h hB hn hbig)
  obtain ⟨u, hu⟩ : ∃ u, u = longOf 0 l := ⟨_, rfl⟩
  rw [← hu] at Hf ⊢
  clear h hn hu
  go_enter Try.func9, Try.ntmps9
  go_wp2_with fail
  refine Hf.out.mono ?_
  rintro e w1 ⟨rfl, hb⟩
  have Hb := hide hb
  clear hb
  go_wp2
  go_ret
  exact ⟨rfl, Hb.out⟩

/-- The sum of a kind, and its width. -/
def sumOf (k : Int) (l : List UInt8) : Nat := if k = 1 then shortOf 0 l else if k = 2 then longOf 0 l else 0
def widthOf (k : Int) : Int := if k = 1 then 2 else if k = 2 then 4 else 0

theorem wrapU64 (n : Int) : IntKind.u64.wrap n = n % 18446744073709551616 := by simp [IntKind.wrap, IntKind.bits, IntKind.signed]
theorem wrap64u (x : Nat) (h : x < 4294967296) : IntKind.u64.wrap (x : Int) = (x : Int) := by
  rw [wrapU64]; omega

theorem of_any (k : Int) (A : Option Addr) (n c B : Nat) (l : List UInt8) (w : World) (h : Lies w B A (bys l)) (hB : B ≤ w.heap.size) (hn : n = l.length) (hbig : n ≤ 1000000000000) :
    Calls Try.prog 10 #[.int .i64 k, .slice A n c] w fun e w' => e = .returned (.int .u64 (sumOf k l : Int)) ∧ Below w.heap.size w w' := by
  have Hs := hide (short_any A n c B l w h hB hn hbig)
  have Hl := hide (long_any A n c B l w h hB hn hbig)
  have es := wrap64u _ (Nat.lt_of_lt_of_le (shortOf_lt 0 (by decide) l) (by decide))
  have el := wrap64u _ (longOf_lt 0 (by decide) l)
  unfold sumOf
  obtain ⟨u, hu⟩ : ∃ u, u = shortOf 0 l := ⟨_, rfl⟩
  obtain ⟨v, hv⟩ : ∃ v, v = longOf 0 l := ⟨_, rfl⟩
  rw [← hu] at Hs es ⊢
  rw [← hv] at Hl el ⊢
  clear h hn hu hv
  by_cases h1 : k = 1
  · subst h1
    go_enter Try.func10, Try.ntmps10
    go_wp2_with fail
    refine Hs.out.mono ?_
    rintro e w1 ⟨rfl, hb⟩
    have Hb := hide hb
    clear hb
    go_wp2
    go_ret
    exact ⟨rfl, Hb.out⟩
  · by_cases h2 : k = 2
    · subst h2
      go_enter Try.func10, Try.ntmps10
      go_wp2_with fail
      refine Hl.out.mono ?_
      rintro e w1 ⟨rfl, hb⟩
      have Hb := hide hb
      clear hb
      go_wp2
      go_ret
      exact ⟨rfl, Hb.out⟩
    · rw [if_neg h1, if_neg h2]
      go_enter Try.func10, Try.ntmps10
      go_wp2
      go_ret
      exact ⟨rfl, Below.refl _ _⟩

theorem width_any (k : Int) (w : World) : Calls Try.prog 11 #[.int .i64 k] w fun e w' => e = .returned (.int .i64 (widthOf k)) ∧ w = w' := by
  unfold widthOf
  by_cases h1 : k = 1
  · subst h1
    go_enter Try.func11, Try.ntmps11
    go_wp2
    go_ret
    exact ⟨rfl, rfl⟩
  · by_cases h2 : k = 2
    · subst h2
      go_enter Try.func11, Try.ntmps11
      go_wp2
      go_ret
      exact ⟨rfl, rfl⟩
    · rw [if_neg h1, if_neg h2]
      go_enter Try.func11, Try.ntmps11
      go_wp2
      go_ret
      exact ⟨rfl, rfl⟩

end Go.Proofs.Ytkjmnpglbehojaa
