/-
  Check of blocks, the reference's (wagtailref09) and the program's; the reference's Bit (wagtailref10).
-/
import Derived.Test.YtlbgcbekjjkokaaEidr
namespace Go.Proofs.Ytlbgcbekjjkokaa
open Go.RowKit

theorem bit10_any (f : Nat) (k : Nat) (hk : k = 1 ∨ k = 4) (hf : f < 18446744073709551616) (w : World) : Calls Try.prog 35 #[.int .u64 (f : Int), .int .u64 (k : Int)] w fun e w' => e = .returned (.bool (decide (f / k % 2 = 1))) ∧ w' = w := by
  obtain ⟨z, hz⟩ : ∃ z, z = f / k := ⟨_, rfl⟩
  have e1 : (f : Int) / (k : Int) = (z : Int) := by rw [hz]; rfl
  have e2 : (((z : Nat) : Int) % 2 == 1) = decide (z % 2 = 1) := by
    rcases Nat.mod_two_eq_zero_or_one z with h | h
    · have : ((z : Nat) : Int) % 2 = 0 := by omega
      rw [h, this]; rfl
    · have : ((z : Nat) : Int) % 2 = 1 := by omega
      rw [h, this]; rfl
  have hz' : z < 18446744073709551616 := by rw [hz]; exact Nat.lt_of_le_of_lt (Nat.div_le_self _ _) hf
  have hk0 : ¬ (k : Int) = 0 := by omega
  rw [← hz]
  have E2 := hide e2
  clear hz hf e2
  go_enter Try.func35, Try.ntmps35
  go_wp2
  go_ret
  exact ⟨ret_bool E2.out, rfl⟩

def Bk.check (b : Bk) : Int := if b.num = 0 ∨ b.crc < 0 ∨ 2 < b.crc then 2 else if 65536 < b.data.size then 4 else 0
theorem Bk.check_arg {b : Bk} (h : b.num = 0 ∨ b.crc < 0 ∨ 2 < b.crc) : b.check = 2 := if_pos h
theorem Bk.check_big {b : Bk} (h : ¬ b.num = 0) (h2 : ¬ b.crc < 0) (h3 : ¬ 2 < b.crc) (h4 : 65536 < b.data.size) : b.check = 4 := by unfold Bk.check; rw [if_neg (by omega), if_pos h4]
theorem Bk.check_ok {b : Bk} (h : ¬ b.num = 0) (h2 : ¬ b.crc < 0) (h3 : ¬ 2 < b.crc) (h4 : ¬ 65536 < b.data.size) : b.check = 0 := by unfold Bk.check; rw [if_neg (by omega), if_neg h4]

theorem ref9_any (b : Bk) (w : World) : Calls Try.prog 21 #[b.val] w fun e w' => e = .returned (.int .i64 b.check) ∧ Below w.heap.size w w' := by
  rcases b with ⟨ty, num, fl, crc, data⟩
  have Hb := hide (fun o => (Below.refl w.heap.size w).alloc (Nat.le_refl _) o)
  simp only [Bk.val, Bk.cells]
  by_cases h1 : num = 0
  · have h1' : (num : Int) = 0 := by omega
    rw [Bk.check_arg (Or.inl h1)]
    clear h1
    go_enter Try.func21, Try.ntmps21
    go_wp2
    go_ret
    exact ⟨rfl, Hb.out _⟩
  have h1' : ¬ (num : Int) = 0 := by omega
  by_cases h2 : crc < 0
  · skip
    rw [Bk.check_arg (Or.inr (Or.inl h2))]
    go_enter Try.func21, Try.ntmps21
    go_wp2
    go_ret
    exact ⟨rfl, Hb.out _⟩
  by_cases h3 : 2 < crc
  · skip
    rw [Bk.check_arg (Or.inr (Or.inr h3))]
    go_enter Try.func21, Try.ntmps21
    go_wp2
    go_ret
    exact ⟨rfl, Hb.out _⟩
  by_cases h4 : 65536 < data.size
  · have h4' : (65536 : Int) < (data.size : Int) := by omega
    rw [Bk.check_big h1 h2 h3 h4]
    clear h4
    go_enter Try.func21, Try.ntmps21
    go_wp2
    go_ret
    exact ⟨rfl, Hb.out _⟩
  · have h4' : ¬ (65536 : Int) < (data.size : Int) := by omega
    rw [Bk.check_ok h1 h2 h3 h4]
    clear h4
    go_enter Try.func21, Try.ntmps21
    go_wp2
    go_ret
    exact ⟨rfl, Hb.out _⟩

theorem known_any (k : Int) (w : World) : Calls Try.prog 46 #[.int .i64 k] w fun e w' => e = .returned (.bool (decide (0 ≤ k ∧ k ≤ 2))) ∧ w' = w := by
  by_cases h1 : 0 ≤ k
  · by_cases h2 : k < 3
    · rw [decide_eq_true (show 0 ≤ k ∧ k ≤ 2 by omega)]
      go_enter Try.func46, Try.ntmps46
      go_wp2
      go_ret
      exact ⟨rfl, rfl⟩
    · rw [decide_eq_false (show ¬ (0 ≤ k ∧ k ≤ 2) by omega)]
      go_enter Try.func46, Try.ntmps46
      go_wp2
      go_ret
      exact ⟨rfl, rfl⟩
  · rw [decide_eq_false (show ¬ (0 ≤ k ∧ k ≤ 2) by omega)]
    go_enter Try.func46, Try.ntmps46
    go_wp2
    go_ret
    exact ⟨rfl, rfl⟩

theorem bcheck_any (b : Bk) (w : World) : Calls Try.prog 30 #[b.val] w fun e w' => e = .returned (.int .i64 b.check) ∧ Below w.heap.size w w' := by
  rcases b with ⟨ty, num, fl, crc, data⟩
  have Hb := hide (fun o => (Below.refl w.heap.size w).alloc (Nat.le_refl _) o)
  have Hk := fun W => known_any crc W
  simp only [Bk.val, Bk.cells]
  by_cases h1 : num = 0
  · have h1' : (num : Int) = 0 := by omega
    rw [Bk.check_arg (Or.inl h1)]
    clear h1
    go_enter Try.func30, Try.ntmps30
    go_wp2_with (go_at_call 46; (with_reducible refine (Hk _).mono ?_); rintro e w' ⟨rfl, rfl⟩)
    go_ret
    exact ⟨rfl, Hb.out _⟩
  have h1' : ¬ (num : Int) = 0 := by omega
  by_cases h2 : crc < 0
  · rw [decide_eq_false (show ¬ (0 ≤ crc ∧ crc ≤ 2) by omega)] at Hk
    rw [Bk.check_arg (Or.inr (Or.inl h2))]
    go_enter Try.func30, Try.ntmps30
    go_wp2_with (go_at_call 46; (with_reducible refine (Hk _).mono ?_); rintro e w' ⟨rfl, rfl⟩)
    go_ret
    exact ⟨rfl, Hb.out _⟩
  by_cases h3 : 2 < crc
  · rw [decide_eq_false (show ¬ (0 ≤ crc ∧ crc ≤ 2) by omega)] at Hk
    rw [Bk.check_arg (Or.inr (Or.inr h3))]
    go_enter Try.func30, Try.ntmps30
    go_wp2_with (go_at_call 46; (with_reducible refine (Hk _).mono ?_); rintro e w' ⟨rfl, rfl⟩)
    go_ret
    exact ⟨rfl, Hb.out _⟩
  rw [decide_eq_true (show (0 ≤ crc ∧ crc ≤ 2) by omega)] at Hk
  by_cases h4 : 65536 < data.size
  · have h4' : (65536 : Int) < (data.size : Int) := by omega
    rw [Bk.check_big h1 h2 h3 h4]
    clear h4
    go_enter Try.func30, Try.ntmps30
    go_wp2_with (go_at_call 46; (with_reducible refine (Hk _).mono ?_); rintro e w' ⟨rfl, rfl⟩)
    go_ret
    exact ⟨rfl, Hb.out _⟩
  · have h4' : ¬ (65536 : Int) < (data.size : Int) := by omega
    rw [Bk.check_ok h1 h2 h3 h4]
    clear h4
    go_enter Try.func30, Try.ntmps30
    go_wp2_with (go_at_call 46; (with_reducible refine (Hk _).mono ?_); rintro e w' ⟨rfl, rfl⟩)
    go_ret
    exact ⟨rfl, Hb.out _⟩

end Go.Proofs.Ytlbgcbekjjkokaa
