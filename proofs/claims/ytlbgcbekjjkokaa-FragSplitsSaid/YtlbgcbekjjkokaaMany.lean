/-
  CONTRACTS, how many pieces: frag.Many and the reference's (wagtailref12).
-/
import Derived.Test.YtlbgcbekjjkokaaBuck
namespace Go.Proofs.Ytlbgcbekjjkokaa
open Go.RowKit

def manyN (n s : Nat) : Nat := if n = 0 then 1 else (n - 1) / s + 1
theorem many_low (n : Nat) (s : Int) (w : World) (hs : s < 1) : Calls Try.prog 10 #[.int .i64 (n : Int), .int .i64 s] w fun e w' => e = .returned (.int .i64 0) ∧ w' = w := by
  have h1 : ¬ (n : Int) < 0 := by omega
  go_enter Try.func10, Try.ntmps10
  go_wp2
  go_ret
  exact ⟨rfl, rfl⟩
theorem many_any (n s : Nat) (w : World) (hs : 1 ≤ s) (hn : n ≤ 1000000000) (hs2 : s ≤ 9223372036854775807) : Calls Try.prog 10 #[.int .i64 (n : Int), .int .i64 (s : Int)] w fun e w' => e = .returned (.int .i64 (manyN n s : Nat)) ∧ w' = w := by
  have h1 : ¬ (n : Int) < 0 := by omega
  have h2 : ¬ (s : Int) < 1 := by omega
  by_cases h0 : n = 0
  · subst h0
    go_enter Try.func10, Try.ntmps10
    go_wp2
    go_ret
    exact ⟨rfl, rfl⟩
  · obtain ⟨m, hm⟩ : ∃ m, m = n - 1 := ⟨_, rfl⟩
    have e1 : (n : Int) - 1 = (m : Int) := by omega
    have h0' : ¬ (n : Int) = 0 := by omega
    have hr : manyN n s = m / s + 1 := by unfold manyN; rw [if_neg h0, hm]
    rw [hr]
    have hle : m / s ≤ m := Nat.div_le_self _ _
    obtain ⟨d, hd⟩ : ∃ d, d = m / s := ⟨_, rfl⟩
    have e2 : (m : Int) / (s : Int) = (d : Int) := by rw [hd]; rfl
    have hs0 : ¬ (s : Int) = 0 := by omega
    have hs1 : ¬ (s : Int) = -1 := by omega
    rw [← hd] at hle ⊢
    clear hd h0 hm hr
    go_enter Try.func10, Try.ntmps10
    go_wp2
    go_ret
    exact ⟨rfl, rfl⟩

theorem manyN_divmod {n s : Nat} (hs : 1 ≤ s) : manyN n s = if 0 < n % s ∨ n = 0 then n / s + 1 else n / s := by
  unfold manyN
  have hdm := Nat.div_add_mod n s
  have hr : n % s < s := Nat.mod_lt _ hs
  generalize n / s = d at *
  generalize n % s = r at *
  by_cases h0 : n = 0
  · have hd : s * d = 0 := by omega
    have hd0 : d = 0 := by
      rcases Nat.mul_eq_zero.1 hd with h | h
      · omega
      · exact h
    rw [if_pos h0, if_pos (Or.inr h0), hd0]
  · rw [if_neg h0]
    by_cases hr0 : 0 < r
    · rw [if_pos (Or.inl hr0), show n - 1 = s * d + (r - 1) by omega, Nat.mul_add_div hs, Nat.div_eq_of_lt (by omega), Nat.add_zero]
    · rw [if_neg (by omega)]
      have hd1 : 1 ≤ d := by
        rcases Nat.eq_zero_or_pos d with h | h
        · rw [h, Nat.mul_zero] at hdm; omega
        · exact h
      have : n - 1 = s * (d - 1) + (s - 1) := by
        have e : s * d = s * (d - 1) + s := by
          conv => lhs; rw [show d = (d - 1) + 1 by omega, Nat.mul_add, Nat.mul_one]
        omega
      rw [this, Nat.mul_add_div hs, Nat.div_eq_of_lt (by omega)]
      omega

theorem rmany_any (n s : Nat) (w : World) (hs : 1 ≤ s) (hn : n ≤ 1000000000) (hs2 : s ≤ 9223372036854775807) : Calls Try.prog 9 #[.int .i64 (n : Int), .int .i64 (s : Int)] w fun e w' => e = .returned (.int .i64 (manyN n s : Nat)) ∧ w' = w := by
  have h1 : ¬ (n : Int) < 0 := by omega
  have h2 : ¬ (s : Int) < 1 := by omega
  rw [manyN_divmod hs]
  obtain ⟨d, hd⟩ : ∃ d, d = n / s := ⟨_, rfl⟩
  obtain ⟨r, hr⟩ : ∃ r, r = n % s := ⟨_, rfl⟩
  have e1 : (n : Int) / (s : Int) = (d : Int) := by rw [hd]; rfl
  have e2 : (n : Int) % (s : Int) = (r : Int) := by rw [hr]; rfl
  have hdn : d ≤ 1000000000 := by rw [hd]; exact Nat.le_trans (Nat.div_le_self _ _) hn
  have hs0 : ¬ (s : Int) = 0 := by omega
  have hs1 : ¬ (s : Int) = -1 := by omega
  rw [← hd, ← hr]
  clear hd hr
  by_cases hr0 : 0 < r
  · have hr' : (0 : Int) < (r : Int) := by omega
    rw [if_pos (Or.inl hr0)]
    clear hr0
    go_enter Try.func9, Try.ntmps9
    go_wp2
    go_ret
    exact ⟨rfl, rfl⟩
  · have hr' : ¬ (0 : Int) < (r : Int) := by omega
    by_cases h0 : n = 0
    · rw [if_pos (Or.inr h0)]
      have h0' : ((n : Int) == 0) = true := by rw [h0]; rfl
      have h0'' : (n : Int) = 0 := by omega
      have hd0 : d = 0 := by rw [h0''] at e1; simp at e1; omega
      subst hd0
      clear hr0
      go_enter Try.func9, Try.ntmps9
      go_wp2
      go_ret
      exact ⟨rfl, rfl⟩
    · rw [if_neg (by omega)]
      have h0' : ¬ (n : Int) = 0 := by omega
      clear hr0
      go_enter Try.func9, Try.ntmps9
      go_wp2
      go_ret
      exact ⟨rfl, rfl⟩
theorem rmany_low (n : Nat) (s : Int) (w : World) (hs : s < 1) : Calls Try.prog 9 #[.int .i64 (n : Int), .int .i64 s] w fun e w' => e = .returned (.int .i64 0) ∧ w' = w := by
  have h1 : ¬ (n : Int) < 0 := by omega
  go_enter Try.func9, Try.ntmps9
  go_wp2
  go_ret
  exact ⟨rfl, rfl⟩

end Go.Proofs.Ytlbgcbekjjkokaa
