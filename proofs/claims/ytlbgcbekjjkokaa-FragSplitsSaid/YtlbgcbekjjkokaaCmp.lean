/-
  CONTRACTS: cmp.Compare at uint64; the function that earlier makes.
-/
import Derived.Test.YtlbgcbekjjkokaaBrow
import Derived.BigQuiet
namespace Go.Proofs.Ytlbgcbekjjkokaa
open Go.RowKit

theorem isNaN_any (x : Nat) (w : World) : Calls Try.prog 69 #[.int .u64 (x : Int)] w fun e w' => e = .returned (.bool false) ∧ w = w' := by
  go_enter Try.func69, Try.ntmps69
  go_wp2
  go_ret
  exact ⟨by first | rfl | simp, rfl⟩

def cmpN (x y : Nat) : Int := if x < y then -1 else if y < x then 1 else 0
theorem compare_any (x y : Nat) (w : World) : Calls Try.prog 54 #[.int .u64 (x : Int), .int .u64 (y : Int)] w fun e w' => e = .returned (.int .i64 (cmpN x y)) ∧ w = w' := by
  have h1 := fun W => isNaN_any x W
  have h2 := fun W => isNaN_any y W
  unfold cmpN
  by_cases hlt : x < y
  · rw [if_pos hlt]
    have hlt' : (x : Int) < (y : Int) := by omega
    clear hlt
    go_enter Try.func54, Try.ntmps54
    go_wp2_with fail
    (with_reducible refine (h1 _).mono ?_)
    rintro e w1 ⟨rfl, rfl⟩
    go_wp2_with fail
    (with_reducible refine (h2 _).mono ?_)
    rintro e w1 ⟨rfl, rfl⟩
    go_wp2
    go_ret
    exact ⟨rfl, rfl⟩
  · rw [if_neg hlt]
    have hlt' : ¬ (x : Int) < (y : Int) := by omega
    by_cases hgt : y < x
    · rw [if_pos hgt]
      have hgt' : (y : Int) < (x : Int) := by omega
      clear hlt hgt
      go_enter Try.func54, Try.ntmps54
      go_wp2_with fail
      (with_reducible refine (h1 _).mono ?_)
      rintro e w1 ⟨rfl, rfl⟩
      go_wp2_with fail
      (with_reducible refine (h2 _).mono ?_)
      rintro e w1 ⟨rfl, rfl⟩
      go_wp2
      go_ret
      exact ⟨rfl, rfl⟩
    · rw [if_neg hgt]
      have hgt' : ¬ (y : Int) < (x : Int) := by omega
      clear hlt hgt
      go_enter Try.func54, Try.ntmps54
      go_wp2_with fail
      (with_reducible refine (h1 _).mono ?_)
      rintro e w1 ⟨rfl, rfl⟩
      go_wp2_with fail
      (with_reducible refine (h2 _).mono ?_)
      rintro e w1 ⟨rfl, rfl⟩
      go_wp2
      go_ret
      exact ⟨rfl, rfl⟩

theorem earlier1_any (a : Addr) (n c q i j oi oj : Nat) (w : World) (hi : i < n) (hj : j < n) (hn : n ≤ 1000000) (hc : w.cell? ⟨q, 0, none⟩ = some (.slice (some a) n c))
    (hoi : w.cell? ⟨(a.add (i * 25)).block, (a.add (i * 25)).off + 17, none⟩ = some (.int .u64 (oi : Int))) (hoj : w.cell? ⟨(a.add (j * 25)).block, (a.add (j * 25)).off + 17, none⟩ = some (.int .u64 (oj : Int))) :
    Calls Try.prog 53 #[.int .i64 (i : Int), .int .i64 (j : Int), .pointer (some ⟨q, 0, none⟩)] w fun e w' => e = .returned (.int .i64 (cmpN oi oj)) ∧ ∃ k, w' = w.drewN k := by
  have fp := fun W => compare_any oi oj W
  have hi' : (i : Int) < (n : Int) := by omega
  have hj' : (j : Int) < (n : Int) := by omega
  generalize cmpN oi oj = z at *
  clear hi hj
  go_enter Try.func53, Try.ntmps53
  go_upto_region 1 with fail
  go_quiet (first | (go_at_call 54; refine (fp _).mono ?_; rintro e w' ⟨rfl, rfl⟩; exact ⟨rfl, _, rfl⟩))
  go_wp2
  go_ret
  exact ⟨rfl, nq, rfl⟩

end Go.Proofs.Ytlbgcbekjjkokaa
