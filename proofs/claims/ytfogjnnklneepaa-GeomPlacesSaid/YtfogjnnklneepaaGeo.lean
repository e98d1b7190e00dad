/-
  CONTRACTS of package geom, first part: within, Check, Pages, Cost; the reference's Right, Pages.
-/
import Derived.Test.YtfogjnnklneepaaGeoM
import Derived.Test.YtfogjnnklneepaaProg
import Derived.IntWalk
namespace Go.Proofs.Ytfogjnnklneepaa
open Go.RowKit

theorem gret_int {k : IntKind} {a b : Int} (h : a = b) : Ending.returned (.int k a) = .returned (.int k b) := by rw [h]
theorem gret_bool {a b : Bool} (h : a = b) : Ending.returned (.bool a) = .returned (.bool b) := by rw [h]

theorem within_any (z a b : Int) (w : World) : Calls Try.prog 16 #[.int .i64 z, .int .i64 a, .int .i64 b] w fun e w' => e = .returned (.bool (decide (a ≤ z ∧ z ≤ b))) ∧ w = w' := by
  by_cases h1 : a ≤ z
  · by_cases h2 : z ≤ b
    · rw [decide_eq_true (And.intro h1 h2)]
      go_enter Try.func16, Try.ntmps16
      go_wp2
      go_ret
      exact ⟨rfl, rfl⟩
    · rw [decide_eq_false (fun h => h2 h.2)]
      go_enter Try.func16, Try.ntmps16
      go_wp2
      go_ret
      exact ⟨rfl, rfl⟩
  · rw [decide_eq_false (fun h => h1 h.1)]
    go_enter Try.func16, Try.ntmps16
    go_wp2
    go_ret
    exact ⟨rfl, rfl⟩

theorem check_any (g : Gm) (w : World) : Calls Try.prog 12 #[g.val] w fun e w' => e = .returned (.int .i64 g.check) ∧ Below w.heap.size w w' := by
  rcases g with ⟨b, p, r⟩
  have Hb := hide (fun o => (Below.refl w.heap.size w).alloc (Nat.le_refl _) o)
  have f1 := within_any b 8 34
  have f2 := within_any p 4 32
  have f3 := within_any r 0 8
  unfold Gm.val
  simp only
  by_cases h1 : 8 ≤ b ∧ b ≤ 34
  · rw [decide_eq_true h1] at f1
    by_cases h2 : 4 ≤ p ∧ p ≤ 32
    · rw [decide_eq_true h2] at f2
      by_cases h3 : 0 ≤ r ∧ r ≤ 8
      · rw [decide_eq_true h3] at f3
        rw [Gm.check_ok (show Gm.Right ⟨b, p, r⟩ from ⟨h1.1, h1.2, h2.1, h2.2, h3.1, h3.2⟩)]
        clear h1 h2 h3
        go_enter Try.func12, Try.ntmps12
        go_wp2_with (first
          | (go_at_call 16; (with_reducible refine (f1 _).mono ?_); rintro e w1 ⟨rfl, rfl⟩; clear f1)
          | (go_at_call 16; (with_reducible refine (f2 _).mono ?_); rintro e w1 ⟨rfl, rfl⟩; clear f2)
          | (go_at_call 16; (with_reducible refine (f3 _).mono ?_); rintro e w1 ⟨rfl, rfl⟩; clear f3))
        go_ret
        exact ⟨rfl, Hb.out _⟩
      · rw [decide_eq_false h3] at f3
        rw [Gm.check_not (show ¬ Gm.Right ⟨b, p, r⟩ from fun h => h3 ⟨h.2.2.2.2.1, h.2.2.2.2.2⟩)]
        clear h1 h2 h3
        go_enter Try.func12, Try.ntmps12
        go_wp2_with (first
          | (go_at_call 16; (with_reducible refine (f1 _).mono ?_); rintro e w1 ⟨rfl, rfl⟩; clear f1)
          | (go_at_call 16; (with_reducible refine (f2 _).mono ?_); rintro e w1 ⟨rfl, rfl⟩; clear f2)
          | (go_at_call 16; (with_reducible refine (f3 _).mono ?_); rintro e w1 ⟨rfl, rfl⟩; clear f3))
        go_ret
        exact ⟨rfl, Hb.out _⟩
    · rw [decide_eq_false h2] at f2
      rw [Gm.check_not (show ¬ Gm.Right ⟨b, p, r⟩ from fun h => h2 ⟨h.2.2.1, h.2.2.2.1⟩)]
      clear h1 h2
      go_enter Try.func12, Try.ntmps12
      go_wp2_with (first
        | (go_at_call 16; (with_reducible refine (f1 _).mono ?_); rintro e w1 ⟨rfl, rfl⟩; clear f1)
        | (go_at_call 16; (with_reducible refine (f2 _).mono ?_); rintro e w1 ⟨rfl, rfl⟩; clear f2))
      go_ret
      exact ⟨rfl, Hb.out _⟩
  · rw [decide_eq_false h1] at f1
    rw [Gm.check_not (show ¬ Gm.Right ⟨b, p, r⟩ from fun h => h1 ⟨h.1, h.2.1⟩)]
    clear h1
    go_enter Try.func12, Try.ntmps12
    go_wp2_with (go_at_call 16; (with_reducible refine (f1 _).mono ?_); rintro e w1 ⟨rfl, rfl⟩; clear f1)
    go_ret
    exact ⟨rfl, Hb.out _⟩

theorem gwr64 {n : Int} (h : -9223372036854775808 ≤ n ∧ n ≤ 9223372036854775807) : wrap64 n = n := by unfold wrap64; omega
theorem pagesZ_le {n : Int} (h : n ≤ 9223372036854775807) : 1 ≤ pagesZ n ∧ pagesZ n ≤ 40453386126556035 := by unfold pagesZ; omega

theorem pages_any (n : Int) (w : World) (h : -9223372036854775808 ≤ n ∧ n ≤ 9223372036854775807) : Calls Try.prog 7 #[.int .i64 n] w fun e w' => e = .returned (.int .i64 (pagesZ n)) ∧ w = w' := by
  by_cases h1 : 1 < n
  · have e1 : wrap64 (n - 1) = n - 1 := gwr64 (by omega)
    have e2 : Int.tdiv (n - 1) 228 = (n - 1) / 228 := Int.tdiv_eq_ediv_of_nonneg (by omega)
    have e3 : wrap64 ((n - 1) / 228) = (n - 1) / 228 := gwr64 (by omega)
    have e4 : wrap64 ((n - 1) / 228 + 1) = (n - 1) / 228 + 1 := gwr64 (by omega)
    have hp : pagesZ n = (n - 1) / 228 + 1 := by unfold pagesZ; omega
    have Hp := hide hp
    clear h hp
    go_enter Try.func7, Try.ntmps7
    go_wp2
    go_ret
    exact ⟨gret_int (by rw [Hp.out, e4]), rfl⟩
  · have hp : pagesZ n = 1 := by unfold pagesZ; omega
    rw [hp]
    by_cases h2 : n = 1
    · subst h2
      clear h hp
      go_enter Try.func7, Try.ntmps7
      go_wp2
      go_ret
      exact ⟨rfl, rfl⟩
    have h3 : ¬ 1 ≤ n := by omega
    have h4 : n < 1 := by omega
    have h5 : n ≤ 1 := by omega
    clear h hp
    go_enter Try.func7, Try.ntmps7
    go_wp2
    go_ret
    exact ⟨rfl, rfl⟩

theorem cost_any (n : Int) (w : World) (h : -9223372036854775808 ≤ n ∧ n ≤ 9223372036854775807) : Calls Try.prog 8 #[.int .i64 n] w fun e w' => e = .returned (.int .i64 (pagesZ n + 1)) ∧ w = w' := by
  have f1 := pages_any n w h
  have hz := pagesZ_le h.2
  generalize pagesZ n = z at *
  have e1 : wrap64 (z + 1) = z + 1 := gwr64 (by omega)
  clear h hz
  go_enter Try.func8, Try.ntmps8
  go_wp2_with (go_at_call 7; (with_reducible refine f1.mono ?_); rintro e w1 ⟨rfl, rfl⟩; clear f1)
  go_ret
  exact ⟨gret_int e1, rfl⟩

theorem right13_any (g : Gm) (w : World) : Calls Try.prog 11 #[g.val] w fun e w' => e = .returned (.bool (decide g.Right)) ∧ Below w.heap.size w w' := by
  rcases g with ⟨b, p, r⟩
  have Hb := hide (fun o => (Below.refl w.heap.size w).alloc (Nat.le_refl _) o)
  unfold Gm.val
  simp only
  by_cases h : Gm.Right ⟨b, p, r⟩
  · rw [decide_eq_true h]
    obtain ⟨h1, h2, h3, h4, h5, h6⟩ := h
    simp only at h1 h2 h3 h4 h5 h6
    go_enter Try.func11, Try.ntmps11
    go_wp2
    go_ret
    exact ⟨rfl, Hb.out _⟩
  · rw [decide_eq_false h]
    by_cases h1 : 8 ≤ b
    · by_cases h2 : b ≤ 34
      · by_cases h3 : 4 ≤ p
        · by_cases h4 : p ≤ 32
          · by_cases h5 : 0 ≤ r
            · have h6 : ¬ r ≤ 8 := fun h6 => h ⟨h1, h2, h3, h4, h5, h6⟩
              clear h
              go_enter Try.func11, Try.ntmps11
              go_wp2
              go_ret
              exact ⟨rfl, Hb.out _⟩
            · clear h
              go_enter Try.func11, Try.ntmps11
              go_wp2
              go_ret
              exact ⟨rfl, Hb.out _⟩
          · clear h
            go_enter Try.func11, Try.ntmps11
            go_wp2
            go_ret
            exact ⟨rfl, Hb.out _⟩
        · clear h
          go_enter Try.func11, Try.ntmps11
          go_wp2
          go_ret
          exact ⟨rfl, Hb.out _⟩
      · clear h
        go_enter Try.func11, Try.ntmps11
        go_wp2
        go_ret
        exact ⟨rfl, Hb.out _⟩
    · clear h
      go_enter Try.func11, Try.ntmps11
      go_wp2
      go_ret
      exact ⟨rfl, Hb.out _⟩

theorem pages13_any (n : Int) (w : World) (h : -9223372036854775808 ≤ n ∧ n ≤ 200000) : Calls Try.prog 6 #[.int .i64 n] w fun e w' => e = .returned (.int .i64 (pagesZ n)) ∧ w = w' := by
  have hz : 1 ≤ pagesZ n ∧ pagesZ n ≤ 900 ∧ n ≤ 228 * pagesZ n ∧ ∀ k, k < pagesZ n → 1 ≤ k → 228 * k < n := by
    unfold pagesZ
    refine ⟨by omega, by omega, by omega, ?_⟩
    intro k h1 h2
    omega
  generalize pagesZ n = z at *
  obtain ⟨h1, h2, h3, h4⟩ := hz
  have H3 := hide h3
  have H4 := hide h4
  clear h h3 h4
  go_enter Try.func6, Try.ntmps6
  go_wp2
  go_loop [3] (fun i => ∃ k : Int, 1 ≤ k ∧ k ≤ z ∧ i = .int .i64 k) (fun i => (z - intOf i).toNat)
  case atStart => exact ⟨1, by omega, by omega, rfl⟩
  case round =>
    obtain ⟨k, hk, hkz, rfl⟩ := hrel
    have e1 : wrap64 (228 * k) = 228 * k := gwr64 (by omega)
    by_cases hlt : k < z
    · have h5 := H4.out k hlt hk
      have h6 : k < 1000 := by omega
      have e2 : wrap64 (k + 1) = k + 1 := gwr64 (by omega)
      go_wp2
      refine ⟨⟨k + 1, by omega, by omega, rfl⟩, by simp [intOf]; omega⟩
    · obtain rfl : k = z := by omega
      have h5 : ¬ 228 * k < n := by have := H3.out; omega
      go_wp2
      go_ret
      exact ⟨rfl, rfl⟩

end Go.Proofs.Ytfogjnnklneepaa
