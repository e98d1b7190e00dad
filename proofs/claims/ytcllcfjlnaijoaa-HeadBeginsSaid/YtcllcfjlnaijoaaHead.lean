/-
  CONTRACTS of package head, first part: behind, room and the function that it makes, lowest, Size, Open, Break.
-/
import Derived.Test.YtcllcfjlnaijoaaRow
import Derived.Test.YtcllcfjlnaijoaaHeadM
namespace Go.Proofs.Ytcllcfjlnaijoaa
open Go.RowKit

theorem behind_any (k : Nat) (w : World) (hk : k ≤ 27) : Calls Try.prog 17 #[.int .u64 (k : Int)] w fun e w' => e = .returned (.int .i64 (beh k : Nat)) ∧ w = w' := by
  by_cases h : k < 24
  · rw [beh_small k h]
    have h1 : (k : Int) < 24 := by omega
    go_enter Try.func17, Try.ntmps17
    go_wp2
    go_ret
    exact ⟨rfl, rfl⟩
  · rcases (by omega : k = 24 ∨ k = 25 ∨ k = 26 ∨ k = 27) with rfl | rfl | rfl | rfl
    · rw [beh_24]
      go_enter Try.func17, Try.ntmps17
      go_wp2
      go_ret
      exact ⟨rfl, rfl⟩
    · rw [beh_25]
      go_enter Try.func17, Try.ntmps17
      go_wp2
      go_ret
      exact ⟨rfl, rfl⟩
    · rw [beh_26]
      go_enter Try.func17, Try.ntmps17
      go_wp2
      go_ret
      exact ⟨rfl, rfl⟩
    · rw [beh_27]
      go_enter Try.func17, Try.ntmps17
      go_wp2
      go_ret
      exact ⟨rfl, rfl⟩

theorem room_any (x : Int) (w : World) : Calls Try.prog 22 #[.int .u64 x] w fun e w' => e = .returned (.func (.func 26) #[] #[.pointer (some ⟨w.heap.size, 0, none⟩)]) ∧ w.alloc (.cells #[.int .u64 x] 22) = w' := by
  go_enter Try.func22, Try.ntmps22
  go_wp2
  go_ret
  exact ⟨rfl, rfl⟩

theorem fits_zero (g n : Nat) (w : World) (hg : w.heap[g]? = some (.cells #[.int .u64 (n : Int)] 22 (0, 0))) :
    Calls Try.prog 26 #[.int .i64 0, .pointer (some ⟨g, 0, none⟩)] w fun e w' => e = .returned (.bool (decide (n < 24))) ∧ w = w' := by
  have hc := cell_of_one hg
  by_cases h : n < 24
  · have h1 : (n : Int) < 24 := by omega
    rw [decide_eq_true h]
    go_enter Try.func26, Try.ntmps26
    go_wp2
    go_ret
    exact ⟨rfl, rfl⟩
  · have h1 : ¬ (n : Int) < 24 := by omega
    rw [decide_eq_false h]
    go_enter Try.func26, Try.ntmps26
    go_wp2
    go_ret
    exact ⟨rfl, rfl⟩

theorem fits_any (g n q : Nat) (w : World) (hg : w.heap[g]? = some (.cells #[.int .u64 (n : Int)] 22 (0, 0))) (hq : 24 ≤ q) (hq2 : q ≤ 27) :
    Calls Try.prog 26 #[.int .i64 (beh q : Nat), .pointer (some ⟨g, 0, none⟩)] w fun e w' => e = .returned (.bool (decide (n < 256 ^ beh q))) ∧ w = w' := by
  have hc := cell_of_one hg
  have hp := beh_pos q hq
  have h8 := beh_le q hq2
  generalize beh q = s at *
  have hz : ¬ (s : Int) = 0 := by omega
  have e8 : IntKind.i64.wrap (8 * (s : Int)) = 8 * (s : Int) := IntWalk.i64_in _ (by omega)
  have p8 : 0 ≤ 8 * (s : Int) := by omega
  have hd : (n : Int) / 2 ^ (8 * (s : Int)).toNat = ((n / 256 ^ s : Nat) : Int) := by rw [two_pow_eight]; rfl
  by_cases h : n < 256 ^ s
  · rw [decide_eq_true h]
    have hx : n / 256 ^ s = 0 := Nat.div_eq_of_lt h
    rw [hx] at hd
    clear h hx
    go_enter Try.func26, Try.ntmps26
    go_wp2
    go_ret
    exact ⟨rfl, rfl⟩
  · rw [decide_eq_false h]
    have hx : ¬ ((n / 256 ^ s : Nat) : Int) = 0 := by
      have : 0 < n / 256 ^ s := Nat.div_pos (Nat.le_of_not_lt h) (Nat.pow_pos (by decide))
      omega
    generalize n / 256 ^ s = y at *
    have hyb : ((y : Int) == 0) = false := by simpa using hx
    clear h hx
    go_enter Try.func26, Try.ntmps26
    go_wp2
    go_ret
    exact ⟨rfl, rfl⟩

theorem lowest_any (n : Nat) (w : World) (hn : n < 18446744073709551616) : Calls Try.prog 15 #[.int .u64 (n : Int)] w fun e w' => e = .returned (.int .u64 (lowN n : Nat)) ∧ Below w.heap.size w w' := by
  have Hn := hide hn
  have Hlt := hide (fun q (h : 24 ≤ q) (hq : q < lowN n) => lowN_first h hq)
  have Hfit := hide (fun (h : 24 ≤ n) => lowN_fits h hn)
  have Hsm := hide (fun (h : n < 24) => lowN_small h)
  have Hge := hide (fun (h : 24 ≤ n) => lowN_ge h)
  have hle := lowN_le n
  obtain ⟨z, hz⟩ : ∃ z, z = lowN n := ⟨_, rfl⟩
  rw [← hz] at Hlt Hfit Hsm Hge hle ⊢
  clear hz hn
  go_enter Try.func15, Try.ntmps15
  go_wp2_with fail
  (with_reducible refine (room_any _ _).mono ?_)
  rintro e w1 ⟨rfl, rfl⟩
  have hg := heap_alloc_new w (.cells #[.int .u64 (n : Int)] 22)
  have Hg := hide hg
  have Hb := hide ((Below.refl w.heap.size w).alloc (Nat.le_refl _) (.cells #[.int .u64 (n : Int)] 22))
  clear hg
  go_wp2_with fail
  have fp := fits_zero _ n _ Hg.out
  (with_reducible refine fp.mono ?_)
  clear fp
  rintro e w2 ⟨rfl, rfl⟩
  by_cases h24 : n < 24
  · rw [decide_eq_true h24]
    go_wp2
    go_ret
    exact ⟨by rw [Hsm.out h24]; rfl, Hb.out⟩
  · rw [decide_eq_false h24]
    have hz24 := Hge.out (Nat.le_of_not_lt h24)
    have hzf := hide (Hfit.out (Nat.le_of_not_lt h24))
    clear h24
    go_wp2
    go_loop [3] (fun i => ∃ q : Nat, 24 ≤ q ∧ q ≤ z ∧ i = .int .u64 (q : Int)) (fun i => 27 - (intOf i).toNat)
    case atStart => exact ⟨24, by omega, by omega, rfl⟩
    case round =>
      obtain ⟨q, hq, hqz, rfl⟩ := hrel
      go_wp2_with fail
      (with_reducible refine (behind_any q _ (by omega)).mono ?_)
      rintro e w2 ⟨rfl, rfl⟩
      go_wp2_with fail
      have fp := fits_any _ n q _ Hg.out hq (by omega)
      (with_reducible refine fp.mono ?_)
      clear fp
      rintro e w2 ⟨rfl, rfl⟩
      by_cases hlt : q < z
      · have := Hlt.out q hq hlt
        rw [decide_eq_false (by omega)]
        have e1 : IntKind.u64.wrap ((q : Int) + 1) = ((q + 1 : Nat) : Int) := by rw [show (q : Int) + 1 = ((q + 1 : Nat) : Int) by omega, u64_wrap_small _ (by omega)]
        clear this
        go_wp2
        refine ⟨⟨q + 1, by omega, by omega, ?_⟩, by simp [intOf]; omega⟩
        rfl
      · obtain rfl : q = z := by omega
        rw [decide_eq_true hzf.out]
        go_wp2
        go_ret
        exact ⟨rfl, Hb.out⟩

theorem size_any (n : Nat) (w : World) (hn : n < 18446744073709551616) : Calls Try.prog 10 #[.int .u64 (n : Int)] w fun e w' => e = .returned (.int .i64 (sizeN n : Nat)) ∧ Below w.heap.size w w' := by
  have hl := lowN_le n
  have h8 := beh_le _ hl
  have hs : sizeN n = 1 + beh (lowN n) := rfl
  have f1 := lowest_any n w hn
  generalize sizeN n = s at *
  generalize lowN n = q at *
  clear hn
  go_enter Try.func10, Try.ntmps10
  go_wp2_with fail
  (with_reducible refine f1.mono ?_)
  clear f1
  rintro e w1 ⟨rfl, hb1⟩
  have Hb1 := hide hb1
  clear hb1
  go_wp2_with fail
  (with_reducible refine (behind_any q _ hl).mono ?_)
  rintro e w2 ⟨rfl, rfl⟩
  generalize beh q = y at *
  subst hs
  have e1 : IntKind.i64.wrap (1 + (y : Int)) = ((1 + y : Nat) : Int) := IntWalk.i64_in _ (by omega)
  go_wp2
  go_ret
  exact ⟨by first | rfl | (congr 2), Hb1.out⟩

theorem open_any (w : World) : Calls Try.prog 14 #[] w fun e w' => e = .returned (.slice (some ⟨w.heap.size, 0, none⟩) 1 1) ∧ w.alloc (.cells #[.int .u8 159] 5) = w' := by
  go_enter Try.func14, Try.ntmps14
  go_wp2
  go_ret
  exact ⟨rfl, rfl⟩
theorem break_any (w : World) : Calls Try.prog 13 #[] w fun e w' => e = .returned (.slice (some ⟨w.heap.size, 0, none⟩) 1 1) ∧ w.alloc (.cells #[.int .u8 255] 5) = w' := by
  go_enter Try.func13, Try.ntmps13
  go_wp2
  go_ret
  exact ⟨rfl, rfl⟩

end Go.Proofs.Ytcllcfjlnaijoaa
