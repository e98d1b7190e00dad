/-
  SORTING at uint64: slices.Sort of fewer than fifty numbers: a permutation that rises. slices.BinarySearch in it.
-/
import Derived.Test.YtjdaoenapmjoeaaSuQ
namespace Go.Proofs.Ytjdaoenapmjoeaa
open Go.RowKit
set_option maxRecDepth 8000
namespace So
theorem perm_all {D R : Array Int} (h : Sort.PermIn 0 D.size D R) : R.toList.Perm D.toList := by
  have h3 := h.2.2
  rwa [show R.extract 0 D.size = R by rw [← h.1]; simp, show D.extract 0 D.size = D by simp] at h3
theorem pair_all {R : Array Int} (h : Sort.SortedIn ltZ 0 R.size R) : R.toList.Pairwise (· ≤ ·) := by
  rw [List.pairwise_iff_getElem]
  intro i j hi hj hij
  have h1 := h i j (Nat.zero_le _) hij (by simpa using hj)
  have hi' : i < R.size := by simpa using hi
  have hj' : j < R.size := by simpa using hj
  rw [getElem!_pos R i hi', getElem!_pos R j hj'] at h1
  have := of_decide_eq_false h1
  simp only [Array.getElem_toList]
  omega
section
variable {base g c : Nat}
set_option maxHeartbeats 4000000 in
theorem sorts_u64 (N : Nat) (l : List Int) (w : World) (h : w.ownsRow base 26 1 (.slice (some ⟨g, 0, none⟩) N c) N (nums .u64 l)) (hN : N < 50) (h0 : 0 < N) :
    Calls Try.prog 23 #[.slice (some ⟨g, 0, none⟩) N c] w fun e w' => e = .returned (.tuple #[]) ∧ ∃ R : List Int, R.Perm l ∧ R.Pairwise (· ≤ ·) ∧ w'.ownsRow base 26 1 (.slice (some ⟨g, 0, none⟩) N c) N (nums .u64 R) ∧ w.grownBy w' (some g) := by
  have hs : Sa base g c N w l.toArray w := ⟨h, ⟨rfl, rfl, rfl, Nat.le_refl _, fun _ _ _ => rfl⟩⟩
  have hln : l.length = N := by have := Sa.size hs; simpa using this
  have hbl : Lib.bitLen N ≤ 100 := Nat.le_trans (Lib.bitLen_le N 6 (by omega) (by omega)) (by decide)
  have FB := hide (Any.bits_Len Try.layLen (N : Int) w (by omega) (by omega))
  rw [Int.toNat_natCast] at FB
  have FB2 : Hid (Calls Try.prog 31 #[.int .u64 (N : Int)] w fun e w' => e = .returned (.int .i64 (Lib.bitLen N : Nat)) ∧ w' = w) := FB
  have FP := hide (pdqs_u64 (c := c) hN N 0 N (Lib.bitLen N) l.toArray w (by omega) (Nat.zero_le _) (Nat.le_refl _) hbl (.inl rfl) hs)
  have e1 : IntKind.u64.wrap (N : Int) = (N : Int) := by rw [IntKind.wrap_u64]; omega
  generalize Lib.bitLen N = B at *
  have Hl := hide hln
  clear hs h hN h0 hbl FB hln
  rw [show ((0 : Nat) : Int) = 0 from rfl] at FP
  go_enter Try.func23, Try.ntmps23
  go_wp2_with fail
  (with_reducible refine FB2.out.mono ?_)
  rintro e w1 ⟨rfl, rfl⟩
  go_wp2_with fail
  (with_reducible refine FP.out.mono ?_)
  rintro e w2 ⟨rfl, R, h1, h2, h3⟩
  have hl : l.toArray.size = N := by simpa using Hl.out
  have hR : R.size = N := h1.1.trans hl
  have Hp := hide (perm_all (by rw [hl]; exact h1))
  have Hq := hide (pair_all (by rw [hR]; exact h2))
  have HT := hide h3
  clear h1 h2 h3 hl hR
  go_wp2
  go_end0
  exact ⟨rfl, R.toList, Hp.out, Hq.out, HT.out.1, HT.out.2⟩
set_option maxHeartbeats 4000000 in
theorem sorts0_u64 (A : Option Addr) (c : Nat) (w : World) :
    Calls Try.prog 23 #[.slice A 0 c] w fun e w' => e = .returned (.tuple #[]) ∧ w' = w := by
  have FB : Hid (Calls Try.prog 31 #[.int .u64 0] w fun e w' => e = .returned (.int .i64 0) ∧ w' = w) := hide (Any.bits_Len Try.layLen 0 w (by omega) (by omega))
  have FI : Hid (∀ W, Calls Try.prog 53 #[.slice A 0 c, .int .i64 0, .int .i64 0] W fun e w' => e = .returned (.tuple #[]) ∧ W = w') := hide (fun W => ins0_u64 (.slice A 0 c) 0 W (by omega))
  have FP : Hid (Calls Try.prog 36 #[.slice A 0 c, .int .i64 0, .int .i64 0, .int .i64 0] w fun e w' => e = .returned (.tuple #[]) ∧ w' = w) := by
    refine hide ?_
    clear FB
    have e1 : wrap64 ((0 : Int) - 0) = 0 := by rw [Int.sub_self]; exact w6n (x := 0) (Nat.zero_le _)
    go_enter Try.func36, Try.ntmps36
    go_wp2
    go_loopw [1, 2, 3, 8, 9] (fun A B _ _ _ wr => A = .int .i64 0 ∧ B = .int .i64 0 ∧ wr = w) (fun _ _ _ _ _ _ => 0)
    case atStart => exact ⟨rfl, rfl, rfl⟩
    case round =>
      obtain ⟨rfl, rfl, rfl⟩ := hrel
      go_wp2_with fail
      (with_reducible refine (FI.out _).mono ?_)
      rintro e w2 ⟨rfl, rfl⟩
      go_wp2
      first | go_end0 | ((try simp only [Exit.inBlock, Exit.then]); refine bodyPost_ret (results_none rfl _ _ _) rfl ?_)
      exact ⟨rfl, rfl⟩
  clear FI
  go_enter Try.func23, Try.ntmps23
  go_wp2_with fail
  (with_reducible refine FB.out.mono ?_)
  rintro e w1 ⟨rfl, rfl⟩
  go_wp2_with fail
  (with_reducible refine FP.out.mono ?_)
  rintro e w2 ⟨rfl, rfl⟩
  go_wp2
  go_end0
  exact ⟨rfl, rfl⟩
theorem sortAny_u64 (v : Value) (n : Nat) (l : List Int) (w : World) (h : w.ownsRow base 26 1 v n (nums .u64 l)) (hN : n < 50) :
    Calls Try.prog 23 #[v] w fun e w' => e = .returned (.tuple #[]) ∧ ∃ R : List Int, R.Perm l ∧ R.Pairwise (· ≤ ·) ∧ w'.ownsRow base 26 1 v n (nums .u64 R) ∧ w.grownBy w' v.ownBlock := by
  have h' := h
  rcases h.2 with ⟨rfl, h0⟩ | ⟨g, cap, cur, rfl, _⟩
  · subst h0
    have hl : l = [] := by
      have := h.1
      rw [nums_len, Nat.zero_mul] at this
      exact List.length_eq_zero_iff.1 this
    subst hl
    refine (sorts0_u64 none 0 w).mono ?_
    rintro e w' ⟨rfl, rfl⟩
    exact ⟨rfl, [], List.Perm.refl _, List.Pairwise.nil, h', ⟨rfl, rfl, rfl, Nat.le_refl _, fun _ _ _ => rfl⟩⟩
  · by_cases h0 : 0 < n
    · exact sorts_u64 n l w h' hN h0
    · obtain rfl : n = 0 := by omega
      have hl : l = [] := by
        have := h'.1
        rw [nums_len, Nat.zero_mul] at this
        exact List.length_eq_zero_iff.1 this
      subst hl
      refine (sorts0_u64 _ cap w).mono ?_
      rintro e w' ⟨rfl, rfl⟩
      exact ⟨rfl, [], List.Perm.refl _, List.Pairwise.nil, h', ⟨rfl, rfl, rfl, Nat.le_refl _, fun _ _ _ => rfl⟩⟩
end
end So
end Go.Proofs.Ytjdaoenapmjoeaa
