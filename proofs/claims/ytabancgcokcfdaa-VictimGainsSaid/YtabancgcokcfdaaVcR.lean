/-
  LAYER 22: slices.SortFunc and slices.SortedFunc of fewer than fifty blocks, by the comparing function that keeps what it told.
-/
import Derived.Test.YtabancgcokcfdaaVcQ
import Derived.Test.YtabancgcokcfdaaValI
namespace Go.Proofs.Ytabancgcokcfdaa
open Go.RowKit
set_option maxRecDepth 8000
namespace Vc
theorem perm_allV {D R : Array Int} (h : Sort.PermIn 0 D.size D R) : R.toList.Perm D.toList := by
  have h3 := h.2.2
  rwa [show R.extract 0 D.size = R by rw [← h.1]; simp, show D.extract 0 D.size = D by simp] at h3
theorem pair_allV {lt : Int → Int → Bool} {R : Array Int} (h : Sort.SortedIn lt 0 R.size R) : R.toList.Pairwise fun x y => lt y x = false := by
  rw [List.pairwise_iff_getElem]
  intro i j hi hj hij
  have h1 := h i j (Nat.zero_le _) hij (by simpa using hj)
  have hi' : i < R.size := by simpa using hi
  have hj' : j < R.size := by simpa using hj
  rw [getElem!_pos R i hi', getElem!_pos R j hj'] at h1
  simpa using h1
section
variable {L : List Pl2} {S : List Int} {q base g c : Nat}
set_option maxHeartbeats 4000000 in
theorem sorts_cmp (N : Nat) (l : List Int) (w : World) (h : w.ownsRow base 3 1 (.slice (some ⟨g, 0, none⟩) N c) N (nums .i64 l)) (hk : Ka L S q w) (he : Env L S) (hm : ∀ x ∈ l, x ∈ S) (hlo : q + 4 ≤ base) (hN : N < 50) :
    Calls Try.prog 27 #[.slice (some ⟨g, 0, none⟩) N c, .func (.func 23) #[] #[.pointer (some ⟨q + 3, 0, none⟩)]] w fun e w' => e = .returned (.tuple #[]) ∧ ∃ R : List Int, R.Perm l ∧ (R.Pairwise fun x y => ltV L y x = false) ∧ w'.ownsRow base 3 1 (.slice (some ⟨g, 0, none⟩) N c) N (nums .i64 R) ∧ Two w w' g (q + 1) := by
  have hln : l.length = N := by have := h.1; rwa [nums_len, Nat.mul_one] at this
  have hs : Vd L S q base g c N w l.toArray w := ⟨h, hk, Two.refl _ _ _, fun k hk2 => by rw [← arr_atV]; simp only [List.getD_eq_getElem?_getD]; rw [List.getElem?_eq_getElem (by omega)]; exact hm _ (List.getElem_mem _), he, hlo, hk.lt⟩
  have hbl : Lib.bitLen N ≤ 100 := Nat.le_trans (Lib.bitLen_le N 6 (by omega) (by omega)) (by decide)
  have FB := hide (Any.bits_Len Try.layLen (N : Int) w (by omega) (by omega))
  rw [Int.toNat_natCast] at FB
  have FB2 : Hid (Calls Try.prog 32 #[.int .u64 (N : Int)] w fun e w' => e = .returned (.int .i64 (Lib.bitLen N : Nat)) ∧ w' = w) := FB
  have FP := hide (pdqs_cmp (c := c) hN N 0 N (Lib.bitLen N) l.toArray w (by omega) (Nat.zero_le _) (Nat.le_refl _) hbl (.inl rfl) hs)
  have e1 : IntKind.u64.wrap (N : Int) = (N : Int) := by rw [IntKind.wrap_u64]; omega
  generalize Lib.bitLen N = B at *
  have Hl := hide hln
  clear hs h hN hbl FB hln hk he hm hlo
  rw [show ((0 : Nat) : Int) = 0 from rfl] at FP
  go_enter Try.func27, Try.ntmps27
  go_wp2_with fail
  (with_reducible refine FB2.out.mono ?_)
  rintro e w1 ⟨rfl, rfl⟩
  go_wp2_with fail
  (with_reducible refine FP.out.mono ?_)
  rintro e w2 ⟨rfl, R, h1, h2, h3⟩
  have hl : l.toArray.size = N := by simpa using Hl.out
  have hR : R.size = N := h1.1.trans hl
  have Hp := hide (perm_allV (by rw [hl]; exact h1))
  have Hq := hide (pair_allV (by rw [hR]; exact h2))
  have HT := hide h3
  clear h1 h2 h3 hl hR
  go_wp2
  go_end0
  exact ⟨rfl, R.toList, Hp.out, Hq.out, HT.out.row, HT.out.two⟩
set_option maxHeartbeats 4000000 in
theorem sorts0_cmp (A : Option Addr) (c : Nat) (fv : Value) (w : World) :
    Calls Try.prog 27 #[.slice A 0 c, fv] w fun e w' => e = .returned (.tuple #[]) ∧ w' = w := by
  have FB : Hid (Calls Try.prog 32 #[.int .u64 0] w fun e w' => e = .returned (.int .i64 0) ∧ w' = w) := hide (Any.bits_Len Try.layLen 0 w (by omega) (by omega))
  have FI : Hid (∀ W, Calls Try.prog 33 #[.slice A 0 c, .int .i64 0, .int .i64 0, fv] W fun e w' => e = .returned (.tuple #[]) ∧ W = w') := hide (fun W => ins0_cmp (.slice A 0 c) fv 0 W (by omega))
  have FP : Hid (Calls Try.prog 31 #[.slice A 0 c, .int .i64 0, .int .i64 0, .int .i64 0, fv] w fun e w' => e = .returned (.tuple #[]) ∧ w' = w) := by
    refine hide ?_
    clear FB
    have e1 : wrap64 ((0 : Int) - 0) = 0 := by rw [Int.sub_self]; exact w6n (x := 0) (Nat.zero_le _)
    go_enter Try.func31, Try.ntmps31
    go_wp2
    go_loopw [1, 2, 3, 10, 11] (fun A B _ _ _ wr => A = .int .i64 0 ∧ B = .int .i64 0 ∧ wr = w) (fun _ _ _ _ _ _ => 0)
    case atStart => exact ⟨rfl, rfl, rfl⟩
    case round =>
      obtain ⟨rfl, rfl, rfl⟩ := hrel
      go_wp2_with fail
      (with_reducible refine (FI.out _).mono ?_)
      rintro e w2 ⟨rfl, rfl⟩
      go_wp2
      first | go_end0 | ((try simp only [Exit.inBlock, Exit.then]); refine bodyPost_ret (results_none rfl _ _ _) rfl ?_)
      exact ⟨rfl, rfl⟩
  clear FI
  go_enter Try.func27, Try.ntmps27
  go_wp2_with fail
  (with_reducible refine FB.out.mono ?_)
  rintro e w1 ⟨rfl, rfl⟩
  go_wp2_with fail
  (with_reducible refine FP.out.mono ?_)
  rintro e w2 ⟨rfl, rfl⟩
  go_wp2
  go_end0
  exact ⟨rfl, rfl⟩
theorem sortAny_cmp (v : Value) (n : Nat) (l : List Int) (w : World) (h : w.ownsRow base 3 1 v n (nums .i64 l)) (hk : Ka L S q w) (he : Env L S) (hm : ∀ x ∈ l, x ∈ S) (hlo : q + 4 ≤ base) (hN : n < 50) :
    Calls Try.prog 27 #[v, .func (.func 23) #[] #[.pointer (some ⟨q + 3, 0, none⟩)]] w fun e w' => e = .returned (.tuple #[]) ∧ ∃ R : List Int, R.Perm l ∧ (R.Pairwise fun x y => ltV L y x = false) ∧ w'.ownsRow base 3 1 v n (nums .i64 R) ∧ Below q w w' := by
  have h' := h
  rcases h.2 with ⟨rfl, h0⟩ | ⟨g, cap, cur, rfl, hbg, _⟩
  · subst h0
    have hl : l = [] := by
      have := h.1
      rw [nums_len, Nat.zero_mul] at this
      exact List.length_eq_zero_iff.1 this
    subst hl
    refine (sorts0_cmp none 0 _ w).mono ?_
    rintro e w' ⟨rfl, rfl⟩
    exact ⟨rfl, [], List.Perm.refl _, List.Pairwise.nil, h', Below.refl _ _⟩
  · refine (sorts_cmp n l w h' hk he hm hlo hN).mono ?_
    rintro e w' ⟨rfl, R, h1, h2, h3, h4⟩
    have := hk.lt
    exact ⟨rfl, R, h1, h2, h3, h4.os, h4.tape, h4.output, h4.size, fun k hk2 => h4.block k (by omega) (by omega) (by omega)⟩
set_option maxHeartbeats 4000000 in
/-- slices.SortedFunc of a list's iterator, behind Values, keeper and ahead. -/
theorem sortedFunc_cmp (Bs : Nat) (A : Option Addr) (cap : Nat) (zs : List Int) (w : World) (hBs : w.cell? ⟨Bs, 0, none⟩ = some (.slice A zs.length cap)) (hlt : Bs < w.heap.size) (hI : Lies w w.heap.size A (nums .i64 zs)) (hk : Ka L S q w) (he : Env L S) (hm : ∀ x ∈ zs, x ∈ S) (hN : zs.length < 50) :
    Calls Try.prog 19 #[.func (.func 28) #[] #[.pointer (some ⟨Bs, 0, none⟩)], .func (.func 23) #[] #[.pointer (some ⟨q + 3, 0, none⟩)]] w fun e w' => ∃ (v : Value) (R : List Int), e = .returned v ∧ R.Perm zs ∧ (R.Pairwise fun x y => ltV L y x = false) ∧ w'.ownsRow w.heap.size 3 1 v R.length (nums .i64 R) ∧ Below q w w' := by
  have FC := hide (Pk.collect_any Bs A cap zs (by omega) w hlt hBs hI)
  have Hk := hide hk
  have HS := hide (fun v W (h : W.ownsRow w.heap.size 3 1 v zs.length (nums .i64 zs)) (hk : Ka L S q W) (hq : q + 4 ≤ w.heap.size) => sortAny_cmp v zs.length zs W h hk he hm hq hN)
  clear hk he hm hN hI hBs hlt
  go_enter Try.func19, Try.ntmps19
  go_wp2_with fail
  (with_reducible refine FC.out.mono ?_)
  rintro e w1 ⟨v, rfl, hrow, hb⟩
  have HB := hide hb
  have F2 := hide (HS.out v w1 hrow (Hk.out.kept (r := none) (grown_below hb) (fun _ e => by cases e)) Hk.out.lt)
  obtain ⟨A2, c2, hv, _⟩ := own_form hrow
  clear hrow hb FC HS
  subst hv
  go_wp2_with fail
  (with_reducible refine F2.out.mono ?_)
  rintro e w2 ⟨rfl, R, h1, h2, h3, h4⟩
  have HR := hide (And.intro h1 (And.intro h2 (And.intro h3 h4)))
  clear h1 h2 h3 h4 F2
  go_wp2
  go_ret
  obtain ⟨h1, h2, h3, h4⟩ := HR.out
  exact ⟨_, R, rfl, h1, h2, by rw [h1.length_eq]; exact h3, (HB.out.mono (by have := Hk.out.lt; omega)).trans h4⟩
end
end Vc
end Go.Proofs.Ytabancgcokcfdaa
