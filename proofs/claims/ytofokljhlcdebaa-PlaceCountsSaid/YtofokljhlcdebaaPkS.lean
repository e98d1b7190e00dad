/-
  SEARCHING at int: slices.BinarySearch in a list that rises.
-/
import Derived.Test.YtofokljhlcdebaaTbM
import Derived.Test.YtofokljhlcdebaaElem
import Derived.Test.YtofokljhlcdebaaRowK
namespace Go.Proofs.Ytofokljhlcdebaa
open Go.RowKit
set_option maxRecDepth 8000
namespace Pk
theorem w6n {x : Nat} (h : x ≤ 1000) : wrap64 (x : Int) = (x : Int) := by unfold wrap64; omega
theorem nan_int (x : Int) (W : World) : Calls Try.prog 59 #[.int .i64 x] W fun e w' => e = .returned (.bool false) ∧ W = w' := by
  have h : (x != x) = false := by simp
  go_enter Try.func59, Try.ntmps59
  go_wp2
  go_ret
  exact ⟨rfl, rfl⟩
theorem less_int (x y : Int) (W : World) : Calls Try.prog 88 #[.int .i64 x, .int .i64 y] W fun e w' => e = .returned (.bool (decide (x < y))) ∧ W = w' := by
  have F := hide (nan_int x)
  obtain ⟨b, hb⟩ : ∃ b, Hid (b = decide (x < y)) := ⟨_, hide rfl⟩
  rw [← hb.out]
  have hb2 := hb.out.symm
  go_enter Try.func88, Try.ntmps88
  go_wp2_with (go_at_call 59; (with_reducible refine (F.out _).mono ?_); rintro e w' ⟨rfl, rfl⟩)
  go_ret
  exact ⟨rfl, rfl⟩
theorem getD_lt {l : List Int} {k : Nat} (h : k < l.length) : l.getD k 0 = l[k] := by simp [List.getD, List.getElem?_eq_getElem h]
theorem up_le {l : List Int} (h : l.Pairwise (· ≤ ·)) {i j : Nat} (hij : i ≤ j) (hj : j < l.length) : l.getD i 0 ≤ l.getD j 0 := by
  rw [getD_lt hj, getD_lt (Nat.lt_of_le_of_lt hij hj)]
  by_cases e : i = j
  · subst e; exact Int.le_refl _
  · exact List.pairwise_iff_getElem.1 h i j _ _ (by omega)
theorem found_yes {l : List Int} {z : Int} {i : Nat} (hi : i < l.length) (h : l.getD i 0 = z) : decide (z ∈ l) = true := by
  rw [getD_lt hi] at h
  exact decide_eq_true (h ▸ List.getElem_mem hi)
theorem found_no {l : List Int} {z : Int} (hu : l.Pairwise (· ≤ ·)) {i : Nat} (hlo : ∀ k, k < i → l.getD k 0 < z) (hhi : i < l.length → z < l.getD i 0) : decide (z ∈ l) = false := by
  refine decide_eq_false fun hm => ?_
  obtain ⟨k, hk, e⟩ := List.getElem_of_mem hm
  rw [← getD_lt hk] at e
  by_cases h : k < i
  · have := hlo k h; omega
  · have h1 := hhi (by omega)
    have h2 := up_le hu (show i ≤ k by omega) hk
    omega
theorem nan2_int (x : Int) (W : World) : Calls Try.prog 89 #[.int .i64 x] W fun e w' => e = .returned (.bool false) ∧ W = w' := by
  have h : (x != x) = false := by simp
  go_enter Try.func89, Try.ntmps89
  go_wp2
  go_ret
  exact ⟨rfl, rfl⟩
theorem measN {i j h : Nat} (h1 : i ≤ h) (h2 : h < j) : (intOf (.int .i64 (j : Int))).toNat - (intOf (.int .i64 ((h + 1 : Nat) : Int))).toNat < (intOf (.int .i64 (j : Int))).toNat - (intOf (.int .i64 (i : Int))).toNat := by
  show j - (h + 1) < j - i
  omega
theorem measM {i j h : Nat} (h1 : i ≤ h) (h2 : h < j) : (intOf (.int .i64 (h : Int))).toNat - (intOf (.int .i64 (i : Int))).toNat < (intOf (.int .i64 (j : Int))).toNat - (intOf (.int .i64 (i : Int))).toNat := by
  show h - i < j - i
  omega
set_option maxHeartbeats 4000000 in
theorem search_int (A : Option Addr) (n c B : Nat) (l : List Int) (z : Int) (w : World) (hl : Lies w B A (nums .i64 l)) (hn : n = l.length) (hbig : n ≤ 1000) (hu : l.Pairwise (· ≤ ·)) :
    Calls Try.prog 65 #[.slice A n c, .int .i64 z] w fun e w' => ∃ i : Int, e = .returned (.tuple #[.int .i64 i, .bool (decide (z ∈ l))]) ∧ w' = w := by
  have FL := hide (fun x y W => less_int x y W)
  have FN2 := hide (fun x W => nan2_int x W)
  have Hl := hide hl
  have Hn := hide hn
  have Hb := hide hbig
  have Hu := hide hu
  obtain ⟨R, hR⟩ : ∃ R, R = decide (z ∈ l) := ⟨_, rfl⟩
  rw [← hR]
  have HR := hide hR
  clear hl hn hbig hu hR
  go_enter Try.func65, Try.ntmps65
  go_wp2
  go_loop [7, 8] (fun s t => ∃ i j : Nat, s = .int .i64 (i : Int) ∧ t = .int .i64 (j : Int) ∧ i ≤ j ∧ j ≤ n ∧ Hid ((∀ k, k < i → l.getD k 0 < z) ∧ (∀ k, j ≤ k → k < n → z ≤ l.getD k 0))) (fun s t => (intOf t).toNat - (intOf s).toNat)
  case atStart => exact ⟨0, n, rfl, rfl, Nat.zero_le _, Nat.le_refl _, hide ⟨fun k h => by omega, fun k h1 h2 => by omega⟩⟩
  case round =>
    obtain ⟨i, j, rfl, rfl, hij, hjn, HI⟩ := hrel
    by_cases hlt : i < j
    · obtain ⟨h, hh⟩ : ∃ h, (i + j) / 2 = h := ⟨_, rfl⟩
      obtain ⟨s, hs⟩ : ∃ s, i + j = s := ⟨_, rfl⟩
      rw [hs] at hh
      have kb := Hb.out
      have hhj : i ≤ h ∧ h < j ∧ h < n ∧ h ≤ 1000 ∧ s ≤ 2000 ∧ h + 1 ≤ 1001 := by omega
      have r1 : (i : Int) + (j : Int) = (s : Int) := by omega
      have r2 : (s : Int) / 2 = (h : Int) := by omega
      have r3 : (s : Int).toNat = s := Int.toNat_natCast s
      have g1 : decide ((i : Int) < (j : Int)) = true := decide_eq_true (by omega)
      have g1' : decide (i < j) = true := decide_eq_true hlt
      have hlen : h < l.length := by rw [← Hn.out]; exact hhj.2.2.1
      obtain ⟨a, rfl, hab, hca⟩ := Hl.out.num hlen
      have hb : (h : Int) < (n : Int) := by omega
      have H2 := hide hhj
      have Hj := hide hjn
      have L1 := FL.out (l.getD h 0) z
      have HX : Hid (∀ x, l.getD h 0 = x → (x < z → (∀ k, k < h + 1 → l.getD k 0 < z)) ∧ (z ≤ x → (∀ k, h ≤ k → k < n → z ≤ l.getD k 0))) := hide (fun x hx => ⟨fun hz k hk => by
        have := up_le Hu.out (show k ≤ h by omega) hlen
        omega, fun hz k h1 h2 => by
        have := up_le Hu.out h1 (by rw [← Hn.out]; exact h2)
        omega⟩)
      have u1 : wrap64 ((i : Int) + (j : Int)) = (s : Int) := by rw [r1]; unfold wrap64; omega
      have u2 : IntKind.u64.wrap (s : Int) = (s : Int) := by clear u1; rw [IntKind.wrap_u64]; omega
      have u3 : wrap64 (h : Int) = (h : Int) := w6n hhj.2.2.2.1
      have u4 : wrap64 ((h : Int) + 1) = ((h + 1 : Nat) : Int) := by clear u1 u2 u3; unfold wrap64; omega
      generalize hx : l.getD h 0 = x at *
      have Hx := hide hx
      clear hh hs kb hhj r1 hlen hij hjn hlt hx
      go_wp2_with fail
      by_cases hl : x < z
      · rw [decide_eq_true hl] at L1
        have HI2 := hide (And.intro ((HX.out x rfl).1 hl) HI.out.2)
        clear hl
        go_wp2_with (go_at_call 88; (with_reducible refine (L1 _).mono ?_); rintro e w' ⟨rfl, rfl⟩)
        go_round
        case rel => exact ⟨h + 1, j, by first | rfl | exact congrArg _ u4, rfl, H2.out.2.1, Hj.out, HI2⟩
        case measure => first | exact H2.out.2.2.2.2.2 | (rw [u4]; exact measN H2.out.1 H2.out.2.1) | exact measN H2.out.1 H2.out.2.1
      · rw [decide_eq_false hl] at L1
        have HI2 := hide (And.intro HI.out.1 ((HX.out x rfl).2 (by omega)))
        clear hl
        go_wp2_with (go_at_call 88; (with_reducible refine (L1 _).mono ?_); rintro e w' ⟨rfl, rfl⟩)
        go_round
        case rel => exact ⟨i, h, rfl, by first | rfl | exact congrArg _ u3, H2.out.1, Nat.le_of_lt H2.out.2.2.1, HI2⟩
        case measure => first | exact measM H2.out.1 H2.out.2.1 | (rw [u3]; exact measM H2.out.1 H2.out.2.1)
    · obtain rfl : i = j := by omega
      have g1 : decide ((i : Int) < (i : Int)) = false := decide_eq_false (by omega)
      have g1' : decide (i < i) = false := decide_eq_false (by omega)
      by_cases hin : i < n
      · have hlen : i < l.length := by rw [← Hn.out]; exact hin
        obtain ⟨a, rfl, hab, hca⟩ := Hl.out.num hlen
        have hb : (i : Int) < (n : Int) := by omega
        have g2 : decide ((i : Int) < (n : Int)) = true := decide_eq_true hb
        have g2' : decide (i < n) = true := decide_eq_true hin
        have Hlen := hide hlen
        have Hin := hide hin
        have hi := HI.out
        by_cases hz : l.getD i 0 = z
        · have hR : R = true := by rw [HR.out]; exact found_yes hlen hz
          rw [hz] at hca
          have hzz : (z == z) = true := beq_self_eq_true z
          subst hR
          clear hz hi hlen hin
          go_wp2
          refine bodyPost_ret (results_tmp2 rfl _ _ _) rfl ?_
          exact ⟨⟨_, rfl⟩, rfl⟩
        · have hR : R = false := by rw [HR.out]; exact found_no Hu.out hi.1 (fun h => by have := hi.2 i (Nat.le_refl _) hin; omega)
          subst hR
          have hzz : (l.getD i 0 == z) = false := beq_eq_false_iff_ne.2 hz
          generalize l.getD i 0 = x at *
          clear hz hi hlen hin
          go_wp2_with (go_at_call 89; (with_reducible refine (FN2.out _ _).mono ?_); rintro e w' ⟨rfl, rfl⟩)
          refine bodyPost_ret (results_tmp2 rfl _ _ _) rfl ?_
          exact ⟨_, rfl, rfl⟩
      · have hR : R = false := by rw [HR.out]; exact found_no Hu.out HI.out.1 (fun h => by have := Hn.out; omega)
        have g2 : decide ((i : Int) < (n : Int)) = false := decide_eq_false (by omega)
        have g2' : decide (i < n) = false := decide_eq_false hin
        subst hR
        clear hin
        go_wp2
        refine bodyPost_ret (results_tmp2 rfl _ _ _) rfl ?_
        exact ⟨⟨_, rfl⟩, rfl⟩
end Pk
end Go.Proofs.Ytofokljhlcdebaa
