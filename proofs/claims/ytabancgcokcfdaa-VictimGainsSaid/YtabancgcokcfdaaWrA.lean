/-
  LAYER 21, CONTRACTS: cmp.Compare and cmp.Or at int; slices.Contains at int; Has, Ints; both Of; rows of numbers made and written.
-/
import Derived.Test.YtabancgcokcfdaaWrM
import Derived.Test.YtabancgcokcfdaaTbM
import Derived.Test.YtabancgcokcfdaaRowK
import Derived.Test.YtabancgcokcfdaaBytes
import Derived.BigQuiet
import Derived.Deep.QuietTactic
import Derived.Deep.RegionWith
import Derived.Deep.DeepCutAuto
namespace Go.Proofs.Ytabancgcokcfdaa
open Go.RowKit
set_option maxRecDepth 8000

theorem nan21 (x : Int) (W : World) : Calls Try.prog 29 #[.int .i64 x] W fun e w' => e = .returned (.bool false) ∧ W = w' := by
  have h : (x != x) = false := by simp
  go_enter Try.func29, Try.ntmps29
  go_wp2
  go_ret
  exact ⟨rfl, rfl⟩
set_option maxHeartbeats 1000000 in
theorem cmp21 (x y : Int) (W : World) : Calls Try.prog 25 #[.int .i64 x, .int .i64 y] W fun e w' => e = .returned (.int .i64 (cmpY x y)) ∧ W = w' := by
  have FX := hide (nan21 x W)
  have FY := hide (nan21 y W)
  obtain ⟨R, hR⟩ : ∃ R, cmpY x y = R := ⟨_, rfl⟩
  rw [hR]
  have HR : Hid ((if x < y then -1 else if y < x then 1 else 0) = R) := hide hR
  clear hR
  go_enter Try.func25, Try.ntmps25
  go_wp2_with fail
  (with_reducible refine FX.out.mono ?_)
  rintro e w' ⟨rfl, rfl⟩
  go_wp2_with fail
  (with_reducible refine FY.out.mono ?_)
  rintro e w' ⟨rfl, rfl⟩
  by_cases h1 : x < y
  · have hr := HR.out
    rw [if_pos h1] at hr
    subst hr
    have b1 : decide (x < y) = true := decide_eq_true h1
    clear h1 HR
    go_wp2
    go_ret
    exact ⟨rfl, rfl⟩
  · have hr := HR.out
    rw [if_neg h1] at hr
    have b1 : decide (x < y) = false := decide_eq_false h1
    by_cases h2 : y < x
    · rw [if_pos h2] at hr
      subst hr
      have b2 : decide (y < x) = true := decide_eq_true h2
      clear h1 h2 HR
      go_wp2
      go_ret
      exact ⟨rfl, rfl⟩
    · rw [if_neg h2] at hr
      subst hr
      have b2 : decide (y < x) = false := decide_eq_false h2
      clear h1 h2 HR
      go_wp2
      go_ret
      exact ⟨rfl, rfl⟩
/-- The first one that is not 0. -/
def orW : List Int → Int
  | [] => 0
  | z :: l => if z = 0 then orW l else z
set_option maxHeartbeats 1000000 in
theorem or21 (A : Option Addr) (n c B : Nat) (l : List Int) (w : World) (hl : Lies w B A (nums .i64 l)) (hn : n = l.length) (hbig : n ≤ 1000) :
    Calls Try.prog 24 #[.slice A n c] w fun e w' => e = .returned (.int .i64 (orW l)) ∧ w = w' := by
  have Hl := hide hl
  have Hn := hide hn
  have Hb := hide hbig
  obtain ⟨R, hR⟩ : ∃ R, orW l = R := ⟨_, rfl⟩
  rw [hR]
  have HR : Hid (orW (l.drop 0) = R) := hide hR
  clear hl hn hbig hR
  go_enter Try.func24, Try.ntmps24
  go_wp2
  go_loop [5, 8] (fun _ i => ∃ j : Nat, j ≤ n ∧ i = .int .i64 (j : Int) ∧ Hid (orW (l.drop j) = R)) (fun _ i => n - (intOf i).toNat)
  case atStart => exact ⟨0, Nat.zero_le _, rfl, HR⟩
  case round =>
    clear HR
    obtain ⟨j, hj, rfl, HR⟩ := hrel
    by_cases hlt : j < n
    · have hlt' : (j : Int) < (n : Int) := by omega
      have hjl : j < l.length := by rw [← Hn.out]; exact hlt
      obtain ⟨a, rfl, hab, hca⟩ := Hl.out.num hjl
      have e1 : wrap64 ((j : Int) + 1) = ((j + 1 : Nat) : Int) := by have := Hb.out; unfold wrap64; omega
      have Hd := hide (show (if l.getD j 0 = 0 then orW (l.drop (j + 1)) else l.getD j 0) = R by
        rw [← HR.out, List.drop_eq_getElem_cons hjl, orW]
        simp [List.getD, List.getElem?_eq_getElem hjl])
      generalize l.getD j 0 = u at *
      clear hjl HR
      by_cases hz : u = 0
      · have Hq := hide (show orW (l.drop (j + 1)) = R by have := Hd.out; rwa [if_pos hz] at this)
        subst hz
        clear Hd
        go_wp2
        go_round
        case rel => exact ⟨j + 1, hlt, congrArg (Value.int .i64) e1, Hq⟩
        case measure => first | exact measT hlt | exact measT2 e1 hlt
      · have hu : u = R := by have := Hd.out; rwa [if_neg hz] at this
        have hb : (u != 0) = true := bne_iff_ne.2 hz
        subst hu
        clear Hd
        go_wp2
        go_ret
        exact ⟨rfl, rfl⟩
    · obtain rfl : j = n := by omega
      have hu : 0 = R := by rw [← HR.out, List.drop_eq_nil_of_le (by rw [Hn.out]; exact Nat.le_refl _), orW]
      subst hu
      go_wp2
      go_ret
      exact ⟨rfl, rfl⟩

theorem drop21 (l : List Int) (j : Nat) (h : j < l.length) : l.drop j = l.getD j 0 :: l.drop (j + 1) := by
  rw [List.drop_eq_getElem_cons h]; simp [List.getD, List.getElem?_eq_getElem h]
theorem has21 (A : Option Addr) (n c B : Nat) (l : List Int) (z : Int) (w : World) (hl : Lies w B A (nums .i64 l)) (hn : n = l.length) (hbig : n ≤ 1000000) :
    Calls Try.prog 12 #[.slice A n c, .int .i64 z] w fun e w' => e = .returned (.bool (decide (z ∈ l))) ∧ w = w' := by
  have Hl := hide hl
  have Hn := hide hn
  obtain ⟨R, hR⟩ : ∃ R, R = decide (z ∈ l) := ⟨_, rfl⟩
  rw [← hR]
  have HR := hide hR
  clear hl hn hR
  go_enter Try.func12, Try.ntmps12
  go_wp2
  go_loop [5] (fun i => ∃ j : Nat, j ≤ n ∧ i = .int .i64 (j : Int) ∧ Hid (R = decide (z ∈ l.drop j))) (fun i => n - (intOf i).toNat)
  case atStart => exact ⟨0, Nat.zero_le _, rfl, hide (by rw [HR.out]; rfl)⟩
  case round =>
    obtain ⟨j, hj, rfl, hd⟩ := hrel
    by_cases hlt : j < n
    · have hjl : j < l.length := by rw [← Hn.out]; exact hlt
      have hlt' : (j : Int) < (n : Int) := by omega
      obtain ⟨a, rfl, hab, hca⟩ := Hl.out.num hjl
      have Hd := hide (drop21 l j hjl)
      have e1 : wrap64 ((j : Int) + 1) = ((j + 1 : Nat) : Int) := by unfold wrap64; omega
      generalize l.getD j 0 = u at *
      clear hjl
      by_cases hz : u = z
      · subst hz
        have hR2 : R = true := by rw [hd.out, Hd.out]; simp
        go_wp2
        go_ret
        exact ⟨by first | rfl | exact ret_bool hR2.symm, rfl⟩
      · have hb : (u == z) = false := beq_eq_false_iff_ne.2 hz
        have Hnew := hide (show R = decide (z ∈ l.drop (j + 1)) by rw [hd.out, Hd.out]; exact decide_eq_decide.2 (by simp [Ne.symm hz]))
        go_wp2
        go_round
        case rel => exact ⟨j + 1, by omega, rfl, Hnew⟩
        case measure => simp [intOf]; omega
    · obtain rfl : j = n := by omega
      have hR2 : R = false := by rw [hd.out, List.drop_eq_nil_of_le (by rw [Hn.out]; exact Nat.le_refl _)]; rfl
      go_wp2
      go_ret
      exact ⟨by first | rfl | exact ret_bool hR2.symm, rfl⟩
set_option maxHeartbeats 1000000 in
theorem ints21 (A A2 : Option Addr) (n c n2 c2 B : Nat) (l m : List Int) (w : World) (hl : Lies w B A (nums .i64 l)) (hn : n = l.length) (hl2 : Lies w B A2 (nums .i64 m)) (hn2 : n2 = m.length) (hbig : n ≤ 1000000) (hB : B ≤ w.heap.size) :
    Calls Try.prog 14 #[.slice A n c, .slice A2 n2 c2] w fun e w' => e = .returned (.bool (decide (l = m))) ∧ Below w.heap.size w w' := by
  have Hl := hide hl
  have Hn := hide hn
  have Hl2 := hide hl2
  have Hn2 := hide hn2
  have HB := hide hB
  obtain ⟨R, hR⟩ : ∃ R, Hid (R = decide (l = m)) := ⟨_, hide rfl⟩
  rw [← hR.out]
  clear hl hn hl2 hn2 hB
  by_cases he : n = n2
  · subst he
    go_enter Try.func14, Try.ntmps14
    go_wp2
    go_loopw [5] (fun i wr => ∃ j : Nat, j ≤ n ∧ i = .int .i64 (j : Int) ∧ Hid (R = decide (l.drop j = m.drop j)) ∧ Hid (Below w.heap.size w wr)) (fun i _ => n - (intOf i).toNat)
    case atStart => exact ⟨0, Nat.zero_le _, rfl, hide (by rw [hR.out]; rfl), hide (Below.refl _ _)⟩
    case round =>
      obtain ⟨j, hj, rfl, hd, HW⟩ := hrel
      by_cases hlt : j < n
      · have hlt' : (j : Int) < (n : Int) := by omega
        have h1 : j < l.length := by rw [← Hn.out]; exact hlt
        have h2 : j < m.length := by rw [← Hn2.out]; exact hlt
        obtain ⟨a, rfl, _, hc⟩ := (Hl.out.below (HW.out.mono HB.out)).num h1
        obtain ⟨a2, rfl, _, hc2⟩ := (Hl2.out.below (HW.out.mono HB.out)).num h2
        have Hd := hide (drop21 l j h1)
        have Hd2 := hide (drop21 m j h2)
        have e1 : wrap64 ((j : Int) + 1) = ((j + 1 : Nat) : Int) := by unfold wrap64; omega
        generalize l.getD j 0 = x at *
        generalize m.getD j 0 = y at *
        clear h1 h2
        by_cases hxy : x = y
        · subst hxy
          have hb : (x != x) = false := by simp
          have Hnew := hide (show R = decide (l.drop (j + 1) = m.drop (j + 1)) by rw [hd.out, Hd.out, Hd2.out]; exact decide_eq_decide.2 (by simp))
          go_wp2
          go_quiet (fail)
          go_wp2
          go_roundw
          case rel => exact ⟨j + 1, by omega, rfl, Hnew, hide (bel_drewN HW.out _)⟩
          case measure => simp [intOf]; omega
        · have hb : (x != y) = true := bne_iff_ne.2 hxy
          have hR2 := hide (show R = false by rw [hd.out, Hd.out, Hd2.out]; exact decide_eq_false (fun h => hxy (by injection h)))
          go_wp2
          go_quiet (fail)
          go_wp2
          go_ret
          exact ⟨ret_bool hR2.out.symm, bel_drewN HW.out _⟩
      · obtain rfl : j = n := by omega
        have hR2 := hide (show R = true by rw [hd.out, List.drop_eq_nil_of_le (by rw [Hn.out]; exact Nat.le_refl _), List.drop_eq_nil_of_le (by rw [← Hn2.out]; exact Nat.le_refl _)]; rfl)
        go_wp2
        go_ret
        exact ⟨ret_bool hR2.out.symm, HW.out⟩
  · have hne : ((n : Int) != (n2 : Int)) = true := by rw [bne_iff_ne]; omega
    have hne2 : ¬ (n : Int) = (n2 : Int) := by omega
    have hR2 := hide (show R = false by rw [hR.out]; exact decide_eq_false (fun h => he (by rw [Hn.out, Hn2.out, h])))
    clear he
    go_enter Try.func14, Try.ntmps14
    go_wp2
    go_ret
    exact ⟨ret_bool hR2.out.symm, Below.refl _ _⟩


end Go.Proofs.Ytabancgcokcfdaa
