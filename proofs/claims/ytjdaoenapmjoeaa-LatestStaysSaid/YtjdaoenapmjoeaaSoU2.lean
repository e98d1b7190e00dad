/-
  Sorting's walks at uint64: insertionSortOrdered, choosePivotOrdered, partialInsertionSortOrdered. (By gen/SoI.gen.py.)
  Sorting's walks at uint64: partitionOrdered, pdqsortOrdered. (By gen/SoI.gen.py.)
-/
import Derived.Test.YtjdaoenapmjoeaaSoC
namespace Go.Proofs.Ytjdaoenapmjoeaa
open Go.RowKit
set_option maxRecDepth 8000

namespace So
section
variable {df : Int}
theorem nan_u64 (x : Int) (W : World) : Calls Try.prog 63 #[.int .u64 x] W fun e w' => e = .returned (.bool false) ∧ W = w' := by
  have h : (x != x) = false := by simp
  go_enter Try.func63, Try.ntmps63
  go_wp2
  go_ret
  exact ⟨rfl, rfl⟩
theorem less_u64 (x y : Int) (W : World) : Calls Try.prog 51 #[.int .u64 x, .int .u64 y] W fun e w' => e = .returned (.bool (decide (x < y))) ∧ W = w' := by
  have F := hide (nan_u64 x)
  obtain ⟨b, hb⟩ : ∃ b, Hid (b = decide (x < y)) := ⟨_, hide rfl⟩
  rw [← hb.out]
  have hb2 := hb.out.symm
  go_enter Try.func51, Try.ntmps51
  go_wp2_with (go_at_call 63; (with_reducible refine (F.out _).mono ?_); rintro e w' ⟨rfl, rfl⟩)
  go_ret
  exact ⟨rfl, rfl⟩
set_option maxHeartbeats 4000000 in
theorem ins_u64 (base g c N : Nat) (W0 : World) (a b : Nat) (d D : List Int) (w : World) (hs : Sd 26 .u64 base g c N W0 d w) (hab : a < b) (hb : b ≤ N) (hN : N ≤ 1000) (hD : insSort (fun x y => decide (x < y)) df d a b = D) :
    Calls Try.prog 53 #[.slice (some ⟨g, 0, none⟩) N c, .int .i64 (a : Int), .int .i64 (b : Int)] w fun e w' => e = .returned (.tuple #[]) ∧ Sd 26 .u64 base g c N W0 D w' := by
  have FL := hide (fun x y W => less_u64 x y W)
  have Hs := hide hs
  have HD := hide hD
  have e0 : wrap64 ((a : Int) + 1) = ((a + 1 : Nat) : Int) := by unfold wrap64; omega
  clear hs hD
  go_enter Try.func53, Try.ntmps53
  go_wp2
  go_loopw [6, 7] (fun i _ wr => ∃ (j : Nat) (d : List Int), a < j ∧ j ≤ b ∧ i = .int .i64 (j : Int) ∧ Hid (insO (fun x y => decide (x < y)) df a (b - j) j d = D) ∧ Hid (Sd 26 .u64 base g c N W0 d wr)) (fun i _ _ => b - (intOf i).toNat)
  case atStart => exact ⟨a + 1, d, by omega, by omega, rfl, HD, Hs⟩
  case round =>
    clear Hs HD
    obtain ⟨j, d, haj, hjb, rfl, HD, Hs⟩ := hrel
    by_cases hlt : j < b
    · have e1 : wrap64 ((j : Int) + 1) = ((j + 1 : Nat) : Int) := by unfold wrap64; omega
      obtain ⟨m, hm⟩ : ∃ m, b - j = m + 1 := ⟨b - j - 1, by omega⟩
      have HD2 := hide (show insO (fun x y => decide (x < y)) df a m (j + 1) (insI (fun x y => decide (x < y)) df a j d) = D by have := HD.out; rwa [hm, insO] at this)
      have Hm := hide (show b - (j + 1) = m by omega)
      generalize hE : insI (fun x y => decide (x < y)) df a j d = E at HD2
      have HE := hide hE
      clear HD hm hE
      go_wp2
      go_loopw [7] (fun k wr => ∃ (k' : Nat) (d1 : List Int), a ≤ k' ∧ k' ≤ j ∧ k = .int .i64 (k' : Int) ∧ Hid (insI (fun x y => decide (x < y)) df a k' d1 = E) ∧ Hid (Sd 26 .u64 base g c N W0 d1 wr)) (fun k _ => (intOf k).toNat)
      case atStart => exact ⟨j, d, by omega, Nat.le_refl _, rfl, HE, Hs⟩
      case round =>
        clear Hs HE
        obtain ⟨k, d1, hak, hkj, rfl, HE, Hs⟩ := hrel
        by_cases hk : a < k
        · obtain ⟨i, hi⟩ : ∃ i, k = i + 1 := ⟨k - 1, by omega⟩
          have hkN : k < N := by omega
          have hiN : i < N := by omega
          have c1 := Hs.out.at (df := df) hkN
          have c0 := Hs.out.at (df := df) hiN
          have f1 := Hs.out.froz k
          have f0 := Hs.out.froz i
          have e3 : IntKind.i64.wrap ((k : Int) - 1) = (i : Int) := by rw [IntWalk.i64_in _ (by omega)]; omega
          have e4 : wrap64 ((k : Int) - 1) = (i : Int) := by unfold wrap64; omega
          have g1 : decide (a < k) = true := decide_eq_true hk
          have b1 : (k : Int) < (N : Int) := by omega
          have b0 : (i : Int) < (N : Int) := by omega
          have L1 := FL.out (d1.getD k df) (d1.getD i df)
          obtain ⟨x, hx⟩ : ∃ x, Hid (d1.getD k df = x) := ⟨_, hide rfl⟩
          obtain ⟨y, hy⟩ : ∃ y, Hid (d1.getD i df = y) := ⟨_, hide rfl⟩
          rw [hx.out] at c1 L1
          rw [hy.out] at c0 L1
          have Hi := hide hi
          have Hlt := hide hlt
          have Hak := hide hak
          clear hi hlt hak
          go_wp2
          by_cases hl : x < y
          · rw [decide_eq_true hl] at L1
            go_quiet (first | (go_at_call 51; (with_reducible refine (L1 _).mono ?_); rintro e w' ⟨rfl, rfl⟩; exact ⟨rfl, _, rfl⟩))
            have n1 : k ≠ i := by have := Hi.out; omega
            have n2 : i ≠ k := fun h => n1 h.symm
            have c1 := (Hs.out.drewN nq).at (df := df) hkN
            have c0 := (Hs.out.drewN nq).at (df := df) hiN
            have f1 := (Hs.out.drewN nq).froz k
            have f0 := (Hs.out.drewN nq).froz i
            rw [hx.out] at c1
            rw [hy.out] at c0
            go_wp2
            go_region
            go_wp2
            have hst : insI (fun x y => decide (x < y)) df a i (swp df d1 k i) = E := by
              rw [← HE.out, Hi.out, insI, ← Hi.out, decide_eq_true hk, hx.out, hy.out, decide_eq_true hl]; rfl
            have hse := ((Hs.out.drewN (nq + 1)).set k y).set i x
            rw [← hx.out, ← hy.out] at hse
            have hak := Hak.out
            have hi := Hi.out
            exact ⟨⟨i, swp df d1 k i, by omega, by omega, rfl, hide hst, hide (by rw [← hx.out, ← hy.out]; exact hse)⟩, by rw [hi]; exact Nat.lt_succ_self i⟩
          · rw [decide_eq_false hl] at L1
            go_quiet (first | (go_at_call 51; (with_reducible refine (L1 _).mono ?_); rintro e w' ⟨rfl, rfl⟩; exact ⟨rfl, _, rfl⟩))
            have hst : d1 = E := by
              rw [← HE.out, Hi.out, insI, ← Hi.out, hx.out, hy.out, decide_eq_false hl, Bool.and_false, if_neg (by decide)]
            go_wp2
            have hlt := Hlt.out
            have hak := Hak.out
            exact ⟨⟨j + 1, E, by omega, by omega, rfl, hide (by rw [Hm.out]; exact HD2.out), hide (by rw [← hst]; exact Hs.out.drewN nq)⟩, measS hlt⟩
        · have g1 : decide (a < k) = false := decide_eq_false hk
          have hst : d1 = E := by
            rw [← HE.out]
            cases k with
            | zero => rfl
            | succ i => rw [insI, g1, Bool.false_and, if_neg (by decide)]
          go_wp2
          go_quiet (fail)
          go_wp2
          exact ⟨⟨j + 1, E, by omega, by omega, rfl, hide (by rw [Hm.out]; exact HD2.out), hide (by rw [← hst]; exact Hs.out.drewN nq)⟩, measS hlt⟩
    · obtain rfl : j = b := by omega
      have hd : d = D := by have := HD.out; rwa [Nat.sub_self, insO] at this
      subst hd
      go_wp2
      go_end0
      exact ⟨rfl, Hs.out⟩
set_option maxHeartbeats 4000000 in
theorem pins_u64 (base g c N : Nat) (W0 : World) (a b P : Nat) (d : List Int) (w : World) (hs : Sd 26 .u64 base g c N W0 d w) (h1 : a < b) (h2 : b - a < 50) (hb : b ≤ N) (hN : N ≤ 1000) (hP : psc (fun x y => decide (x < y)) df d b (b - (a + 1)) (a + 1) = P) :
    Calls Try.prog 58 #[.slice (some ⟨g, 0, none⟩) N c, .int .i64 (a : Int), .int .i64 (b : Int)] w fun e w' => e = .returned (.bool (decide (P = b))) ∧ Sd 26 .u64 base g c N W0 d w' := by
  have FL := hide (fun x y W => less_u64 x y W)
  have Hs := hide hs
  have HP := hide hP
  obtain ⟨L, hL⟩ : ∃ L, b - a = L := ⟨_, rfl⟩
  have r1 : (b : Int) - (a : Int) = (L : Int) := by omega
  have l50 : (L : Int) < 50 := by omega
  have q1 : L ≤ 1000 := by omega
  have q2 : a + 1 ≤ 1000 := by omega
  have e0 : wrap64 ((a : Int) + 1) = ((a + 1 : Nat) : Int) := w6n q2
  have e1 : wrap64 ((b : Int) - (a : Int)) = (L : Int) := by rw [r1]; exact w6n q1
  have HE1 := hide e1
  have Hq : Hid (b ≤ 1000 ∧ a + 1 ≤ b) := hide (by clear e0 e1; omega)
  have HbN := hide hb
  clear hs hP r1 q1 q2 e1 h2 hL hN h1 hb
  go_enter Try.func58, Try.ntmps58
  go_wp2
  go_loopw [7, 8] (fun i j wr => i = .int .i64 (wrap64 ((a : Int) + 1)) ∧ j = .int .i64 0 ∧ wr = w) (fun _ _ _ => 0)
  case atStart => exact ⟨rfl, rfl, rfl⟩
  case round =>
    obtain ⟨rfl, rfl, rfl⟩ := hrel
    go_wp2
    go_loopw [7] (fun i wr => ∃ i' : Nat, i' ≤ b ∧ 0 < i' ∧ i = .int .i64 (i' : Int) ∧ Hid (psc (fun x y => decide (x < y)) df d b (b - i') i' = P) ∧ Hid (Sd 26 .u64 base g c N W0 d wr)) (fun i _ => b - (intOf i).toNat)
    case atStart => exact ⟨a + 1, Hq.out.2, Nat.succ_pos _, congrArg _ e0, HP, Hs⟩
    case round =>
      clear Hs HP
      obtain ⟨i, hib, hi0, rfl, HP, Hs⟩ := hrel
      by_cases hlt : i < b
      · obtain ⟨k, hk⟩ : ∃ k, i = k + 1 := ⟨i - 1, by omega⟩
        have hbn := HbN.out
        have hiN : i < N := by omega
        have hkN : k < N := by omega
        have hi1 : i + 1 ≤ 1000 := by have := Hq.out.1; omega
        have c1 := Hs.out.at (df := df) hiN
        have c0 := Hs.out.at (df := df) hkN
        have b1 : (i : Int) < (N : Int) := by omega
        have b0 : (k : Int) < (N : Int) := by omega
        have g1 : decide (i < b) = true := decide_eq_true hlt
        have r3 : (i : Int) - 1 = (k : Int) := by omega
        have hk0 : k ≤ 1000 := by omega
        have g3 : ((i : Int) == (b : Int)) = false := beq_eq_false_iff_ne.2 (by omega)
        have L1 := FL.out (d.getD i df) (d.getD k df)
        obtain ⟨x, hx⟩ : ∃ x, Hid (d.getD i df = x) := ⟨_, hide rfl⟩
        obtain ⟨y, hy⟩ : ∃ y, Hid (d.getD k df = y) := ⟨_, hide rfl⟩
        rw [hx.out] at c1 L1
        rw [hy.out] at c0 L1
        have HP2 := hide (show (if decide (x < y) = true then i else psc (fun x y => decide (x < y)) df d b (b - (i + 1)) (i + 1)) = P by
          have := HP.out
          rw [show b - i = (b - (i + 1)) + 1 by omega, psc, g1, hx.out, show i - 1 = k by omega, hy.out] at this
          rw [← this]; cases decide (x < y) <;> rfl)
        have Hlt := hide hlt
        have e3' : IntKind.i64.wrap ((i : Int) - 1) = (k : Int) := by rw [r3]; exact IntWalk.i64_in _ (by omega)
        have e3 : wrap64 ((i : Int) - 1) = (k : Int) := by rw [r3]; exact w6n hk0
        have e5 : wrap64 ((i : Int) + 1) = ((i + 1 : Nat) : Int) := w6n hi1
        clear HP r3 hk0 hi1 hk hlt hbn hib
        go_wp2
        by_cases hl : x < y
        · rw [decide_eq_true hl] at L1
          go_quiet (first | (go_at_call 51; (with_reducible refine (L1 _).mono ?_); rintro e w' ⟨rfl, rfl⟩; exact ⟨rfl, _, rfl⟩))
          have e1 := HE1.out
          go_wp2
          go_ret
          have hP : i = P := by have := HP2.out; rwa [decide_eq_true hl, if_pos rfl] at this
          have hib : ¬ i = b := Nat.ne_of_lt Hlt.out
          rw [← hP, decide_eq_false hib]
          exact ⟨rfl, Hs.out.drewN nq⟩
        · rw [decide_eq_false hl] at L1
          go_quiet (first | (go_at_call 51; (with_reducible refine (L1 _).mono ?_); rintro e w' ⟨rfl, rfl⟩; exact ⟨rfl, _, rfl⟩))
          go_wp2
          refine ⟨⟨i + 1, Hlt.out, Nat.succ_pos _, congrArg _ e5, hide ?_, hide (Hs.out.drewN nq)⟩, ?_⟩
          · have := HP2.out
            rwa [decide_eq_false hl, if_neg (by decide)] at this
          · rw [e5]; exact measS Hlt.out
      · obtain rfl : i = b := by omega
        have g1 : decide (i < i) = false := decide_eq_false hlt
        have g2 : ((i : Int) == (i : Int)) = true := by simp
        go_wp2
        go_quiet (fail)
        go_wp2
        go_ret
        have hP : i = P := by have := HP.out; rwa [Nat.sub_self, psc] at this
        rw [← hP, decide_eq_true rfl]
        exact ⟨rfl, Hs.out.drewN nq⟩
end
end So

namespace So
section
variable {df : Int}
set_option maxHeartbeats 8000000 in
theorem par_u64 (base g c N : Nat) (W0 : World) (a b p mid : Nat) (al : Bool) (d D : List Int) (w : World) (hs : Sd 26 .u64 base g c N W0 d w) (hab : a < b) (hap : a < p) (hp : p < b) (hb : b ≤ N) (hN : N ≤ 1000) (hD : partM (fun x y => decide (x < y)) df d a b p = some (mid, al, D)) :
    Calls Try.prog 60 #[.slice (some ⟨g, 0, none⟩) N c, .int .i64 (a : Int), .int .i64 (b : Int), .int .i64 (p : Int)] w fun e w' => e = .returned (.tuple #[.int .i64 (mid : Int), .bool al]) ∧ Sd 26 .u64 base g c N W0 D w' := by
  have FL := hide (fun x y W => less_u64 x y W)
  have Hs := hide hs
  have HD := hide hD
  have Hab := hide hab
  have HbN := hide (And.intro hb hN)
  have n1 : p ≠ a := Nat.ne_of_gt hap
  have n2 : a ≠ p := Nat.ne_of_lt hap
  have hpN : p < N := Nat.lt_of_lt_of_le hp hb
  have haN : a < N := Nat.lt_of_lt_of_le hab hb
  have c1 := hs.at (df := df) hpN
  have c0 := hs.at (df := df) haN
  have f1 := hs.froz p
  have f0 := hs.froz a
  have b1 : (p : Int) < (N : Int) := Int.ofNat_lt.2 hpN
  have b0 : (a : Int) < (N : Int) := Int.ofNat_lt.2 haN
  obtain ⟨x, hx⟩ : ∃ x, Hid (d.getD p df = x) := ⟨_, hide rfl⟩
  obtain ⟨y, hy⟩ : ∃ y, Hid (d.getD a df = y) := ⟨_, hide rfl⟩
  rw [hx.out] at c1
  rw [hy.out] at c0
  obtain ⟨i, hi⟩ : ∃ i, i = a + 1 := ⟨_, rfl⟩
  obtain ⟨j, hj⟩ : ∃ j, j = b - 1 := ⟨_, rfl⟩
  have r1 : (b : Int) - 1 = (j : Int) := by omega
  have r2 : (a : Int) + 1 = (i : Int) := by omega
  have q1 : i ≤ 1000 := by omega
  have q2 : j ≤ 1000 := by omega
  have Hai : Hid (a < i) := hide (by omega)
  have Hj : Hid (a ≤ j ∧ j < b) := hide (by omega)
  rw [partM, ← hj, ← hi] at hD
  have HD := hide hD
  have Hij := hide hi
  have Hjb := hide hj
  have e1 : wrap64 ((b : Int) - 1) = (j : Int) := by rw [r1]; exact w6n q2
  have e2 : wrap64 ((a : Int) + 1) = (i : Int) := by rw [r2]; exact w6n q1
  clear hs hD hb hN hab hap hp r1 r2 q1 q2 hi hj hpN haN
  go_enter Try.func60, Try.ntmps60
  go_wp2
  go_region
  obtain ⟨d1, hd1⟩ : ∃ d1, swp df d a p = d1 := ⟨_, rfl⟩
  rw [hd1] at HD
  have hse : Sd 26 .u64 base g c N W0 d1 ((w.setCell ⟨g, a, none⟩ (.int .u64 x)).setCell ⟨g, p, none⟩ (.int .u64 y)).drew := by
    have := ((Hs.out.set a x).set p y).drewN 1
    rw [← hx.out, ← hy.out] at this
    rw [← hx.out, ← hy.out, ← hd1]
    exact this
  generalize ((w.setCell ⟨g, a, none⟩ (.int .u64 x)).setCell ⟨g, p, none⟩ (.int .u64 y)).drew = w1 at *
  clear Hs c1 c0 f1 f0 hx hy hd1 n1 n2 b1 b0
  have Hs := hide hse
  clear hse
  obtain ⟨U, HU⟩ : ∃ U, Hid (up (fun x y => decide (x < y)) df d1 a j (j + 1 - i) i = U) := ⟨_, hide rfl⟩
  go_upto_block 0 with fail
  rw [e1, e2]
  clear e1 e2
  go_cut [10] from 30 to 45 (fun s wx => s = .int .i64 (U : Int) ∧ i ≤ U ∧ Hid (U ≤ j → decide (d1.getD U df < d1.getD a df) = false) ∧ Hid (Sd 26 .u64 base g c N W0 d1 wx))
  case first =>
    go_wp2_with fail
    go_loopw [10] (fun s wr => ∃ k : Nat, s = .int .i64 (k : Int) ∧ Hid (i ≤ k) ∧ Hid (up (fun x y => decide (x < y)) df d1 a j (j + 1 - k) k = U) ∧ Hid (Sd 26 .u64 base g c N W0 d1 wr)) (fun s _ => j + 1 - (intOf s).toNat)
    case atStart => exact ⟨i, rfl, hide (Nat.le_refl _), HU, Hs⟩
    case round =>
      clear Hs HU
      obtain ⟨k, rfl, Hik, HU, Hs⟩ := hrel
      by_cases hkj : k ≤ j
      · have hkN : k < N := Nat.lt_of_le_of_lt hkj (Nat.lt_of_lt_of_le Hj.out.2 HbN.out.1)
        have haN : a < N := Nat.lt_of_lt_of_le Hab.out HbN.out.1
        have c1 := Hs.out.at (df := df) hkN
        have c0 := Hs.out.at (df := df) haN
        have b1 : (k : Int) < (N : Int) := Int.ofNat_lt.2 hkN
        have b0 : (a : Int) < (N : Int) := Int.ofNat_lt.2 haN
        have g1 : decide (k ≤ j) = true := decide_eq_true hkj
        have L1 := FL.out (d1.getD k df) (d1.getD a df)
        obtain ⟨x, hx⟩ : ∃ x, Hid (d1.getD k df = x) := ⟨_, hide rfl⟩
        obtain ⟨y, hy⟩ : ∃ y, Hid (d1.getD a df = y) := ⟨_, hide rfl⟩
        rw [hx.out] at c1 L1
        rw [hy.out] at c0 L1
        have HU2 := hide (show (if decide (x < y) = true then up (fun x y => decide (x < y)) df d1 a j (j + 1 - (k + 1)) (k + 1) else k) = U by
          have := HU.out
          rw [show j + 1 - k = (j + 1 - (k + 1)) + 1 by omega, up, g1, hx.out, hy.out, Bool.true_and] at this
          exact this)
        have Hkj := hide hkj
        have hk1 : k + 1 ≤ 1000 := Nat.le_trans (Nat.succ_le_of_lt hkN) HbN.out.2
        have e5 : wrap64 ((k : Int) + 1) = ((k + 1 : Nat) : Int) := w6n hk1
        clear HU hk1 hkj
        go_wp2
        by_cases hl : x < y
        · rw [decide_eq_true hl] at L1
          have Hl := hide (decide_eq_true hl)
          clear hl
          go_quiet (first | (go_at_call 51; (with_reducible refine (L1 _).mono ?_); rintro e w' ⟨rfl, rfl⟩; exact ⟨rfl, _, rfl⟩))
          go_wp2
          refine ⟨⟨k + 1, congrArg _ e5, hide (Nat.le_succ_of_le Hik.out), hide ?_, hide (Hs.out.drewN nq)⟩, ?_⟩
          · have := HU2.out
            rwa [Hl.out, if_pos rfl] at this
          · rw [e5]; exact measS (Nat.lt_succ_of_le Hkj.out)
        · rw [decide_eq_false hl] at L1
          have Hl := hide (decide_eq_false hl)
          clear hl
          go_quiet (first | (go_at_call 51; (with_reducible refine (L1 _).mono ?_); rintro e w' ⟨rfl, rfl⟩; exact ⟨rfl, _, rfl⟩))
          go_wp2
          have hk : k = U := by have := HU2.out; rwa [Hl.out, if_neg (by decide)] at this
          go_meet
          exact ⟨congrArg (fun z : Nat => Value.int .i64 (z : Int)) hk, hk ▸ Hik.out, hide (fun _ => by rw [← hk, hx.out, hy.out]; exact Hl.out), hide (Hs.out.drewN nq)⟩
      · have g1 : decide (k ≤ j) = false := decide_eq_false hkj
        have Hk := hide (show k = U by have := HU.out; rwa [show j + 1 - k = 0 by omega, up] at this)
        have Hkj := hide hkj
        clear hkj
        go_wp2
        go_quiet (fail)
        go_wp2
        have hk := Hk.out
        go_meet
        exact ⟨congrArg (fun z : Nat => Value.int .i64 (z : Int)) hk, hk ▸ Hik.out, hide (fun h => (Hkj.out (hk ▸ h)).elim), hide (Hs.out.drewN nq)⟩
  clear Hs
  obtain ⟨rfl, hiiU, HFU, Hs⟩ := hcut
  have HiiU := hide hiiU
  have HaU := hide (Nat.lt_of_lt_of_le Hai.out hiiU)
  clear hiiU
  obtain ⟨V, HV0⟩ : ∃ V, Hid (dn (fun x y => decide (x < y)) df d1 a U j = V) := ⟨_, hide rfl⟩
  go_upto_block 2 with fail
  go_cut [11] from 46 to 62 (fun s wx => s = .int .i64 (V : Int) ∧ V ≤ j ∧ a ≤ V ∧ Hid (U ≤ V → decide (d1.getD V df < d1.getD a df) = true) ∧ Hid (Sd 26 .u64 base g c N W0 d1 wx))
  case first =>
    go_wp2_with fail
    go_loopw [11] (fun s wr => ∃ k : Nat, s = .int .i64 (k : Int) ∧ Hid (k ≤ j) ∧ Hid (a ≤ k) ∧ Hid (dn (fun x y => decide (x < y)) df d1 a U k = V) ∧ Hid (Sd 26 .u64 base g c N W0 d1 wr)) (fun s _ => (intOf s).toNat)
    case atStart => exact ⟨j, rfl, hide (Nat.le_refl _), hide Hj.out.1, HV0, Hs⟩
    case round =>
      clear Hs HV0
      obtain ⟨k, rfl, Hkj, Hak, HV, Hs⟩ := hrel
      by_cases hik : U ≤ k
      · obtain ⟨m, hm⟩ : ∃ m, k = m + 1 := ⟨k - 1, by have := Nat.lt_of_lt_of_le HaU.out hik; omega⟩
        have ham : a ≤ m := by have := Nat.lt_of_lt_of_le HaU.out hik; omega
        have hkN : k < N := Nat.lt_of_le_of_lt Hkj.out (Nat.lt_of_lt_of_le Hj.out.2 HbN.out.1)
        have haN : a < N := Nat.lt_of_lt_of_le Hab.out HbN.out.1
        have c1 := Hs.out.at (df := df) hkN
        have c0 := Hs.out.at (df := df) haN
        have b1 : (k : Int) < (N : Int) := Int.ofNat_lt.2 hkN
        have b0 : (a : Int) < (N : Int) := Int.ofNat_lt.2 haN
        have g1 : decide (U ≤ k) = true := decide_eq_true hik
        have L1 := FL.out (d1.getD k df) (d1.getD a df)
        obtain ⟨x, hx⟩ : ∃ x, Hid (d1.getD k df = x) := ⟨_, hide rfl⟩
        obtain ⟨y, hy⟩ : ∃ y, Hid (d1.getD a df = y) := ⟨_, hide rfl⟩
        rw [hx.out] at c1 L1
        rw [hy.out] at c0 L1
        have HV2 := hide (show (if (!decide (x < y)) = true then dn (fun x y => decide (x < y)) df d1 a U m else k) = V by
          have := HV.out
          rw [hm, dn, ← hm, g1, hx.out, hy.out, Bool.true_and] at this
          exact this)
        have r5 : (k : Int) - 1 = (m : Int) := by omega
        have hm1 : m ≤ 1000 := by have := HbN.out.2; omega
        have Hm := hide hm
        have Ham := hide ham
        have e5 : wrap64 ((k : Int) - 1) = (m : Int) := by rw [r5]; exact w6n hm1
        clear HV hm1 hik r5 hm ham
        go_wp2
        by_cases hl : x < y
        · rw [decide_eq_true hl] at L1
          have Hl := hide (decide_eq_true hl)
          clear hl
          go_quiet (first | (go_at_call 51; (with_reducible refine (L1 _).mono ?_); rintro e w' ⟨rfl, rfl⟩; exact ⟨rfl, _, rfl⟩))
          go_wp2
          have hk : k = V := by have := HV2.out; rwa [Hl.out, if_neg (by decide)] at this
          go_meet
          exact ⟨congrArg (fun z : Nat => Value.int .i64 (z : Int)) hk, hk ▸ Hkj.out, hk ▸ Hak.out, hide (fun _ => by rw [← hk, hx.out, hy.out]; exact Hl.out), hide (Hs.out.drewN nq)⟩
        · rw [decide_eq_false hl] at L1
          have Hl := hide (decide_eq_false hl)
          clear hl
          go_quiet (first | (go_at_call 51; (with_reducible refine (L1 _).mono ?_); rintro e w' ⟨rfl, rfl⟩; exact ⟨rfl, _, rfl⟩))
          go_wp2
          refine ⟨⟨m, congrArg _ e5, hide (by have := Hkj.out; have := Hm.out; clear e5; omega), Ham, hide ?_, hide (Hs.out.drewN nq)⟩, ?_⟩
          · have := HV2.out
            rwa [Hl.out, if_pos (by decide)] at this
          · rw [e5, Hm.out]; exact Nat.lt_succ_self m
      · have g1 : decide (U ≤ k) = false := decide_eq_false hik
        have Hk := hide (show k = V by
          rw [← HV.out]
          cases k with
          | zero => rfl
          | succ m => rw [dn, g1, Bool.false_and, if_neg (by decide)])
        have Hik := hide hik
        clear hik
        go_wp2
        go_quiet (fail)
        go_wp2
        have hk := Hk.out
        go_meet
        exact ⟨congrArg (fun z : Nat => Value.int .i64 (z : Int)) hk, hk ▸ Hkj.out, hk ▸ Hak.out, hide (fun h => (Hik.out (hk ▸ h)).elim), hide (Hs.out.drewN nq)⟩
  clear Hs
  obtain ⟨rfl, hvjV, havV, HFV, Hs⟩ := hcut
  have HvjV := hide hvjV
  have HavV := hide havV
  clear hvjV havV
  have HD2 : _ := HD.out
  rw [HU.out, HV0.out] at HD2
  have HD2 := hide HD2
  clear HD
  have HjN : Hid (j < N) := hide (Nat.lt_of_lt_of_le Hj.out.2 HbN.out.1)
  by_cases hvu : V < U
  · have HD3 := HD2.out
    rw [if_pos hvu] at HD3
    injection HD3 with h1
    injection h1 with h1 h2
    injection h2 with h2 h3
    have H1 := hide h1
    have H2 := hide h2
    have H3 := hide h3
    clear h1 h2 h3 HD2
    by_cases hva : V = a
    · subst hva
      have hpN : V < N := Nat.lt_of_le_of_lt HvjV.out HjN.out
      have hqN : V < N := Nat.lt_of_le_of_lt HvjV.out HjN.out
      have c1 := Hs.out.at (df := df) hpN
      have c0 := Hs.out.at (df := df) hqN
      have f1 := Hs.out.froz V
      have f0 := Hs.out.froz V
      have b1 : (V : Int) < (N : Int) := Int.ofNat_lt.2 hpN
      have b0 : (V : Int) < (N : Int) := Int.ofNat_lt.2 hqN
      obtain ⟨x, hx⟩ : ∃ x, Hid (d1.getD V df = x) := ⟨_, hide rfl⟩
      obtain ⟨y, hy⟩ : ∃ y, Hid (d1.getD V df = y) := ⟨_, hide rfl⟩
      rw [hx.out] at c1
      obtain rfl : x = y := by rw [← hx.out, ← hy.out]
      rw [hx.out] at c0
      clear hpN hqN
      go_wp2
      go_region
      have hse : Sd 26 .u64 base g c N W0 (swp df d1 V V) ((wc.setCell ⟨g, V, none⟩ (.int .u64 x)).setCell ⟨g, V, none⟩ (.int .u64 x)).drew := by
        have := ((Hs.out.set V x).set V x).drewN 1
        rw [← hx.out] at this
        rw [← hx.out]
        exact this
      generalize ((wc.setCell ⟨g, V, none⟩ (.int .u64 x)).setCell ⟨g, V, none⟩ (.int .u64 x)).drew = w2 at *
      clear Hs c1 c0 f1 f0 hx hy b1 b0
      have Hs := hide hse
      clear hse
      go_wp2
      refine bodyPost_ret (results_tmp2 rfl _ _ _) rfl ?_
      rw [← H1.out, ← H2.out, ← H3.out]
      exact ⟨rfl, Hs.out⟩
    · have n1 : V ≠ a := hva
      have n2 : a ≠ V := fun h => hva h.symm
      clear hva
      have hpN : V < N := Nat.lt_of_le_of_lt HvjV.out HjN.out
      have hqN : a < N := Nat.lt_of_lt_of_le Hab.out HbN.out.1
      have c1 := Hs.out.at (df := df) hpN
      have c0 := Hs.out.at (df := df) hqN
      have f1 := Hs.out.froz V
      have f0 := Hs.out.froz a
      have b1 : (V : Int) < (N : Int) := Int.ofNat_lt.2 hpN
      have b0 : (a : Int) < (N : Int) := Int.ofNat_lt.2 hqN
      obtain ⟨x, hx⟩ : ∃ x, Hid (d1.getD V df = x) := ⟨_, hide rfl⟩
      obtain ⟨y, hy⟩ : ∃ y, Hid (d1.getD a df = y) := ⟨_, hide rfl⟩
      rw [hx.out] at c1
      rw [hy.out] at c0
      clear hpN hqN
      go_wp2
      go_region
      have hse : Sd 26 .u64 base g c N W0 (swp df d1 V a) ((wc.setCell ⟨g, V, none⟩ (.int .u64 y)).setCell ⟨g, a, none⟩ (.int .u64 x)).drew := by
        have := ((Hs.out.set V y).set a x).drewN 1
        rw [← hx.out, ← hy.out] at this
        rw [← hx.out, ← hy.out]
        exact this
      generalize ((wc.setCell ⟨g, V, none⟩ (.int .u64 y)).setCell ⟨g, a, none⟩ (.int .u64 x)).drew = w2 at *
      clear Hs c1 c0 f1 f0 hx hy b1 b0
      have Hs := hide hse
      clear hse
      go_wp2
      refine bodyPost_ret (results_tmp2 rfl _ _ _) rfl ?_
      rw [← H1.out, ← H2.out, ← H3.out]
      exact ⟨rfl, Hs.out⟩
  · have huv : U ≤ V := Nat.le_of_not_lt hvu
    have HD3 := HD2.out
    rw [if_neg hvu] at HD3
    have hne : U ≠ V := fun h => by
      have h1 := HFU.out (h ▸ HvjV.out)
      have h2 := HFV.out huv
      rw [h, h2] at h1
      cases h1
    obtain ⟨R, HR, Hend⟩ : ∃ R : Nat × List Int, Hid (plp (fun x y => decide (x < y)) df a 64 (U + 1) (V - 1) (swp df d1 U V) = some R) ∧ Hid (R.1 = mid ∧ false = al ∧ swp df R.2 R.1 a = D) := by
      cases hq : plp (fun x y => decide (x < y)) df a 64 (U + 1) (V - 1) (swp df d1 U V) with
      | none => rw [hq] at HD3; cases HD3
      | some R =>
        rw [hq] at HD3
        injection HD3 with h1
        injection h1 with h1 h2
        injection h2 with h2 h3
        exact ⟨R, hide rfl, hide ⟨h1, h2, h3⟩⟩
    clear HD3 HD2
    obtain ⟨i1, hi1⟩ : ∃ z, z = U + 1 := ⟨_, rfl⟩
    obtain ⟨j1, hj1⟩ : ∃ z, V = z + 1 := ⟨V - 1, by have := HaU.out; omega⟩
    have hVj := HvjV.out
    have hjN := HjN.out
    have hb1000 := HbN.out.2
    have r1 : (V : Int) - 1 = (j1 : Int) := by omega
    have r2 : (U : Int) + 1 = (i1 : Int) := by omega
    have q1 : i1 ≤ 1000 := by omega
    have q2 : j1 ≤ 1000 := by omega
    have Hai1 : Hid (a < i1) := hide (by have := HaU.out; omega)
    have Hj1 : Hid (a ≤ j1 ∧ j1 < b) := hide (by have := HaU.out; have := Hj.out; omega)
    rw [show V - 1 = j1 by omega, ← hi1] at HR
    have n1 : U ≠ V := hne
    have n2 : V ≠ U := fun h => hne h.symm
    have e1 : wrap64 ((V : Int) - 1) = (j1 : Int) := by rw [r1]; exact w6n q2
    have e2 : wrap64 ((U : Int) + 1) = (i1 : Int) := by rw [r2]; exact w6n q1
    have Huv := hide huv
    clear r1 r2 q1 q2 hi1 hj1 hVj hjN hb1000 hne hvu
    have hpN : U < N := Nat.lt_of_le_of_lt Huv.out (Nat.lt_of_le_of_lt HvjV.out HjN.out)
    have hqN : V < N := Nat.lt_of_le_of_lt HvjV.out HjN.out
    have c1 := Hs.out.at (df := df) hpN
    have c0 := Hs.out.at (df := df) hqN
    have f1 := Hs.out.froz U
    have f0 := Hs.out.froz V
    have b1 : (U : Int) < (N : Int) := Int.ofNat_lt.2 hpN
    have b0 : (V : Int) < (N : Int) := Int.ofNat_lt.2 hqN
    obtain ⟨x, hx⟩ : ∃ x, Hid (d1.getD U df = x) := ⟨_, hide rfl⟩
    obtain ⟨y, hy⟩ : ∃ y, Hid (d1.getD V df = y) := ⟨_, hide rfl⟩
    rw [hx.out] at c1
    rw [hy.out] at c0
    clear hpN hqN
    go_wp2
    go_region
    have hse : Sd 26 .u64 base g c N W0 (swp df d1 U V) ((wc.setCell ⟨g, U, none⟩ (.int .u64 y)).setCell ⟨g, V, none⟩ (.int .u64 x)).drew := by
      have := ((Hs.out.set U y).set V x).drewN 1
      rw [← hx.out, ← hy.out] at this
      rw [← hx.out, ← hy.out]
      exact this
    generalize ((wc.setCell ⟨g, U, none⟩ (.int .u64 y)).setCell ⟨g, V, none⟩ (.int .u64 x)).drew = w2 at *
    clear Hs c1 c0 f1 f0 hx hy b1 b0
    have Hs := hide hse
    clear hse
    clear n1 n2 huv Huv HFU HFV HvjV HavV HU HV0
    go_wp2
    go_loopw [10, 11] (fun s t wr => ∃ (i3 j3 : Nat) (d3 : List Int), s = .int .i64 (i3 : Int) ∧ t = .int .i64 (j3 : Int) ∧ Hid (a < i3) ∧ Hid (a ≤ j3 ∧ j3 < b) ∧ Hid (∃ m, plp (fun x y => decide (x < y)) df a m i3 j3 d3 = some R) ∧ Hid (Sd 26 .u64 base g c N W0 d3 wr)) (fun s t _ => (intOf t).toNat + 1 - (intOf s).toNat)
    case atStart => exact ⟨i1, j1, _, congrArg _ e2, congrArg _ e1, Hai1, Hj1, hide ⟨64, HR.out⟩, Hs⟩
    case round =>
      clear Hs HR
      obtain ⟨i3, j3, d3, rfl, rfl, Hai3, Hj3, HR, Hs⟩ := hrel
      clear e1 e2
      obtain ⟨U3, HU3⟩ : ∃ U, Hid (up (fun x y => decide (x < y)) df d3 a j3 (j3 + 1 - i3) i3 = U) := ⟨_, hide rfl⟩
      go_upto_block 6 with fail
      go_cut [10] from 99 to 114 (fun s wx => s = .int .i64 (U3 : Int) ∧ i3 ≤ U3 ∧ Hid (U3 ≤ j3 → decide (d3.getD U3 df < d3.getD a df) = false) ∧ Hid (Sd 26 .u64 base g c N W0 d3 wx))
      case first =>
        go_wp2_with fail
        go_loopw [10] (fun s wr => ∃ k : Nat, s = .int .i64 (k : Int) ∧ Hid (i3 ≤ k) ∧ Hid (up (fun x y => decide (x < y)) df d3 a j3 (j3 + 1 - k) k = U3) ∧ Hid (Sd 26 .u64 base g c N W0 d3 wr)) (fun s _ => j3 + 1 - (intOf s).toNat)
        case atStart => exact ⟨i3, rfl, hide (Nat.le_refl _), HU3, Hs⟩
        case round =>
          clear Hs HU3
          obtain ⟨k, rfl, Hik, HU, Hs⟩ := hrel
          by_cases hkj : k ≤ j3
          · have hkN : k < N := Nat.lt_of_le_of_lt hkj (Nat.lt_of_lt_of_le Hj3.out.2 HbN.out.1)
            have haN : a < N := Nat.lt_of_lt_of_le Hab.out HbN.out.1
            have c1 := Hs.out.at (df := df) hkN
            have c0 := Hs.out.at (df := df) haN
            have b1 : (k : Int) < (N : Int) := Int.ofNat_lt.2 hkN
            have b0 : (a : Int) < (N : Int) := Int.ofNat_lt.2 haN
            have g1 : decide (k ≤ j3) = true := decide_eq_true hkj
            have L1 := FL.out (d3.getD k df) (d3.getD a df)
            obtain ⟨x, hx⟩ : ∃ x, Hid (d3.getD k df = x) := ⟨_, hide rfl⟩
            obtain ⟨y, hy⟩ : ∃ y, Hid (d3.getD a df = y) := ⟨_, hide rfl⟩
            rw [hx.out] at c1 L1
            rw [hy.out] at c0 L1
            have HU2 := hide (show (if decide (x < y) = true then up (fun x y => decide (x < y)) df d3 a j3 (j3 + 1 - (k + 1)) (k + 1) else k) = U3 by
              have := HU.out
              rw [show j3 + 1 - k = (j3 + 1 - (k + 1)) + 1 by omega, up, g1, hx.out, hy.out, Bool.true_and] at this
              exact this)
            have Hkj := hide hkj
            have hk1 : k + 1 ≤ 1000 := Nat.le_trans (Nat.succ_le_of_lt hkN) HbN.out.2
            have e5 : wrap64 ((k : Int) + 1) = ((k + 1 : Nat) : Int) := w6n hk1
            clear HU hk1 hkj
            go_wp2
            by_cases hl : x < y
            · rw [decide_eq_true hl] at L1
              have Hl := hide (decide_eq_true hl)
              clear hl
              go_quiet (first | (go_at_call 51; (with_reducible refine (L1 _).mono ?_); rintro e w' ⟨rfl, rfl⟩; exact ⟨rfl, _, rfl⟩))
              go_wp2
              refine ⟨⟨k + 1, congrArg _ e5, hide (Nat.le_succ_of_le Hik.out), hide ?_, hide (Hs.out.drewN nq)⟩, ?_⟩
              · have := HU2.out
                rwa [Hl.out, if_pos rfl] at this
              · rw [e5]; exact measS (Nat.lt_succ_of_le Hkj.out)
            · rw [decide_eq_false hl] at L1
              have Hl := hide (decide_eq_false hl)
              clear hl
              go_quiet (first | (go_at_call 51; (with_reducible refine (L1 _).mono ?_); rintro e w' ⟨rfl, rfl⟩; exact ⟨rfl, _, rfl⟩))
              go_wp2
              have hk : k = U3 := by have := HU2.out; rwa [Hl.out, if_neg (by decide)] at this
              go_meet
              exact ⟨congrArg (fun z : Nat => Value.int .i64 (z : Int)) hk, hk ▸ Hik.out, hide (fun _ => by rw [← hk, hx.out, hy.out]; exact Hl.out), hide (Hs.out.drewN nq)⟩
          · have g1 : decide (k ≤ j3) = false := decide_eq_false hkj
            have Hk := hide (show k = U3 by have := HU.out; rwa [show j3 + 1 - k = 0 by omega, up] at this)
            have Hkj := hide hkj
            clear hkj
            go_wp2
            go_quiet (fail)
            go_wp2
            have hk := Hk.out
            go_meet
            exact ⟨congrArg (fun z : Nat => Value.int .i64 (z : Int)) hk, hk ▸ Hik.out, hide (fun h => (Hkj.out (hk ▸ h)).elim), hide (Hs.out.drewN nq)⟩
      clear Hs
      obtain ⟨rfl, hiiU3, HFU3, Hs⟩ := hcut
      have HiiU3 := hide hiiU3
      have HaU3 := hide (Nat.lt_of_lt_of_le Hai3.out hiiU3)
      clear hiiU3
      obtain ⟨V3, HV30⟩ : ∃ V, Hid (dn (fun x y => decide (x < y)) df d3 a U3 j3 = V) := ⟨_, hide rfl⟩
      go_upto_block 8 with fail
      go_cut [11] from 115 to 131 (fun s wx => s = .int .i64 (V3 : Int) ∧ V3 ≤ j3 ∧ a ≤ V3 ∧ Hid (U3 ≤ V3 → decide (d3.getD V3 df < d3.getD a df) = true) ∧ Hid (Sd 26 .u64 base g c N W0 d3 wx))
      case first =>
        go_wp2_with fail
        go_loopw [11] (fun s wr => ∃ k : Nat, s = .int .i64 (k : Int) ∧ Hid (k ≤ j3) ∧ Hid (a ≤ k) ∧ Hid (dn (fun x y => decide (x < y)) df d3 a U3 k = V3) ∧ Hid (Sd 26 .u64 base g c N W0 d3 wr)) (fun s _ => (intOf s).toNat)
        case atStart => exact ⟨j3, rfl, hide (Nat.le_refl _), hide Hj3.out.1, HV30, Hs⟩
        case round =>
          clear Hs HV30
          obtain ⟨k, rfl, Hkj, Hak, HV, Hs⟩ := hrel
          by_cases hik : U3 ≤ k
          · obtain ⟨m, hm⟩ : ∃ m, k = m + 1 := ⟨k - 1, by have := Nat.lt_of_lt_of_le HaU3.out hik; omega⟩
            have ham : a ≤ m := by have := Nat.lt_of_lt_of_le HaU3.out hik; omega
            have hkN : k < N := Nat.lt_of_le_of_lt Hkj.out (Nat.lt_of_lt_of_le Hj3.out.2 HbN.out.1)
            have haN : a < N := Nat.lt_of_lt_of_le Hab.out HbN.out.1
            have c1 := Hs.out.at (df := df) hkN
            have c0 := Hs.out.at (df := df) haN
            have b1 : (k : Int) < (N : Int) := Int.ofNat_lt.2 hkN
            have b0 : (a : Int) < (N : Int) := Int.ofNat_lt.2 haN
            have g1 : decide (U3 ≤ k) = true := decide_eq_true hik
            have L1 := FL.out (d3.getD k df) (d3.getD a df)
            obtain ⟨x, hx⟩ : ∃ x, Hid (d3.getD k df = x) := ⟨_, hide rfl⟩
            obtain ⟨y, hy⟩ : ∃ y, Hid (d3.getD a df = y) := ⟨_, hide rfl⟩
            rw [hx.out] at c1 L1
            rw [hy.out] at c0 L1
            have HV2 := hide (show (if (!decide (x < y)) = true then dn (fun x y => decide (x < y)) df d3 a U3 m else k) = V3 by
              have := HV.out
              rw [hm, dn, ← hm, g1, hx.out, hy.out, Bool.true_and] at this
              exact this)
            have r5 : (k : Int) - 1 = (m : Int) := by omega
            have hm1 : m ≤ 1000 := by have := HbN.out.2; omega
            have Hm := hide hm
            have Ham := hide ham
            have e5 : wrap64 ((k : Int) - 1) = (m : Int) := by rw [r5]; exact w6n hm1
            clear HV hm1 hik r5 hm ham
            go_wp2
            by_cases hl : x < y
            · rw [decide_eq_true hl] at L1
              have Hl := hide (decide_eq_true hl)
              clear hl
              go_quiet (first | (go_at_call 51; (with_reducible refine (L1 _).mono ?_); rintro e w' ⟨rfl, rfl⟩; exact ⟨rfl, _, rfl⟩))
              go_wp2
              have hk : k = V3 := by have := HV2.out; rwa [Hl.out, if_neg (by decide)] at this
              go_meet
              exact ⟨congrArg (fun z : Nat => Value.int .i64 (z : Int)) hk, hk ▸ Hkj.out, hk ▸ Hak.out, hide (fun _ => by rw [← hk, hx.out, hy.out]; exact Hl.out), hide (Hs.out.drewN nq)⟩
            · rw [decide_eq_false hl] at L1
              have Hl := hide (decide_eq_false hl)
              clear hl
              go_quiet (first | (go_at_call 51; (with_reducible refine (L1 _).mono ?_); rintro e w' ⟨rfl, rfl⟩; exact ⟨rfl, _, rfl⟩))
              go_wp2
              refine ⟨⟨m, congrArg _ e5, hide (by have := Hkj.out; have := Hm.out; clear e5; omega), Ham, hide ?_, hide (Hs.out.drewN nq)⟩, ?_⟩
              · have := HV2.out
                rwa [Hl.out, if_pos (by decide)] at this
              · rw [e5, Hm.out]; exact Nat.lt_succ_self m
          · have g1 : decide (U3 ≤ k) = false := decide_eq_false hik
            have Hk := hide (show k = V3 by
              rw [← HV.out]
              cases k with
              | zero => rfl
              | succ m => rw [dn, g1, Bool.false_and, if_neg (by decide)])
            have Hik := hide hik
            clear hik
            go_wp2
            go_quiet (fail)
            go_wp2
            have hk := Hk.out
            go_meet
            exact ⟨congrArg (fun z : Nat => Value.int .i64 (z : Int)) hk, hk ▸ Hkj.out, hk ▸ Hak.out, hide (fun h => (Hik.out (hk ▸ h)).elim), hide (Hs.out.drewN nq)⟩
      clear Hs
      obtain ⟨rfl, hvjV3, havV3, HFV3, Hs⟩ := hcut
      have HvjV3 := hide hvjV3
      have HavV3 := hide havV3
      clear hvjV3 havV3
      have HjN3 : Hid (j3 < N) := hide (Nat.lt_of_lt_of_le Hj3.out.2 HbN.out.1)
      obtain ⟨m, hm⟩ := HR.out
      obtain ⟨m, HD2⟩ : ∃ m, Hid ((if V3 < U3 then some (V3, d3) else plp (fun x y => decide (x < y)) df a m (U3 + 1) (V3 - 1) (swp df d3 U3 V3)) = some R) := by
        cases m with
        | zero => cases hm
        | succ m =>
          rw [plp] at hm
          rw [HU3.out, HV30.out] at hm
          exact ⟨m, hide hm⟩
      clear hm HR
      by_cases hvu : V3 < U3
      · have HD3 := HD2.out
        rw [if_pos hvu] at HD3
        injection HD3 with hR
        obtain ⟨h1, h2, h3⟩ := Hend.out
        rw [← hR] at h1 h3
        have H1 : Hid (V3 = mid) := hide h1
        have H2 := hide h2
        have H3 : Hid (swp df d3 V3 a = D) := hide h3
        clear h1 h2 h3 HD2 hR Hend
        by_cases hva : V3 = a
        · subst hva
          have hpN : V3 < N := Nat.lt_of_le_of_lt HvjV3.out HjN3.out
          have hqN : V3 < N := Nat.lt_of_le_of_lt HvjV3.out HjN3.out
          have c1 := Hs.out.at (df := df) hpN
          have c0 := Hs.out.at (df := df) hqN
          have f1 := Hs.out.froz V3
          have f0 := Hs.out.froz V3
          have b1 : (V3 : Int) < (N : Int) := Int.ofNat_lt.2 hpN
          have b0 : (V3 : Int) < (N : Int) := Int.ofNat_lt.2 hqN
          obtain ⟨x, hx⟩ : ∃ x, Hid (d3.getD V3 df = x) := ⟨_, hide rfl⟩
          obtain ⟨y, hy⟩ : ∃ y, Hid (d3.getD V3 df = y) := ⟨_, hide rfl⟩
          rw [hx.out] at c1
          obtain rfl : x = y := by rw [← hx.out, ← hy.out]
          rw [hx.out] at c0
          clear hpN hqN
          go_wp2
          go_region
          have hse : Sd 26 .u64 base g c N W0 (swp df d3 V3 V3) ((wc.setCell ⟨g, V3, none⟩ (.int .u64 x)).setCell ⟨g, V3, none⟩ (.int .u64 x)).drew := by
            have := ((Hs.out.set V3 x).set V3 x).drewN 1
            rw [← hx.out] at this
            rw [← hx.out]
            exact this
          generalize ((wc.setCell ⟨g, V3, none⟩ (.int .u64 x)).setCell ⟨g, V3, none⟩ (.int .u64 x)).drew = w2 at *
          clear Hs c1 c0 f1 f0 hx hy b1 b0
          have Hs := hide hse
          clear hse
          go_wp2
          refine bodyPost_ret (results_tmp2 rfl _ _ _) rfl ?_
          rw [← H1.out, ← H2.out, ← H3.out]
          exact ⟨rfl, Hs.out⟩
        · have n1 : V3 ≠ a := hva
          have n2 : a ≠ V3 := fun h => hva h.symm
          clear hva
          have hpN : V3 < N := Nat.lt_of_le_of_lt HvjV3.out HjN3.out
          have hqN : a < N := Nat.lt_of_lt_of_le Hab.out HbN.out.1
          have c1 := Hs.out.at (df := df) hpN
          have c0 := Hs.out.at (df := df) hqN
          have f1 := Hs.out.froz V3
          have f0 := Hs.out.froz a
          have b1 : (V3 : Int) < (N : Int) := Int.ofNat_lt.2 hpN
          have b0 : (a : Int) < (N : Int) := Int.ofNat_lt.2 hqN
          obtain ⟨x, hx⟩ : ∃ x, Hid (d3.getD V3 df = x) := ⟨_, hide rfl⟩
          obtain ⟨y, hy⟩ : ∃ y, Hid (d3.getD a df = y) := ⟨_, hide rfl⟩
          rw [hx.out] at c1
          rw [hy.out] at c0
          clear hpN hqN
          go_wp2
          go_region
          have hse : Sd 26 .u64 base g c N W0 (swp df d3 V3 a) ((wc.setCell ⟨g, V3, none⟩ (.int .u64 y)).setCell ⟨g, a, none⟩ (.int .u64 x)).drew := by
            have := ((Hs.out.set V3 y).set a x).drewN 1
            rw [← hx.out, ← hy.out] at this
            rw [← hx.out, ← hy.out]
            exact this
          generalize ((wc.setCell ⟨g, V3, none⟩ (.int .u64 y)).setCell ⟨g, a, none⟩ (.int .u64 x)).drew = w2 at *
          clear Hs c1 c0 f1 f0 hx hy b1 b0
          have Hs := hide hse
          clear hse
          go_wp2
          refine bodyPost_ret (results_tmp2 rfl _ _ _) rfl ?_
          rw [← H1.out, ← H2.out, ← H3.out]
          exact ⟨rfl, Hs.out⟩
      · have huv : U3 ≤ V3 := Nat.le_of_not_lt hvu
        have HD3 := HD2.out
        rw [if_neg hvu] at HD3
        have hne : U3 ≠ V3 := fun h => by
          have h1 := HFU3.out (h ▸ HvjV3.out)
          have h2 := HFV3.out huv
          rw [h, h2] at h1
          cases h1
        have HR := hide HD3
        clear HD3 HD2
        obtain ⟨i1, hi1⟩ : ∃ z, z = U3 + 1 := ⟨_, rfl⟩
        obtain ⟨j1, hj1⟩ : ∃ z, V3 = z + 1 := ⟨V3 - 1, by have := HaU3.out; omega⟩
        have hVj := HvjV3.out
        have hjN := HjN3.out
        have hb1000 := HbN.out.2
        have r1 : (V3 : Int) - 1 = (j1 : Int) := by omega
        have r2 : (U3 : Int) + 1 = (i1 : Int) := by omega
        have q1 : i1 ≤ 1000 := by omega
        have q2 : j1 ≤ 1000 := by omega
        have Hai4 : Hid (a < i1) := hide (by have := HaU3.out; omega)
        have Hj4 : Hid (a ≤ j1 ∧ j1 < b) := hide (by have := HaU3.out; have := Hj3.out; omega)
        have Hms : Hid (j1 + 1 - i1 < j3 + 1 - i3) := hide (by have := HiiU3.out; have := HvjV3.out; omega)
        rw [show V3 - 1 = j1 by omega, ← hi1] at HR
        have n1 : U3 ≠ V3 := hne
        have n2 : V3 ≠ U3 := fun h => hne h.symm
        have e1 : wrap64 ((V3 : Int) - 1) = (j1 : Int) := by rw [r1]; exact w6n q2
        have e2 : wrap64 ((U3 : Int) + 1) = (i1 : Int) := by rw [r2]; exact w6n q1
        have Huv := hide huv
        clear r1 r2 q1 q2 hi1 hj1 hVj hjN hb1000 hne hvu
        have hpN : U3 < N := Nat.lt_of_le_of_lt Huv.out (Nat.lt_of_le_of_lt HvjV3.out HjN3.out)
        have hqN : V3 < N := Nat.lt_of_le_of_lt HvjV3.out HjN3.out
        have c1 := Hs.out.at (df := df) hpN
        have c0 := Hs.out.at (df := df) hqN
        have f1 := Hs.out.froz U3
        have f0 := Hs.out.froz V3
        have b1 : (U3 : Int) < (N : Int) := Int.ofNat_lt.2 hpN
        have b0 : (V3 : Int) < (N : Int) := Int.ofNat_lt.2 hqN
        obtain ⟨x, hx⟩ : ∃ x, Hid (d3.getD U3 df = x) := ⟨_, hide rfl⟩
        obtain ⟨y, hy⟩ : ∃ y, Hid (d3.getD V3 df = y) := ⟨_, hide rfl⟩
        rw [hx.out] at c1
        rw [hy.out] at c0
        clear hpN hqN
        go_wp2
        go_region
        have hse : Sd 26 .u64 base g c N W0 (swp df d3 U3 V3) ((wc.setCell ⟨g, U3, none⟩ (.int .u64 y)).setCell ⟨g, V3, none⟩ (.int .u64 x)).drew := by
          have := ((Hs.out.set U3 y).set V3 x).drewN 1
          rw [← hx.out, ← hy.out] at this
          rw [← hx.out, ← hy.out]
          exact this
        generalize ((wc.setCell ⟨g, U3, none⟩ (.int .u64 y)).setCell ⟨g, V3, none⟩ (.int .u64 x)).drew = w2 at *
        clear Hs c1 c0 f1 f0 hx hy b1 b0
        have Hs := hide hse
        clear hse
        go_wp2
        refine ⟨⟨i1, j1, _, congrArg _ e2, congrArg _ e1, Hai4, Hj4, hide ⟨m, HR.out⟩, Hs⟩, ?_⟩
        rw [e1, e2]
        exact Hms.out
theorem ins0_u64 (v : Value) (a : Nat) (W : World) (h : a ≤ 1000) : Calls Try.prog 53 #[v, .int .i64 (a : Int), .int .i64 (a : Int)] W fun e w' => e = .returned (.tuple #[]) ∧ W = w' := by
  have e0 : wrap64 ((a : Int) + 1) = ((a + 1 : Nat) : Int) := w6n2 h
  have hlt : decide (((a + 1 : Nat) : Int) < (a : Int)) = false := decide_eq_false (by clear e0; omega)
  obtain ⟨i, hi⟩ : ∃ i, a + 1 = i := ⟨_, rfl⟩
  rw [hi] at e0 hlt
  have hna : ¬ (i : Int) < (a : Int) := by clear e0; omega
  clear h hi
  go_enter Try.func53, Try.ntmps53
  go_wp2
  go_loop [6] (fun z => z = .int .i64 (i : Int)) (fun _ => 0)
  case atStart => first | rfl | exact congrArg _ e0
  case round =>
    subst hrel
    go_wp2
    go_end0
    exact ⟨rfl, rfl⟩
theorem insA_u64 (base g c N : Nat) (W0 : World) (a b : Nat) (d D : List Int) (w : World) (hs : Sd 26 .u64 base g c N W0 d w) (hab : a ≤ b) (hb : b ≤ N) (hN : N ≤ 1000) (hD : insSort (fun x y => decide (x < y)) df d a b = D) :
    Calls Try.prog 53 #[.slice (some ⟨g, 0, none⟩) N c, .int .i64 (a : Int), .int .i64 (b : Int)] w fun e w' => e = .returned (.tuple #[]) ∧ Sd 26 .u64 base g c N W0 D w' := by
  by_cases h : a < b
  · exact ins_u64 base g c N W0 a b d D w hs h hb hN hD
  · obtain rfl : a = b := by omega
    refine (ins0_u64 _ a w (by omega)).mono ?_
    rintro e w' ⟨rfl, rfl⟩
    rw [insSort, show a - (a + 1) = 0 by omega, insO] at hD
    exact ⟨rfl, hD ▸ hs⟩
end
end So
end Go.Proofs.Ytjdaoenapmjoeaa
