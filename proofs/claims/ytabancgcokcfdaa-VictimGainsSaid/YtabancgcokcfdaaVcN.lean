/-
  LAYER 22, SORTING BY A FUNCTION THAT KEEPS WHAT IT TOLD, walks: partialInsertionSortCmpFunc of fewer than fifty.
-/
import Derived.Test.YtabancgcokcfdaaVcS
import Derived.Deep.RegionLaw
import Derived.StillTailTactics
namespace Go.Proofs.Ytabancgcokcfdaa
open Go.RowKit
set_option maxRecDepth 8000
namespace Vc
theorem psc_in {lt : Int → Int → Bool} {D : Array Int} {b i : Nat} (h : i < b) : Sort.scanSorted lt D b i = if lt D[i]! D[i - 1]! = true then i else Sort.scanSorted lt D b (i + 1) := by
  rw [Sort.scanSorted]
  cases hq : lt D[i]! D[i - 1]!
  · rw [if_pos (by simp [h]), if_neg (by decide)]
  · rw [if_neg (by simp), if_pos rfl]
theorem psc_out {lt : Int → Int → Bool} {D : Array Int} {b i : Nat} (h : ¬ i < b) : Sort.scanSorted lt D b i = i := by
  rw [Sort.scanSorted, if_neg (by simp [h])]
section
variable {L : List Pl2} {S : List Int} {q base g c N : Nat} {W0 : World}
set_option maxHeartbeats 4000000 in
theorem pins_cmp (a b P : Nat) (D : Array Int) (w : World) (hs : Vd L S q base g c N W0 D w) (h1 : a < b) (h2 : b - a < 50) (hb : b ≤ N) (hN : N ≤ 1000) (hP : Sort.scanSorted (ltV L) D b (a + 1) = P) :
    Calls Try.prog 38 #[.slice (some ⟨g, 0, none⟩) N c, .int .i64 (a : Int), .int .i64 (b : Int), .func (.func 23) #[] #[.pointer (some ⟨q + 3, 0, none⟩)]] w fun e w' => e = .returned (.bool (decide (P = b))) ∧ Vd L S q base g c N W0 D w' := by
  have eg := egV
  have Hs := hide hs
  have HP := hide hP
  obtain ⟨LZ, hL⟩ : ∃ LZ, b - a = LZ := ⟨_, rfl⟩
  have r1 : (b : Int) - (a : Int) = (LZ : Int) := by omega
  have l50 : (LZ : Int) < 50 := by omega
  have q1 : LZ ≤ 1000 := by omega
  have q2 : a + 1 ≤ 1000 := by omega
  have e0 : wrap64 ((a : Int) + 1) = ((a + 1 : Nat) : Int) := w6n q2
  have e1 : wrap64 ((b : Int) - (a : Int)) = (LZ : Int) := by rw [r1]; exact w6n q1
  have HE1 := hide e1
  have Hq : Hid (b ≤ 1000 ∧ a + 1 ≤ b) := hide (by clear e0 e1; omega)
  have HbN := hide hb
  clear hs hP r1 q1 q2 e1 h2 hL hN h1 hb
  go_enter Try.func38, Try.ntmps38
  go_wp2
  go_loopw [9, 10] (fun i j wr => i = .int .i64 (wrap64 ((a : Int) + 1)) ∧ j = .int .i64 0 ∧ wr = w) (fun _ _ _ => 0)
  case atStart => exact ⟨rfl, rfl, rfl⟩
  case round =>
    obtain ⟨rfl, rfl, rfl⟩ := hrel
    go_wp2
    go_loopw [9] (fun i wr => ∃ i' : Nat, i' ≤ b ∧ 0 < i' ∧ i = .int .i64 (i' : Int) ∧ Hid (Sort.scanSorted (ltV L) D b i' = P) ∧ Hid (Vd L S q base g c N W0 D wr)) (fun i _ => b - (RowKit.intOf i).toNat)
    case atStart => exact ⟨a + 1, Hq.out.2, Nat.succ_pos _, congrArg _ e0, HP, Hs⟩
    case round =>
      clear Hs HP e0
      obtain ⟨i, hib, hi0, rfl, HP, Hs⟩ := hrel
      by_cases hlt : i < b
      · obtain ⟨k, hk⟩ : ∃ k, i = k + 1 := ⟨i - 1, by omega⟩
        have hbn := HbN.out
        have hiN : i < N := by omega
        have hkN : k < N := by omega
        have hi1 : i + 1 ≤ 1001 := by have := Hq.out.1; omega
        have c1 := Hs.out.drew.at hiN
        have c0 := Hs.out.drew.at hkN
        have b1 : (i : Int) < (N : Int) := by omega
        have b0 : (k : Int) < (N : Int) := by omega
        have g1 : decide (i < b) = true := decide_eq_true hlt
        have r3 : (i : Int) - 1 = (k : Int) := by omega
        have hk0 : k ≤ 1000 := by omega
        have g3 : ((i : Int) == (b : Int)) = false := beq_eq_false_iff_ne.2 (by omega)
        have fc := Hs.out.drew.cmp (Hs.out.mem i hiN) (Hs.out.mem k hkN)
        have hl := cf_lt L D[i]! D[k]!
        have hp2 : (if ltV L D[i]! D[k]! = true then i else Sort.scanSorted (ltV L) D b (i + 1)) = P := by
          have := HP.out
          rwa [psc_in hlt, show i - 1 = k by omega] at this
        obtain ⟨zz, hzz⟩ : ∃ zz, cfV L D[i]! D[k]! = zz := ⟨_, rfl⟩
        rw [hzz] at fc hl
        rw [← hl] at hp2
        have HP2 := hide hp2
        generalize D[i]! = x at *
        generalize D[k]! = y at *
        have FC := hide fc
        have Hlt := hide hlt
        have e3' : IntKind.i64.wrap ((i : Int) - 1) = (k : Int) := by rw [r3]; exact IntWalk.i64_in _ (by omega)
        have e3 : wrap64 ((i : Int) - 1) = (k : Int) := by rw [r3]; exact w6n hk0
        have e5 : wrap64 ((i : Int) + 1) = ((i + 1 : Nat) : Int) := w6m (Nat.le_trans hi1 (by decide))
        clear HP r3 hk0 hi1 hk hlt hbn hib hl hp2 hzz fc
        go_wp2
        by_cases hz : zz < 0
        · have gz : decide (zz < 0) = true := decide_eq_true hz
          have HP3 := hide (show i = P by have := HP2.out; rwa [gz, if_pos rfl] at this)
          clear hz HP2
          have e1 := HE1.out
          go_still_tail 14, (by kernel_rfl)
          change wpList _ _ _ _ _ wr.drew
          generalize wr.drew = wd at *
          go_wp2_with (first | (go_at_fn 23; refine FC.out.mono ?_; rintro e w4 ⟨rfl, hv, hg⟩; have H4 := hide hv; clear hv hg FC))
          go_ret
          have hib : ¬ i = b := Nat.ne_of_lt Hlt.out
          rw [← HP3.out, decide_eq_false hib]
          exact ⟨rfl, H4.out⟩
        · have gz : decide (zz < 0) = false := decide_eq_false hz
          have HP3 := hide (show Sort.scanSorted (ltV L) D b (i + 1) = P by have := HP2.out; rwa [gz, if_neg (by decide)] at this)
          clear hz HP2
          go_still_tail 14, (by kernel_rfl)
          change wpList _ _ _ _ _ wr.drew
          generalize wr.drew = wd at *
          go_wp2_with (first | (go_at_fn 23; refine FC.out.mono ?_; rintro e w4 ⟨rfl, hv, hg⟩; have H4 := hide hv; clear hv hg FC))
          go_wp2
          refine ⟨⟨i + 1, Hlt.out, Nat.succ_pos _, congrArg _ e5, HP3, H4⟩, ?_⟩
          rw [e5]; exact measS Hlt.out
      · obtain rfl : i = b := by omega
        have g1 : decide (i < i) = false := decide_eq_false hlt
        have g2 : ((i : Int) == (i : Int)) = true := by simp
        have HP3 := hide (show i = P by have := HP.out; rwa [psc_out hlt] at this)
        clear HP
        go_wp2
        go_quiet (fail)
        go_wp2
        go_ret
        rw [← HP3.out, decide_eq_true rfl]
        exact ⟨rfl, Hs.out.drewN nq⟩
end
end Vc
end Go.Proofs.Ytabancgcokcfdaa
