/-
  LAYER 22, SORTING BY A FUNCTION THAT KEEPS WHAT IT TOLD, walks: partitionEqualCmpFunc. (By gen/VcP.gen.py.)
-/
import Derived.Test.YtabancgcokcfdaaVcS
import Derived.Deep.RegionLaw
import Derived.StillTailTactics
import Derived.BigRegion
namespace Go.Proofs.Ytabancgcokcfdaa
open Go.RowKit
set_option maxRecDepth 8000
namespace Vc
theorem scan_up_in {p : Int → Bool} {d : Array Int} {j i : Nat} (h : i ≤ j) : Sort.scanUp p d j i = if p d[i]! = true then Sort.scanUp p d j (i + 1) else i := by
  rw [Sort.scanUp]
  cases hp : p d[i]!
  · rw [if_neg (by simp), if_neg (by decide)]
  · rw [if_pos (by simp [h]), if_pos rfl]
theorem scan_up_out {p : Int → Bool} {d : Array Int} {j i : Nat} (h : ¬ i ≤ j) : Sort.scanUp p d j i = i := by
  rw [Sort.scanUp, if_neg (by simp [h])]
theorem scan_dn_in {p : Int → Bool} {d : Array Int} {i j : Nat} (h : i ≤ j + 1) : Sort.scanDown p d i (j + 1) = if p d[j + 1]! = true then Sort.scanDown p d i j else j + 1 := by
  rw [Sort.scanDown]
  cases hp : p d[j + 1]!
  · rw [if_neg (by simp), if_neg (by decide)]
  · rw [if_pos (by simp [h]), if_pos rfl]
theorem scan_dn_out {p : Int → Bool} {d : Array Int} {i j : Nat} (h : ¬ i ≤ j) : Sort.scanDown p d i j = j := by
  cases j with
  | zero => rw [Sort.scanDown]
  | succ j => rw [Sort.scanDown, if_neg (by simp [h])]
section
variable {L : List Pl2} {S : List Int} {q base g c N : Nat} {W0 : World}
set_option maxHeartbeats 8000000 in
theorem parteq_cmp (a b p : Nat) (D : Array Int) (w : World) (hs : Vd L S q base g c N W0 D w) (hap : a < p) (hp : p < b) (hb : b ≤ N) (hN : N ≤ 1000) :
    Calls Try.prog 39 #[.slice (some ⟨g, 0, none⟩) N c, .int .i64 (a : Int), .int .i64 (b : Int), .int .i64 (p : Int), .func (.func 23) #[] #[.pointer (some ⟨q + 3, 0, none⟩)]] w fun e w' => e = .returned (.int .i64 ((Sort.partitionEqual (ltV L) D a b p).1 : Int)) ∧ Vd L S q base g c N W0 (Sort.partitionEqual (ltV L) D a b p).2 w' := by
  obtain ⟨R, hR⟩ : ∃ R, Sort.partitionEqual (ltV L) D a b p = R := ⟨_, rfl⟩
  rw [hR]
  have HR : Hid (Sort.partEqLoop (ltV L) a (a + 1) (b - 1) (Sort.swp D a p) = R) := hide hR
  have eg := egV
  have Hs := hide hs
  have HbN := hide (show b ≤ N ∧ N ≤ 1000 ∧ a < N ∧ a < b by omega)
  have n1 : p ≠ a := Nat.ne_of_gt hap
  have n2 : a ≠ p := Nat.ne_of_lt hap
  have hpN : p < N := by omega
  have haN : a < N := by omega
  have c1 := Vd.at hs hpN
  have c0 := Vd.at hs haN
  have f1 := Vd.froz hs p
  have f0 := Vd.froz hs a
  have b1 : (p : Int) < (N : Int) := Int.ofNat_lt.2 hpN
  have b0 : (a : Int) < (N : Int) := Int.ofNat_lt.2 haN
  obtain ⟨i0, hi0⟩ : ∃ i, a + 1 = i := ⟨_, rfl⟩
  obtain ⟨j0, hj0⟩ : ∃ j, b - 1 = j := ⟨_, rfl⟩
  rw [hi0, hj0] at HR
  have r1 : (b : Int) - 1 = (j0 : Int) := by omega
  have r2 : (a : Int) + 1 = (i0 : Int) := by omega
  have q1 : i0 ≤ 1000 := by omega
  have q2 : j0 ≤ 1000 := by omega
  have H0 : Hid (a < i0 ∧ i0 ≤ j0 + 1 ∧ j0 < b) := hide (by omega)
  have e1 : wrap64 ((b : Int) - 1) = (j0 : Int) := by rw [r1]; exact w6n q2
  have e2 : wrap64 ((a : Int) + 1) = (i0 : Int) := by rw [r2]; exact w6n q1
  have Hs2 := hide (show Vd L S q base g c N W0 (Sort.swp D a p) ((w.setCell ⟨g, a, none⟩ (.int .i64 D[p]!)).setCell ⟨g, p, none⟩ (.int .i64 D[a]!)).drew from (hs.swap haN hpN).drew)
  generalize hx : D[p]! = x at *
  generalize hy : D[a]! = y at *
  generalize Sort.swp D a p = E0 at *
  clear hs hap hp hb hN hR hpN haN r1 r2 q1 q2 hi0 hj0 hx hy Hs
  go_enter Try.func39, Try.ntmps39
  go_wp2
  go_region
  generalize ((w.setCell ⟨g, a, none⟩ (.int .i64 x)).setCell ⟨g, p, none⟩ (.int .i64 y)).drew = w1 at *
  clear c1 c0 f1 f0 n1 n2 b1 b0
  go_wp2
  go_loopw [11, 12] (fun s t wr => ∃ (i j : Nat) (E : Array Int), s = .int .i64 (i : Int) ∧ t = .int .i64 (j : Int) ∧ Hid (a < i ∧ i ≤ j + 1 ∧ j < b) ∧ Hid (Sort.partEqLoop (ltV L) a i j E = R) ∧ Hid (Vd L S q base g c N W0 E wr)) (fun s t _ => (RowKit.intOf t).toNat + 1 - (RowKit.intOf s).toNat)
  case atStart => exact ⟨i0, j0, E0, by first | rfl | exact congrArg _ e2, by first | rfl | exact congrArg _ e1, H0, HR, Hs2⟩
  case round =>
    clear Hs2 HR H0
    obtain ⟨i, j, E, rfl, rfl, Hij, HR, Hs⟩ := hrel
    clear e1 e2
    obtain ⟨U, HU⟩ : ∃ U, Hid (Sort.scanUp (fun x => !ltV L E[a]! x) E j i = U) := ⟨_, hide rfl⟩
    obtain ⟨V, HV⟩ : ∃ V, Hid (Sort.scanDown (fun x => ltV L E[a]! x) E U j = V) := ⟨_, hide rfl⟩
    have HR2 := hide (show (if U > V then (U, E) else Sort.partEqLoop (ltV L) a (U + 1) (V - 1) (Sort.swp E U V)) = R by
      have := HR.out
      rw [Sort.partEqLoop_eq, HU.out, HV.out] at this
      exact this)
    clear HR
    go_upto_block 2 with fail
    go_cut [11] from 31 to 49 (fun s wx => s = .int .i64 (U : Int) ∧ Hid (i ≤ U ∧ U ≤ j + 1 ∧ (U ≤ j → ltV L E[a]! E[U]! = true)) ∧ Hid (Vd L S q base g c N W0 E wx))
    case first =>
      go_wp2_with fail
      go_loopw [11] (fun s wr => ∃ k : Nat, s = .int .i64 (k : Int) ∧ Hid (i ≤ k ∧ k ≤ j + 1) ∧ Hid (Sort.scanUp (fun x => !ltV L E[a]! x) E j k = U) ∧ Hid (Vd L S q base g c N W0 E wr)) (fun s _ => j + 1 - (RowKit.intOf s).toNat)
      case atStart => exact ⟨i, rfl, hide ⟨Nat.le_refl _, Hij.out.2.1⟩, HU, Hs⟩
      case round =>
        clear Hs HU
        obtain ⟨k, rfl, Hik, HU, Hs⟩ := hrel
        by_cases hkj : k ≤ j
        · have hkN : k < N := by have := Hij.out; have := HbN.out; omega
          have haN : a < N := HbN.out.2.2.1
          have c1 := Hs.out.drew.at hkN
          have c0 := Hs.out.drew.at haN
          have b1 : (k : Int) < (N : Int) := Int.ofNat_lt.2 hkN
          have b0 : (a : Int) < (N : Int) := Int.ofNat_lt.2 haN
          have g1 : decide (k ≤ j) = true := decide_eq_true hkj
          have fc := Hs.out.drew.cmp (Hs.out.mem a haN) (Hs.out.mem k hkN)
          have hu2 : (if (!ltV L E[a]! E[k]!) = true then Sort.scanUp (fun x => !ltV L E[a]! x) E j (k + 1) else k) = U := by rw [← HU.out, scan_up_in hkj]
          have hl := cf_lt L E[a]! E[k]!
          obtain ⟨zz, hzz⟩ : ∃ zz, cfV L E[a]! E[k]! = zz := ⟨_, rfl⟩
          rw [hzz] at fc hl
          rw [← hl] at hu2
          have HU2 := hide hu2
          have Hl := hide hl
          clear hl hzz hu2
          obtain ⟨x, hx⟩ : ∃ x, Hid (E[k]! = x) := ⟨_, hide rfl⟩
          obtain ⟨y, hy⟩ : ∃ y, Hid (E[a]! = y) := ⟨_, hide rfl⟩
          rw [hx.out] at c1 fc
          rw [hy.out] at c0 fc
          have FC := hide fc
          have Hkj := hide hkj
          have hk1 : k + 1 ≤ 1000 := by have := HbN.out; omega
          have e5 : wrap64 ((k : Int) + 1) = ((k + 1 : Nat) : Int) := w6n2 (Nat.le_of_succ_le hk1)
          clear HU hk1 hkj hkN haN fc
          go_wp2
          by_cases hz : zz < 0
          · have gz : decide (zz < 0) = true := decide_eq_true hz
            have HU3 := hide (show k = U by have := HU2.out; rwa [gz, if_neg (by decide)] at this)
            have HE := hide (show ltV L E[a]! E[k]! = true by rw [← Hl.out]; exact gz)
            clear hz HU2
            go_still_tail 13, (by kernel_rfl)
            change wpList _ _ _ _ _ wr.drew
            generalize wr.drew = wd at *
            go_wp2_with (first | (go_at_fn 23; refine FC.out.mono ?_; rintro e w4 ⟨rfl, hv, hg⟩; have H4 := hide hv; clear hv hg FC))
            have hk := HU3.out
            have he := HE.out
            rw [hk] at he
            go_meet
            exact ⟨congrArg (fun z : Nat => Value.int .i64 (z : Int)) hk, hide ⟨hk ▸ Hik.out.1, hk ▸ Hik.out.2, fun _ => he⟩, H4⟩
          · have gz : decide (zz < 0) = false := decide_eq_false hz
            have HU3 := hide (show Sort.scanUp (fun x => !ltV L E[a]! x) E j (k + 1) = U by have := HU2.out; rwa [gz, if_pos (by decide)] at this)
            clear hz HU2
            go_still_tail 13, (by kernel_rfl)
            change wpList _ _ _ _ _ wr.drew
            generalize wr.drew = wd at *
            go_wp2_with (first | (go_at_fn 23; refine FC.out.mono ?_; rintro e w4 ⟨rfl, hv, hg⟩; have H4 := hide hv; clear hv hg FC))
            refine ⟨⟨k + 1, congrArg _ e5, hide ⟨Nat.le_succ_of_le Hik.out.1, Nat.succ_le_succ Hkj.out⟩, HU3, H4⟩, ?_⟩
            rw [e5]
            exact measS (Nat.lt_succ_of_le Hkj.out)
        · have g1 : decide (k ≤ j) = false := decide_eq_false hkj
          have Hk := hide (show k = U by rw [← HU.out]; exact (scan_up_out hkj).symm)
          have Hkj := hide hkj
          clear hkj
          go_wp2
          go_quiet (fail)
          go_wp2
          have hk := Hk.out
          go_meet
          exact ⟨congrArg (fun z : Nat => Value.int .i64 (z : Int)) hk, hide ⟨hk ▸ Hik.out.1, hk ▸ Hik.out.2, fun h => (Hkj.out (hk ▸ h)).elim⟩, hide (Hs.out.drewN nq)⟩
    clear Hs
    obtain ⟨rfl, HFU, Hs⟩ := hcut
    go_upto_block 4 with fail
    go_cut [12] from 50 to 67 (fun s wx => s = .int .i64 (V : Int) ∧ Hid (V ≤ j ∧ U ≤ V + 1 ∧ (U ≤ V → ltV L E[a]! E[V]! = false)) ∧ Hid (Vd L S q base g c N W0 E wx))
    case first =>
      go_wp2_with fail
      go_loopw [12] (fun s wr => ∃ k : Nat, s = .int .i64 (k : Int) ∧ Hid (k ≤ j ∧ U ≤ k + 1) ∧ Hid (Sort.scanDown (fun x => ltV L E[a]! x) E U k = V) ∧ Hid (Vd L S q base g c N W0 E wr)) (fun s _ => (RowKit.intOf s).toNat)
      case atStart => exact ⟨j, rfl, hide ⟨Nat.le_refl _, HFU.out.2.1⟩, HV, Hs⟩
      case round =>
        clear Hs HV
        obtain ⟨k, rfl, Hkj, HV, Hs⟩ := hrel
        by_cases hik : U ≤ k
        · obtain ⟨m, hm⟩ : ∃ m, k = m + 1 := ⟨k - 1, by have := HFU.out; have := Hij.out; omega⟩
          have hkN : k < N := by have := Hkj.out; have := Hij.out; have := HbN.out; omega
          have haN : a < N := HbN.out.2.2.1
          have c1 := Hs.out.drew.at hkN
          have c0 := Hs.out.drew.at haN
          have b1 : (k : Int) < (N : Int) := Int.ofNat_lt.2 hkN
          have b0 : (a : Int) < (N : Int) := Int.ofNat_lt.2 haN
          have g1 : decide (U ≤ k) = true := decide_eq_true hik
          have fc := Hs.out.drew.cmp (Hs.out.mem a haN) (Hs.out.mem k hkN)
          have hu2 : (if ltV L E[a]! E[k]! = true then Sort.scanDown (fun x => ltV L E[a]! x) E U m else k) = V := by rw [← HV.out, hm, scan_dn_in (by rw [← hm]; exact hik)]
          have hl := cf_lt L E[a]! E[k]!
          obtain ⟨zz, hzz⟩ : ∃ zz, cfV L E[a]! E[k]! = zz := ⟨_, rfl⟩
          rw [hzz] at fc hl
          rw [← hl] at hu2
          have HV2 := hide hu2
          have Hl := hide hl
          clear hl hzz hu2
          obtain ⟨x, hx⟩ : ∃ x, Hid (E[k]! = x) := ⟨_, hide rfl⟩
          obtain ⟨y, hy⟩ : ∃ y, Hid (E[a]! = y) := ⟨_, hide rfl⟩
          rw [hx.out] at c1 fc
          rw [hy.out] at c0 fc
          have FC := hide fc
          have Hik := hide hik
          have r5 : (k : Int) - 1 = (m : Int) := by omega
          have hm1 : m ≤ 1000 := by have := HbN.out; omega
          have Hm := hide hm
          have e5 : wrap64 ((k : Int) - 1) = (m : Int) := by rw [r5]; exact w6n hm1
          clear HV hm1 hik r5 hm hkN haN fc
          go_wp2
          by_cases hz : zz < 0
          · have gz : decide (zz < 0) = true := decide_eq_true hz
            have HV3 := hide (show Sort.scanDown (fun x => ltV L E[a]! x) E U m = V by have := HV2.out; rwa [gz, if_pos (by decide)] at this)
            clear hz HV2
            go_still_tail 13, (by kernel_rfl)
            change wpList _ _ _ _ _ wr.drew
            generalize wr.drew = wd at *
            go_wp2_with (first | (go_at_fn 23; refine FC.out.mono ?_; rintro e w4 ⟨rfl, hv, hg⟩; have H4 := hide hv; clear hv hg FC))
            refine ⟨⟨m, congrArg _ e5, hide ⟨by have := Hkj.out; have := Hm.out; omega, by have := Hik.out; have := Hm.out; omega⟩, HV3, H4⟩, ?_⟩
            rw [e5, Hm.out]
            exact Nat.lt_succ_self m
          · have gz : decide (zz < 0) = false := decide_eq_false hz
            have HV3 := hide (show k = V by have := HV2.out; rwa [gz, if_neg (by decide)] at this)
            have HE := hide (show ltV L E[a]! E[k]! = false by rw [← Hl.out]; exact gz)
            clear hz HV2
            go_still_tail 13, (by kernel_rfl)
            change wpList _ _ _ _ _ wr.drew
            generalize wr.drew = wd at *
            go_wp2_with (first | (go_at_fn 23; refine FC.out.mono ?_; rintro e w4 ⟨rfl, hv, hg⟩; have H4 := hide hv; clear hv hg FC))
            have hk := HV3.out
            have he := HE.out
            rw [hk] at he
            go_meet
            exact ⟨congrArg (fun z : Nat => Value.int .i64 (z : Int)) hk, hide ⟨hk ▸ Hkj.out.1, hk ▸ Hkj.out.2, fun _ => he⟩, H4⟩
        · have g1 : decide (U ≤ k) = false := decide_eq_false hik
          have Hk := hide (show k = V by rw [← HV.out]; exact (scan_dn_out hik).symm)
          have Hik := hide hik
          clear hik
          go_wp2
          go_quiet (fail)
          go_wp2
          have hk := Hk.out
          go_meet
          exact ⟨congrArg (fun z : Nat => Value.int .i64 (z : Int)) hk, hide ⟨hk ▸ Hkj.out.1, hk ▸ Hkj.out.2, fun h => (Hik.out (hk ▸ h)).elim⟩, hide (Hs.out.drewN nq)⟩
    clear Hs
    obtain ⟨rfl, HFV, Hs⟩ := hcut
    by_cases huv : V < U
    · have hst : (U, E) = R := by have := HR2.out; rwa [if_pos huv] at this
      subst hst
      clear HR2
      go_wp2
      go_ret
      exact ⟨rfl, Hs.out⟩
    · have hne : U ≠ V := fun h => by
        have h1 := HFU.out.2.2 (by have := HFV.out.1; omega)
        have h2 := HFV.out.2.2 (by omega)
        rw [h, h2] at h1
        cases h1
      have HR3 := hide (show Sort.partEqLoop (ltV L) a (U + 1) (V - 1) (Sort.swp E U V) = R by have := HR2.out; rwa [if_neg huv] at this)
      obtain ⟨i1, hi1⟩ : ∃ z, U + 1 = z := ⟨_, rfl⟩
      obtain ⟨j1, hj1⟩ : ∃ z, V = z + 1 := ⟨V - 1, by have := HFU.out; have := Hij.out; omega⟩
      rw [hi1, show V - 1 = j1 by omega] at HR3
      have k0 := Hij.out
      have k1 := HFU.out
      have k2 := HFV.out
      have k3 := HbN.out
      have r1 : (V : Int) - 1 = (j1 : Int) := by omega
      have r2 : (U : Int) + 1 = (i1 : Int) := by omega
      have q1 : i1 ≤ 1000 := by omega
      have q2 : j1 ≤ 1000 := by omega
      have Hn : Hid (a < i1 ∧ i1 ≤ j1 + 1 ∧ j1 < b) := hide (by omega)
      have Hms : Hid (j1 + 1 - i1 < j + 1 - i) := hide (by omega)
      have g1 : ¬ (V : Int) < (U : Int) := by omega
      have b1 : (U : Int) < (N : Int) := by omega
      have b0 : (V : Int) < (N : Int) := by omega
      have hUN : U < N := by omega
      have hVN : V < N := by omega
      have n2 : V ≠ U := fun h => hne h.symm
      have e1 : wrap64 ((V : Int) - 1) = (j1 : Int) := by rw [r1]; exact w6n q2
      have e2 : wrap64 ((U : Int) + 1) = (i1 : Int) := by rw [r2]; exact w6n q1
      have c1 := Vd.at Hs.out hUN
      have c0 := Vd.at Hs.out hVN
      have f1 := Vd.froz Hs.out U
      have f0 := Vd.froz Hs.out V
      have Hs2 := hide (show Vd L S q base g c N W0 (Sort.swp E U V) ((wc.setCell ⟨g, U, none⟩ (.int .i64 E[V]!)).setCell ⟨g, V, none⟩ (.int .i64 E[U]!)).drew from (Hs.out.swap hUN hVN).drew)
      generalize E[U]! = x at *
      generalize E[V]! = y at *
      clear r1 r2 q1 q2 hi1 hj1 hUN hVN k0 k1 k2 k3 huv HR2 HFV HFU Hs
      go_wp2
      go_region
      generalize ((wc.setCell ⟨g, U, none⟩ (.int .i64 y)).setCell ⟨g, V, none⟩ (.int .i64 x)).drew = w2 at *
      clear c1 c0 f1 f0 b1 b0
      go_wp2
      refine ⟨⟨i1, j1, _, congrArg _ e2, congrArg _ e1, Hn, HR3, Hs2⟩, ?_⟩
      rw [e1, e2]
      exact Hms.out
end
end Vc
end Go.Proofs.Ytabancgcokcfdaa
