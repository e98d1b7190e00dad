/-
  LAYER 22, SORTING BY A FUNCTION THAT KEEPS WHAT IT TOLD, walks: siftDownCmpFunc, heapSortCmpFunc.
-/
import Derived.Test.YtabancgcokcfdaaVcS
import Derived.Deep.RegionLaw
import Derived.StillTailTactics
import Derived.BigRegion
namespace Go.Proofs.Ytabancgcokcfdaa
open Go.RowKit
set_option maxRecDepth 8000
namespace Vc
theorem measB {r q hi : Nat} (h : r < q) (h2 : q < hi) : 1000 + hi - (RowKit.intOf (.int .i64 (q : Int))).toNat < 1000 + hi - (RowKit.intOf (.int .i64 (r : Int))).toNat := by
  show 1000 + hi - q < 1000 + hi - r
  omega
theorem measD (j : Nat) : (RowKit.intOf (.int .i64 ((j : Int) - 1)) + 1).toNat < (RowKit.intOf (.int .i64 (j : Int)) + 1).toNat := by
  simp only [RowKit.intOf]
  omega
section
variable {lt : Int → Int → Bool}
theorem sift_end (hi F r : Nat) (D : Array Int) (h : hi ≤ 2 * r + 1) : Sort.siftDown lt hi F r D = D := by rw [Sort.siftDown, dif_pos h]
theorem sift_two (hi F r : Nat) (D : Array Int) (h : 2 * r + 2 < hi) (hl : lt D[F + (2 * r + 1)]! D[F + (2 * r + 2)]! = true) :
    Sort.siftDown lt hi F r D = if lt D[F + r]! D[F + (2 * r + 2)]! = true then Sort.siftDown lt hi F (2 * r + 2) (Sort.swp D (F + r) (F + (2 * r + 2))) else D := by
  rw [Sort.siftDown, dif_neg (by omega), if_pos (by simp only [Bool.and_eq_true, decide_eq_true_eq]; exact ⟨by omega, hl⟩)]
  cases hq : lt D[F + r]! D[F + (2 * r + 2)]!
  · rw [if_pos (by rfl), if_neg (by decide)]
  · rw [if_neg (by decide), dif_pos (by omega), if_pos rfl]
theorem sift_one (hi F r : Nat) (D : Array Int) (h : 2 * r + 1 < hi) (hl : ¬ (2 * r + 2 < hi ∧ lt D[F + (2 * r + 1)]! D[F + (2 * r + 2)]! = true)) :
    Sort.siftDown lt hi F r D = if lt D[F + r]! D[F + (2 * r + 1)]! = true then Sort.siftDown lt hi F (2 * r + 1) (Sort.swp D (F + r) (F + (2 * r + 1))) else D := by
  rw [Sort.siftDown, dif_neg (by omega), if_neg (by
    simp only [Bool.and_eq_true, decide_eq_true_eq]
    exact fun h => hl ⟨by omega, h.2⟩)]
  cases hq : lt D[F + r]! D[F + (2 * r + 1)]!
  · rw [if_pos (by rfl), if_neg (by decide)]
  · rw [if_neg (by decide), if_pos rfl]
end
section
variable {L : List Pl2} {S : List Int} {q base g c N : Nat} {W0 : World}
set_option maxHeartbeats 8000000 in
theorem sift_cmp (hi F r0 : Nat) (D : Array Int) (w : World) (hs : Vd L S q base g c N W0 D w) (hF : F + hi ≤ N) (hN : N ≤ 1000) (hr0 : r0 ≤ 1000) :
    Calls Try.prog 43 #[.slice (some ⟨g, 0, none⟩) N c, .int .i64 (r0 : Int), .int .i64 (hi : Int), .int .i64 (F : Int), .func (.func 23) #[] #[.pointer (some ⟨q + 3, 0, none⟩)]] w fun e w' => e = .returned (.tuple #[]) ∧ Vd L S q base g c N W0 (Sort.siftDown (ltV L) hi F r0 D) w' := by
  have eg := egV
  have Hs := hide hs
  have HF := hide (And.intro hF hN)
  obtain ⟨R, hR⟩ : ∃ R, Sort.siftDown (ltV L) hi F r0 D = R := ⟨_, rfl⟩
  have HR := hide hR
  have H0 := hide hr0
  rw [hR]
  clear hs hF hN hR hr0
  go_enter Try.func43, Try.ntmps43
  go_wp2
  go_loopw [10, 11] (fun s _ wr => ∃ (r : Nat) (E : Array Int), r ≤ 1000 ∧ s = .int .i64 (r : Int) ∧ Hid (Sort.siftDown (ltV L) hi F r E = R) ∧ Hid (Vd L S q base g c N W0 E wr)) (fun s _ _ => 1000 + hi - (RowKit.intOf s).toNat)
  case atStart => exact ⟨r0, D, H0.out, rfl, HR, Hs⟩
  case round =>
    clear Hs HR H0
    obtain ⟨r, E, hr, rfl, HR, Hs⟩ := hrel
    obtain ⟨p, hp⟩ : ∃ p, 2 * r + 1 = p := ⟨_, rfl⟩
    obtain ⟨p2, hp2⟩ : ∃ p2, 2 * r + 2 = p2 := ⟨_, rfl⟩
    have k1 : 2 * (r : Int) + 1 = (p : Int) := by omega
    have k2 : (p : Int) + 1 = (p2 : Int) := by omega
    have k3 : 2 * (r : Int) = ((2 * r : Nat) : Int) := by omega
    have k4 : 2 * r ≤ 2000 := by omega
    have k5 : p ≤ 2001 := by omega
    have k6 : p2 ≤ 2002 := by omega
    have e1 : wrap64 (2 * (r : Int)) = 2 * (r : Int) := by rw [k3]; exact w6m (Nat.le_trans k4 (by decide))
    have e2 : wrap64 (2 * (r : Int) + 1) = (p : Int) := by rw [k1]; exact w6m (Nat.le_trans k5 (by decide))
    have e3 : wrap64 ((p : Int) + 1) = (p2 : Int) := by rw [k2]; exact w6m (Nat.le_trans k6 (by decide))
    have e3' : IntKind.i64.wrap ((p : Int) + 1) = (p2 : Int) := by rw [k2]; exact w6i (Nat.le_trans k6 (by decide))
    clear k1 k2 k3 k4 k5 k6
    by_cases hend : hi ≤ p
    · have g1 : decide ((hi : Int) ≤ (p : Int)) = true := decide_eq_true (Int.ofNat_le.2 hend)
      have hst : E = R := by rw [← HR.out]; exact (sift_end hi F r E (by rw [hp]; exact hend)).symm
      clear HR hp hp2 hr
      go_wp2
      go_end0
      exact ⟨rfl, by rw [← hst]; exact Hs.out⟩
    · have g1 : decide ((hi : Int) ≤ (p : Int)) = false := decide_eq_false (fun h => hend (Int.ofNat_le.1 h))
      have hrN : F + r < N := by clear e1 e2 e3 e3'; have := HF.out.1; omega
      have hqN : F + p < N := by clear e1 e2 e3 e3'; have := HF.out.1; omega
      obtain ⟨ar, har⟩ : ∃ ar, F + r = ar := ⟨_, rfl⟩
      obtain ⟨aq, haq⟩ : ∃ aq, F + p = aq := ⟨_, rfl⟩
      obtain ⟨aq2, haq2⟩ : ∃ aq2, F + p2 = aq2 := ⟨_, rfl⟩
      have hN := HF.out.2
      have l1 : ar ≤ 1000 := by clear e1 e2 e3 e3'; omega
      have l2 : aq ≤ 1000 := by clear e1 e2 e3 e3'; omega
      have l3 : aq2 ≤ 1001 := by clear e1 e2 e3 e3'; omega
      have k1 : (F : Int) + (r : Int) = (ar : Int) := by clear e1 e2 e3 e3'; omega
      have k2 : (F : Int) + (p : Int) = (aq : Int) := by clear e1 e2 e3 e3'; omega
      have k3 : (aq : Int) + 1 = (aq2 : Int) := by clear e1 e2 e3 e3'; omega
      have k4 : (F : Int) + (p2 : Int) = (aq2 : Int) := by clear e1 e2 e3 e3'; omega
      have br : (ar : Int) < (N : Int) := by clear e1 e2 e3 e3'; omega
      have bq : (aq : Int) < (N : Int) := by clear e1 e2 e3 e3'; omega
      have bq2' : p2 < hi → (aq2 : Int) < (N : Int) ∧ aq2 < N := by clear e1 e2 e3 e3'; have := HF.out.1; omega
      have er : wrap64 ((F : Int) + (r : Int)) = (ar : Int) := by rw [k1]; exact w6m (Nat.le_trans l1 (by decide))
      have er' : IntKind.i64.wrap ((F : Int) + (r : Int)) = (ar : Int) := by rw [k1]; exact w6i (Nat.le_trans l1 (by decide))
      have eq1 : wrap64 ((F : Int) + (p : Int)) = (aq : Int) := by rw [k2]; exact w6m (Nat.le_trans l2 (by decide))
      have eq1' : IntKind.i64.wrap ((F : Int) + (p : Int)) = (aq : Int) := by rw [k2]; exact w6i (Nat.le_trans l2 (by decide))
      have eq2 : wrap64 ((aq : Int) + 1) = (aq2 : Int) := by rw [k3]; exact w6m (Nat.le_trans l3 (by decide))
      have eq2' : IntKind.i64.wrap ((aq : Int) + 1) = (aq2 : Int) := by rw [k3]; exact w6i (Nat.le_trans l3 (by decide))
      have eq3 : wrap64 ((F : Int) + (p2 : Int)) = (aq2 : Int) := by rw [k4]; exact w6m (Nat.le_trans l3 (by decide))
      have eq3' : IntKind.i64.wrap ((F : Int) + (p2 : Int)) = (aq2 : Int) := by rw [k4]; exact w6i (Nat.le_trans l3 (by decide))
      have HB2 := hide bq2'
      clear k1 k2 k3 k4 l1 l2 l3 bq2'
      rw [har] at hrN
      rw [haq] at hqN
      have Hr := hide hr
      have Hp := hide hp
      have Hp2 := hide hp2
      have Hend := hide hend
      have Har := hide har
      have Haq := hide haq
      have Haq2 := hide haq2
      obtain ⟨x, hx⟩ : ∃ x, Hid (E[ar]! = x) := ⟨_, hide rfl⟩
      obtain ⟨y, hy⟩ : ∃ y, Hid (E[aq]! = y) := ⟨_, hide rfl⟩
      by_cases hg : p2 < hi
      · have hq2N : aq2 < N := (HB2.out hg).2
        have g2 : decide ((p2 : Int) < (hi : Int)) = true := decide_eq_true (Int.ofNat_lt.2 hg)
        have g2' : decide (p2 < hi) = true := decide_eq_true hg
        have bq2 : (aq2 : Int) < (N : Int) := (HB2.out hg).1
        obtain ⟨z, hz⟩ : ∃ z, Hid (E[aq2]! = z) := ⟨_, hide rfl⟩
        have cq := Hs.out.drew.at hqN
        have cq2 := Hs.out.drew.at hq2N
        have fc := Hs.out.drew.cmp (Hs.out.mem aq hqN) (Hs.out.mem aq2 hq2N)
        rw [hy.out] at cq fc
        rw [hz.out] at cq2 fc
        have hl := cf_lt L y z
        obtain ⟨zc, hzc⟩ : ∃ zc, cfV L y z = zc := ⟨_, rfl⟩
        rw [hzc] at fc hl
        have FC := hide fc
        have Hg := hide hg
        clear hr hp hp2 hend har haq haq2 hN hg fc hzc
        go_wp2
        by_cases hzn : zc < 0
        · have gz : decide (zc < 0) = true := decide_eq_true hzn
          have hlt : ltV L y z = true := by rw [← hl]; exact gz
          have HS := hide (show (if ltV L x z = true then Sort.siftDown (ltV L) hi F p2 (Sort.swp E ar aq2) else E) = R by
            rw [← HR.out, sift_two hi F r E (by rw [Hp2.out]; exact Hg.out) (by rw [Hp.out, Hp2.out, Haq.out, Haq2.out, hy.out, hz.out]; exact hlt), Hp2.out, Har.out, Haq2.out, hx.out, hz.out])
          clear hzn hl hlt
          go_still_tail 19, (by kernel_rfl)
          change wpList _ _ _ _ _ wr.drew
          generalize wr.drew = wd at *
          go_wp2_with (first | (go_at_fn 23; refine FC.out.mono ?_; rintro e wr1 ⟨rfl, hv, hg⟩; have Hs1 := hide hv; clear hv hg FC))
          clear gz
          have fd := Hs1.out.drew.cmp (Hs1.out.mem ar hrN) (Hs1.out.mem aq2 hq2N)
          have c1 := Hs1.out.drew.at hrN
          have c2 := Hs1.out.drew.at hq2N
          have HSW := hide (Hs1.out.env)
          rw [hx.out] at c1 fd
          rw [hz.out] at c2 fd
          have hl2 := cf_lt L x z
          obtain ⟨zz, hzz⟩ : ∃ zz, cfV L x z = zz := ⟨_, rfl⟩
          rw [hzz] at fd hl2
          have FD := hide fd
          clear fd hzz
          go_wp2
          by_cases hz2 : zz < 0
          · have gz : decide (zz < 0) = true := decide_eq_true hz2
            have HS2 := hide (show Sort.siftDown (ltV L) hi F p2 (Sort.swp E ar aq2) = R by have := HS.out; rwa [← hl2, gz, if_pos rfl] at this)
            clear hz2 hl2 HS
            go_still_tail 13, (by kernel_rfl)
            change wpList _ _ _ _ _ wr1.drew
            generalize wr1.drew = wd at *
            go_wp2_with (first | (go_at_fn 23; refine FD.out.mono ?_; rintro e w5 ⟨rfl, hv, hg⟩; have Hs2 := hide hv; clear hv hg FD))
            have n1 : ar ≠ aq2 := by clear e1 e2 e3 e3' er er' eq1 eq1' eq2 eq2' eq3 eq3'; have := Har.out; have := Haq2.out; have := Hp.out; have := Hp2.out; omega
            have n2 : aq2 ≠ ar := fun h => n1 h.symm
            have c1 := Hs2.out.at hrN
            have c2 := Hs2.out.at hq2N
            have f1 := Hs2.out.froz ar
            have f2 := Hs2.out.froz aq2
            have Hs3 := hide ((Hs2.out.swap hrN hq2N).drew)
            rw [hx.out] at c1
            rw [hz.out] at c2
            rw [hx.out, hz.out] at Hs3
            have Hm := hide (show p2 ≤ 1000 ∧ r < p2 ∧ p2 < hi by clear e1 e2 e3 e3' er er' eq1 eq1' eq2 eq2' eq3 eq3'; have := Hg.out; have := Hend.out; have := Hp.out; have := Hp2.out; have := HF.out; have := Haq2.out; have := hq2N; exact ⟨by omega, by omega, by omega⟩)
            clear e1 e3 e3' eq2 eq2' g1 g2 g2' eq1 eq1'
            go_wp2
            go_region
            go_wp2
            refine ⟨⟨p2, _, Hm.out.1, by first | rfl | exact congrArg _ e2, HS2, Hs3⟩, ?_⟩
            first | exact measB Hm.out.2.1 Hm.out.2.2 | (rw [e2]; exact measB Hm.out.2.1 Hm.out.2.2)
          · have gz : decide (zz < 0) = false := decide_eq_false hz2
            have hst : E = R := by have := HS.out; rwa [← hl2, gz, if_neg (by decide)] at this
            clear hz2 hl2 HS
            go_still_tail 13, (by kernel_rfl)
            change wpList _ _ _ _ _ wr1.drew
            generalize wr1.drew = wd at *
            go_wp2_with (first | (go_at_fn 23; refine FD.out.mono ?_; rintro e w5 ⟨rfl, hv, hg⟩; have Hs2 := hide hv; clear hv hg FD))
            (try simp only [Exit.inBlock, Exit.then])
            refine bodyPost_ret (results_none rfl _ _ _) rfl ?_
            exact ⟨rfl, by rw [← hst]; exact Hs2.out⟩
        · have gz : decide (zc < 0) = false := decide_eq_false hzn
          have hlt : ltV L y z = false := by rw [← hl]; exact gz
          have HS := hide (show (if ltV L x y = true then Sort.siftDown (ltV L) hi F p (Sort.swp E ar aq) else E) = R by
            rw [← HR.out, sift_one hi F r E (by rw [Hp.out]; exact Nat.lt_of_not_le Hend.out) (by rw [Hp.out, Hp2.out, Haq.out, Haq2.out, hy.out, hz.out, hlt]; exact fun h => absurd h.2 (by decide)), Hp.out, Har.out, Haq.out, hx.out, hy.out])
          clear hzn hl hlt
          go_still_tail 19, (by kernel_rfl)
          change wpList _ _ _ _ _ wr.drew
          generalize wr.drew = wd at *
          go_wp2_with (first | (go_at_fn 23; refine FC.out.mono ?_; rintro e wr1 ⟨rfl, hv, hg⟩; have Hs1 := hide hv; clear hv hg FC))
          clear gz
          have fd := Hs1.out.drew.cmp (Hs1.out.mem ar hrN) (Hs1.out.mem aq hqN)
          have c1 := Hs1.out.drew.at hrN
          have c2 := Hs1.out.drew.at hqN
          have HSW := hide (Hs1.out.env)
          rw [hx.out] at c1 fd
          rw [hy.out] at c2 fd
          have hl2 := cf_lt L x y
          obtain ⟨zz, hzz⟩ : ∃ zz, cfV L x y = zz := ⟨_, rfl⟩
          rw [hzz] at fd hl2
          have FD := hide fd
          clear fd hzz
          go_wp2
          by_cases hz2 : zz < 0
          · have gz : decide (zz < 0) = true := decide_eq_true hz2
            have HS2 := hide (show Sort.siftDown (ltV L) hi F p (Sort.swp E ar aq) = R by have := HS.out; rwa [← hl2, gz, if_pos rfl] at this)
            clear hz2 hl2 HS
            go_still_tail 13, (by kernel_rfl)
            change wpList _ _ _ _ _ wr1.drew
            generalize wr1.drew = wd at *
            go_wp2_with (first | (go_at_fn 23; refine FD.out.mono ?_; rintro e w5 ⟨rfl, hv, hg⟩; have Hs2 := hide hv; clear hv hg FD))
            have n1 : ar ≠ aq := by clear e1 e2 e3 e3' er er' eq1 eq1' eq2 eq2' eq3 eq3'; have := Har.out; have := Haq.out; have := Hp.out; have := Hp2.out; omega
            have n2 : aq ≠ ar := fun h => n1 h.symm
            have c1 := Hs2.out.at hrN
            have c2 := Hs2.out.at hqN
            have f1 := Hs2.out.froz ar
            have f2 := Hs2.out.froz aq
            have Hs3 := hide ((Hs2.out.swap hrN hqN).drew)
            rw [hx.out] at c1
            rw [hy.out] at c2
            rw [hx.out, hy.out] at Hs3
            have Hm := hide (show p ≤ 1000 ∧ r < p ∧ p < hi by clear e1 e2 e3 e3' er er' eq1 eq1' eq2 eq2' eq3 eq3'; have := Hend.out; have := Hp.out; have := Hp2.out; have := HF.out; have := Haq.out; have := hqN; exact ⟨by omega, by omega, by omega⟩)
            clear e1 e3 e3' eq2 eq2' g1 g2 g2' eq3 eq3'
            go_wp2
            go_region
            go_wp2
            refine ⟨⟨p, _, Hm.out.1, by first | rfl | exact congrArg _ e2, HS2, Hs3⟩, ?_⟩
            first | exact measB Hm.out.2.1 Hm.out.2.2 | (rw [e2]; exact measB Hm.out.2.1 Hm.out.2.2)
          · have gz : decide (zz < 0) = false := decide_eq_false hz2
            have hst : E = R := by have := HS.out; rwa [← hl2, gz, if_neg (by decide)] at this
            clear hz2 hl2 HS
            go_still_tail 13, (by kernel_rfl)
            change wpList _ _ _ _ _ wr1.drew
            generalize wr1.drew = wd at *
            go_wp2_with (first | (go_at_fn 23; refine FD.out.mono ?_; rintro e w5 ⟨rfl, hv, hg⟩; have Hs2 := hide hv; clear hv hg FD))
            (try simp only [Exit.inBlock, Exit.then])
            refine bodyPost_ret (results_none rfl _ _ _) rfl ?_
            exact ⟨rfl, by rw [← hst]; exact Hs2.out⟩
      · have g2 : decide ((p2 : Int) < (hi : Int)) = false := decide_eq_false (fun h => hg (Int.ofNat_lt.1 h))
        have g2' : decide (p2 < hi) = false := decide_eq_false hg
        have HS := hide (show (if ltV L x y = true then Sort.siftDown (ltV L) hi F p (Sort.swp E ar aq) else E) = R by
          rw [← HR.out, sift_one hi F r E (by rw [Hp.out]; exact Nat.lt_of_not_le Hend.out) (by rw [Hp2.out]; exact fun h => hg h.1), Hp.out, Har.out, Haq.out, hx.out, hy.out])
        clear hr hp hp2 hend har haq haq2 hN hg
        go_wp2
        go_quiet (fail)
        have gz := g2
        have Hs1 := hide (Vd.drewN Hs.out nq)
        generalize wr.drewN nq = wr1 at *
        clear gz
        have fd := Hs1.out.drew.cmp (Hs1.out.mem ar hrN) (Hs1.out.mem aq hqN)
        have c1 := Hs1.out.drew.at hrN
        have c2 := Hs1.out.drew.at hqN
        have HSW := hide (Hs1.out.env)
        rw [hx.out] at c1 fd
        rw [hy.out] at c2 fd
        have hl2 := cf_lt L x y
        obtain ⟨zz, hzz⟩ : ∃ zz, cfV L x y = zz := ⟨_, rfl⟩
        rw [hzz] at fd hl2
        have FD := hide fd
        clear fd hzz
        go_wp2
        by_cases hz2 : zz < 0
        · have gz : decide (zz < 0) = true := decide_eq_true hz2
          have HS2 := hide (show Sort.siftDown (ltV L) hi F p (Sort.swp E ar aq) = R by have := HS.out; rwa [← hl2, gz, if_pos rfl] at this)
          clear hz2 hl2 HS
          go_still_tail 13, (by kernel_rfl)
          change wpList _ _ _ _ _ wr1.drew
          generalize wr1.drew = wd at *
          go_wp2_with (first | (go_at_fn 23; refine FD.out.mono ?_; rintro e w5 ⟨rfl, hv, hg⟩; have Hs2 := hide hv; clear hv hg FD))
          have n1 : ar ≠ aq := by clear e1 e2 e3 e3' er er' eq1 eq1' eq2 eq2' eq3 eq3'; have := Har.out; have := Haq.out; have := Hp.out; have := Hp2.out; omega
          have n2 : aq ≠ ar := fun h => n1 h.symm
          have c1 := Hs2.out.at hrN
          have c2 := Hs2.out.at hqN
          have f1 := Hs2.out.froz ar
          have f2 := Hs2.out.froz aq
          have Hs3 := hide ((Hs2.out.swap hrN hqN).drew)
          rw [hx.out] at c1
          rw [hy.out] at c2
          rw [hx.out, hy.out] at Hs3
          have Hm := hide (show p ≤ 1000 ∧ r < p ∧ p < hi by clear e1 e2 e3 e3' er er' eq1 eq1' eq2 eq2' eq3 eq3'; have := Hend.out; have := Hp.out; have := Hp2.out; have := HF.out; have := Haq.out; have := hqN; exact ⟨by omega, by omega, by omega⟩)
          clear e1 e3 e3' eq2 eq2' g1 g2 g2' eq3 eq3'
          go_wp2
          go_region
          go_wp2
          refine ⟨⟨p, _, Hm.out.1, by first | rfl | exact congrArg _ e2, HS2, Hs3⟩, ?_⟩
          first | exact measB Hm.out.2.1 Hm.out.2.2 | (rw [e2]; exact measB Hm.out.2.1 Hm.out.2.2)
        · have gz : decide (zz < 0) = false := decide_eq_false hz2
          have hst : E = R := by have := HS.out; rwa [← hl2, gz, if_neg (by decide)] at this
          clear hz2 hl2 HS
          go_still_tail 13, (by kernel_rfl)
          change wpList _ _ _ _ _ wr1.drew
          generalize wr1.drew = wd at *
          go_wp2_with (first | (go_at_fn 23; refine FD.out.mono ?_; rintro e w5 ⟨rfl, hv, hg⟩; have Hs2 := hide hv; clear hv hg FD))
          (try simp only [Exit.inBlock, Exit.then])
          refine bodyPost_ret (results_none rfl _ _ _) rfl ?_
          exact ⟨rfl, by rw [← hst]; exact Hs2.out⟩
end
end Vc
end Go.Proofs.Ytabancgcokcfdaa
