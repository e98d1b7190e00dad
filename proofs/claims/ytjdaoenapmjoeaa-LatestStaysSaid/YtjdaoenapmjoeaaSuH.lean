/-
  SORTING at uint64, walks: siftDownOrdered.
-/
import Derived.Test.YtjdaoenapmjoeaaSuB
namespace Go.Proofs.Ytjdaoenapmjoeaa
open Go.RowKit
set_option maxRecDepth 8000
namespace So
section
variable {base g c N : Nat} {W0 : World}
theorem w6m {x : Nat} (h : x ≤ 100000) : wrap64 (x : Int) = (x : Int) := by unfold wrap64; omega
theorem w6i {x : Nat} (h : x ≤ 100000) : IntKind.i64.wrap (x : Int) = (x : Int) := IntWalk.i64_in _ (by omega)
theorem measB {r q hi : Nat} (h : r < q) (h2 : q < hi) : 1000 + hi - (intOf (.int .i64 (q : Int))).toNat < 1000 + hi - (intOf (.int .i64 (r : Int))).toNat := by
  show 1000 + hi - q < 1000 + hi - r
  omega
theorem measD (j : Nat) : (intOf (.int .i64 ((j : Int) - 1)) + 1).toNat < (intOf (.int .i64 (j : Int)) + 1).toNat := by
  simp only [intOf]
  omega
theorem sift_end (hi F r : Nat) (D : Array Int) (h : hi ≤ 2 * r + 1) : Sort.siftDown ltZ hi F r D = D := by rw [Sort.siftDown, dif_pos h]
theorem sift_two (hi F r : Nat) (D : Array Int) (h : 2 * r + 2 < hi) (hl : D[F + (2 * r + 1)]! < D[F + (2 * r + 2)]!) :
    Sort.siftDown ltZ hi F r D = if decide (D[F + r]! < D[F + (2 * r + 2)]!) = true then Sort.siftDown ltZ hi F (2 * r + 2) (Sort.swp D (F + r) (F + (2 * r + 2))) else D := by
  rw [Sort.siftDown, dif_neg (by omega), if_pos (by simp only [Bool.and_eq_true, decide_eq_true_eq]; exact ⟨by omega, hl⟩)]
  cases hq : decide (D[F + r]! < D[F + (2 * r + 2)]!)
  · rw [if_pos (by show (!ltZ _ _) = true; simp only [ltZ]; rw [hq]; rfl), if_neg (by decide)]
  · rw [if_neg (by show ¬ (!ltZ _ _) = true; simp only [ltZ]; rw [hq]; decide), dif_pos (by omega), if_pos rfl]
theorem sift_one (hi F r : Nat) (D : Array Int) (h : 2 * r + 1 < hi) (hl : ¬ (2 * r + 2 < hi ∧ D[F + (2 * r + 1)]! < D[F + (2 * r + 2)]!)) :
    Sort.siftDown ltZ hi F r D = if decide (D[F + r]! < D[F + (2 * r + 1)]!) = true then Sort.siftDown ltZ hi F (2 * r + 1) (Sort.swp D (F + r) (F + (2 * r + 1))) else D := by
  rw [Sort.siftDown, dif_neg (by omega), if_neg (by
    simp only [Bool.and_eq_true, decide_eq_true_eq]
    exact fun h => hl ⟨by omega, h.2⟩)]
  cases hq : decide (D[F + r]! < D[F + (2 * r + 1)]!)
  · rw [if_pos (by show (!ltZ _ _) = true; simp only [ltZ]; rw [hq]; rfl), if_neg (by decide)]
  · rw [if_neg (by show ¬ (!ltZ _ _) = true; simp only [ltZ]; rw [hq]; decide), if_pos rfl]
set_option maxHeartbeats 4000000 in
theorem sift_u64 (hi F r0 : Nat) (D : Array Int) (w : World) (hs : Sa base g c N W0 D w) (hF : F + hi ≤ N) (hN : N ≤ 1000) (hr0 : r0 ≤ 1000) (lo : Value) :
    Calls Try.prog 69 #[.slice (some ⟨g, 0, none⟩) N c, .int .i64 (r0 : Int), .int .i64 (hi : Int), .int .i64 (F : Int)] w fun e w' => e = .returned (.tuple #[]) ∧ Sa base g c N W0 (Sort.siftDown ltZ hi F r0 D) w' := by
  have FL := hide (fun x y W => less_u64 x y W)
  have Hs := hide hs
  have HF := hide (And.intro hF hN)
  obtain ⟨R, hR⟩ : ∃ R, Sort.siftDown ltZ hi F r0 D = R := ⟨_, rfl⟩
  have HR := hide hR
  have H0 := hide hr0
  rw [hR]
  clear hs hF hN hR hr0 lo
  go_enter Try.func69, Try.ntmps69
  go_wp2
  go_loopw [8, 9] (fun s _ wr => ∃ (r : Nat) (E : Array Int), r ≤ 1000 ∧ s = .int .i64 (r : Int) ∧ Hid (Sort.siftDown ltZ hi F r E = R) ∧ Hid (Sa base g c N W0 E wr)) (fun s _ _ => 1000 + hi - (intOf s).toNat)
  case atStart => exact ⟨r0, D, H0.out, rfl, HR, Hs⟩
  case round =>
    clear Hs HR H0
    obtain ⟨r, E, hr, rfl, HR, Hs⟩ := hrel
    obtain ⟨q, hq⟩ : ∃ q, 2 * r + 1 = q := ⟨_, rfl⟩
    obtain ⟨q2, hq2⟩ : ∃ q2, 2 * r + 2 = q2 := ⟨_, rfl⟩
    have k1 : 2 * (r : Int) + 1 = (q : Int) := by omega
    have k2 : (q : Int) + 1 = (q2 : Int) := by omega
    have k3 : 2 * (r : Int) = ((2 * r : Nat) : Int) := by omega
    have k4 : 2 * r ≤ 2000 := by omega
    have k5 : q ≤ 2001 := by omega
    have k6 : q2 ≤ 2002 := by omega
    have e1 : wrap64 (2 * (r : Int)) = 2 * (r : Int) := by rw [k3]; exact w6m (Nat.le_trans k4 (by decide))
    have e2 : wrap64 (2 * (r : Int) + 1) = (q : Int) := by rw [k1]; exact w6m (Nat.le_trans k5 (by decide))
    have e3 : wrap64 ((q : Int) + 1) = (q2 : Int) := by rw [k2]; exact w6m (Nat.le_trans k6 (by decide))
    have e3' : IntKind.i64.wrap ((q : Int) + 1) = (q2 : Int) := by rw [k2]; exact w6i (Nat.le_trans k6 (by decide))
    clear k1 k2 k3 k4 k5 k6
    by_cases hend : hi ≤ q
    · have g1 : decide ((hi : Int) ≤ (q : Int)) = true := decide_eq_true (Int.ofNat_le.2 hend)
      have hst : E = R := by rw [← HR.out]; exact (sift_end hi F r E (by rw [hq]; exact hend)).symm
      clear HR hq hq2 hr
      go_wp2
      go_end0
      exact ⟨rfl, by rw [← hst]; exact Hs.out⟩
    · have g1 : decide ((hi : Int) ≤ (q : Int)) = false := decide_eq_false (fun h => hend (Int.ofNat_le.1 h))
      have hrN : F + r < N := by clear e1 e2 e3 e3'; have := HF.out.1; omega
      have hqN : F + q < N := by clear e1 e2 e3 e3'; have := HF.out.1; omega
      obtain ⟨ar, har⟩ : ∃ ar, F + r = ar := ⟨_, rfl⟩
      obtain ⟨aq, haq⟩ : ∃ aq, F + q = aq := ⟨_, rfl⟩
      obtain ⟨aq2, haq2⟩ : ∃ aq2, F + q2 = aq2 := ⟨_, rfl⟩
      have hN := HF.out.2
      have l1 : ar ≤ 1000 := by clear e1 e2 e3 e3'; omega
      have l2 : aq ≤ 1000 := by clear e1 e2 e3 e3'; omega
      have l3 : aq2 ≤ 1001 := by clear e1 e2 e3 e3'; omega
      have k1 : (F : Int) + (r : Int) = (ar : Int) := by clear e1 e2 e3 e3'; omega
      have k2 : (F : Int) + (q : Int) = (aq : Int) := by clear e1 e2 e3 e3'; omega
      have k3 : (aq : Int) + 1 = (aq2 : Int) := by clear e1 e2 e3 e3'; omega
      have k4 : (F : Int) + (q2 : Int) = (aq2 : Int) := by clear e1 e2 e3 e3'; omega
      have br : (ar : Int) < (N : Int) := by clear e1 e2 e3 e3'; omega
      have bq : (aq : Int) < (N : Int) := by clear e1 e2 e3 e3'; omega
      have bq2' : q2 < hi → (aq2 : Int) < (N : Int) ∧ aq2 < N := by clear e1 e2 e3 e3'; have := HF.out.1; omega
      have er : wrap64 ((F : Int) + (r : Int)) = (ar : Int) := by rw [k1]; exact w6m (Nat.le_trans l1 (by decide))
      have er' : IntKind.i64.wrap ((F : Int) + (r : Int)) = (ar : Int) := by rw [k1]; exact w6i (Nat.le_trans l1 (by decide))
      have eq1 : wrap64 ((F : Int) + (q : Int)) = (aq : Int) := by rw [k2]; exact w6m (Nat.le_trans l2 (by decide))
      have eq1' : IntKind.i64.wrap ((F : Int) + (q : Int)) = (aq : Int) := by rw [k2]; exact w6i (Nat.le_trans l2 (by decide))
      have eq2 : wrap64 ((aq : Int) + 1) = (aq2 : Int) := by rw [k3]; exact w6m (Nat.le_trans l3 (by decide))
      have eq2' : IntKind.i64.wrap ((aq : Int) + 1) = (aq2 : Int) := by rw [k3]; exact w6i (Nat.le_trans l3 (by decide))
      have eq3 : wrap64 ((F : Int) + (q2 : Int)) = (aq2 : Int) := by rw [k4]; exact w6m (Nat.le_trans l3 (by decide))
      have eq3' : IntKind.i64.wrap ((F : Int) + (q2 : Int)) = (aq2 : Int) := by rw [k4]; exact w6i (Nat.le_trans l3 (by decide))
      have HB2 := hide bq2'
      clear k1 k2 k3 k4 l1 l2 l3 bq2'
      rw [har] at hrN
      rw [haq] at hqN
      have cr := Sa.at Hs.out hrN
      have cq := Sa.at Hs.out hqN
      have Hr := hide hr
      have Hq := hide hq
      have Hq2 := hide hq2
      have Hend := hide hend
      have Har := hide har
      have Haq := hide haq
      have Haq2 := hide haq2
      obtain ⟨x, hx⟩ : ∃ x, Hid (E[ar]! = x) := ⟨_, hide rfl⟩
      obtain ⟨y, hy⟩ : ∃ y, Hid (E[aq]! = y) := ⟨_, hide rfl⟩
      rw [hx.out] at cr
      rw [hy.out] at cq
      by_cases hg : q2 < hi
      · have hq2N : aq2 < N := (HB2.out hg).2
        have g2 : decide ((q2 : Int) < (hi : Int)) = true := decide_eq_true (Int.ofNat_lt.2 hg)
        have g2' : decide (q2 < hi) = true := decide_eq_true hg
        have bq2 : (aq2 : Int) < (N : Int) := (HB2.out hg).1
        have cq2 := Sa.at Hs.out hq2N
        obtain ⟨z, hz⟩ : ∃ z, Hid (E[aq2]! = z) := ⟨_, hide rfl⟩
        rw [hz.out] at cq2
        have L1 := FL.out y z
        have Hg := hide hg
        clear hr hq hq2 hend har haq haq2 hN hg
        go_wp2
        by_cases hl : y < z
        · have HS := hide (show (if decide (x < z) = true then Sort.siftDown ltZ hi F q2 (Sort.swp E ar aq2) else E) = R by
            rw [← HR.out, sift_two hi F r E (by rw [Hq2.out]; exact Hg.out) (by rw [Hq.out, Hq2.out, Haq.out, Haq2.out, hy.out, hz.out]; exact hl), Hq2.out, Har.out, Haq2.out, hx.out, hz.out])
          rw [decide_eq_true hl] at L1
          go_quiet (first | (go_at_call 51; (with_reducible refine (L1 _).mono ?_); rintro e w' ⟨rfl, rfl⟩; exact ⟨rfl, _, rfl⟩))
          clear L1 hl
          have L2 := FL.out x z
          have Hs1 := hide (Sa.drewN Hs.out nq)
          generalize wr.drewN nq = wr1 at *
          have c1 := Sa.at Hs1.out hrN
          have c2 := Sa.at Hs1.out hq2N
          rw [hx.out] at c1
          rw [hz.out] at c2
          go_wp2
          by_cases hl2 : x < z
          · rw [decide_eq_true hl2] at L2
            have HS2 := hide (show Sort.siftDown ltZ hi F q2 (Sort.swp E ar aq2) = R by have := HS.out; rwa [decide_eq_true hl2, if_pos rfl] at this)
            go_quiet (first | (go_at_call 51; (with_reducible refine (L2 _).mono ?_); rintro e w' ⟨rfl, rfl⟩; exact ⟨rfl, _, rfl⟩))
            have n1 : ar ≠ aq2 := by clear e1 e2 e3 e3' er er' eq1 eq1' eq2 eq2' eq3 eq3'; have := Har.out; have := Haq2.out; have := Hq.out; have := Hq2.out; omega
            have n2 : aq2 ≠ ar := fun h => n1 h.symm
            have Hs2 := hide (Sa.drewN Hs1.out nq)
            have c1 := Sa.at Hs2.out hrN
            have c2 := Sa.at Hs2.out hq2N
            have f1 := Sa.froz Hs1.out ar
            have f2 := Sa.froz Hs1.out aq2
            have Hs3 := hide (Sa.drewN (Sa.swap Hs2.out ar aq2) 1)
            rw [hx.out] at c1
            rw [hz.out] at c2
            rw [hx.out, hz.out] at Hs3
            have Hm := hide (show q2 ≤ 1000 ∧ r < q2 ∧ q2 < hi by clear e1 e2 e3 e3' er er' eq1 eq1' eq2 eq2' eq3 eq3'; have := Hg.out; have := Hq.out; have := Hq2.out; have := HF.out; have := Haq2.out; have := hq2N; exact ⟨by omega, by omega, by omega⟩)
            clear e1 e3 e3' eq2 eq2' g1 g2 g2' L2 hl2 eq1 eq1'
            go_wp2
            go_region
            go_wp2
            refine ⟨⟨q2, _, Hm.out.1, by first | rfl | exact congrArg _ e2, HS2, hide Hs3.out⟩, ?_⟩
            first | exact measB Hm.out.2.1 Hm.out.2.2 | (rw [e2]; exact measB Hm.out.2.1 Hm.out.2.2)
          · rw [decide_eq_false hl2] at L2
            have hst : E = R := by have := HS.out; rwa [decide_eq_false hl2, if_neg (by decide)] at this
            go_quiet (first | (go_at_call 51; (with_reducible refine (L2 _).mono ?_); rintro e w' ⟨rfl, rfl⟩; exact ⟨rfl, _, rfl⟩))
            go_wp2
            (try simp only [Exit.inBlock, Exit.then])
            refine bodyPost_ret (results_none rfl _ _ _) rfl ?_
            exact ⟨rfl, by rw [← hst]; exact Sa.drewN Hs1.out _⟩
        · have HS := hide (show (if decide (x < y) = true then Sort.siftDown ltZ hi F q (Sort.swp E ar aq) else E) = R by
            rw [← HR.out, sift_one hi F r E (by rw [Hq.out]; exact Nat.lt_of_not_le Hend.out) (by rw [Hq.out, Hq2.out, Haq.out, Haq2.out, hy.out, hz.out]; exact fun h => hl h.2), Hq.out, Har.out, Haq.out, hx.out, hy.out])
          rw [decide_eq_false hl] at L1
          go_quiet (first | (go_at_call 51; (with_reducible refine (L1 _).mono ?_); rintro e w' ⟨rfl, rfl⟩; exact ⟨rfl, _, rfl⟩))
          clear L1 hl
          have L2 := FL.out x y
          have Hs1 := hide (Sa.drewN Hs.out nq)
          generalize wr.drewN nq = wr1 at *
          have c1 := Sa.at Hs1.out hrN
          have c2 := Sa.at Hs1.out hqN
          rw [hx.out] at c1
          rw [hy.out] at c2
          go_wp2
          by_cases hl2 : x < y
          · rw [decide_eq_true hl2] at L2
            have HS2 := hide (show Sort.siftDown ltZ hi F q (Sort.swp E ar aq) = R by have := HS.out; rwa [decide_eq_true hl2, if_pos rfl] at this)
            go_quiet (first | (go_at_call 51; (with_reducible refine (L2 _).mono ?_); rintro e w' ⟨rfl, rfl⟩; exact ⟨rfl, _, rfl⟩))
            have n1 : ar ≠ aq := by clear e1 e2 e3 e3' er er' eq1 eq1' eq2 eq2' eq3 eq3'; have := Har.out; have := Haq.out; have := Hq.out; have := Hq2.out; omega
            have n2 : aq ≠ ar := fun h => n1 h.symm
            have Hs2 := hide (Sa.drewN Hs1.out nq)
            have c1 := Sa.at Hs2.out hrN
            have c2 := Sa.at Hs2.out hqN
            have f1 := Sa.froz Hs1.out ar
            have f2 := Sa.froz Hs1.out aq
            have Hs3 := hide (Sa.drewN (Sa.swap Hs2.out ar aq) 1)
            rw [hx.out] at c1
            rw [hy.out] at c2
            rw [hx.out, hy.out] at Hs3
            have Hm := hide (show q ≤ 1000 ∧ r < q ∧ q < hi by clear e1 e2 e3 e3' er er' eq1 eq1' eq2 eq2' eq3 eq3'; have := Hend.out; have := Hq.out; have := Hq2.out; have := HF.out; have := Haq.out; have := hqN; exact ⟨by omega, by omega, by omega⟩)
            clear e1 e3 e3' eq2 eq2' g1 g2 g2' L2 hl2 eq3 eq3'
            go_wp2
            go_region
            go_wp2
            refine ⟨⟨q, _, Hm.out.1, by first | rfl | exact congrArg _ e2, HS2, hide Hs3.out⟩, ?_⟩
            first | exact measB Hm.out.2.1 Hm.out.2.2 | (rw [e2]; exact measB Hm.out.2.1 Hm.out.2.2)
          · rw [decide_eq_false hl2] at L2
            have hst : E = R := by have := HS.out; rwa [decide_eq_false hl2, if_neg (by decide)] at this
            go_quiet (first | (go_at_call 51; (with_reducible refine (L2 _).mono ?_); rintro e w' ⟨rfl, rfl⟩; exact ⟨rfl, _, rfl⟩))
            go_wp2
            (try simp only [Exit.inBlock, Exit.then])
            refine bodyPost_ret (results_none rfl _ _ _) rfl ?_
            exact ⟨rfl, by rw [← hst]; exact Sa.drewN Hs1.out _⟩
      · have g2 : decide ((q2 : Int) < (hi : Int)) = false := decide_eq_false (fun h => hg (Int.ofNat_lt.1 h))
        have g2' : decide (q2 < hi) = false := decide_eq_false hg
        have HS := hide (show (if decide (x < y) = true then Sort.siftDown ltZ hi F q (Sort.swp E ar aq) else E) = R by
          rw [← HR.out, sift_one hi F r E (by rw [Hq.out]; exact Nat.lt_of_not_le Hend.out) (by rw [Hq2.out]; exact fun h => hg h.1), Hq.out, Har.out, Haq.out, hx.out, hy.out])
        clear hr hq hq2 hend har haq haq2 hN hg
        go_wp2
        go_quiet (fail)
        have L2 := FL.out x y
        have Hs1 := hide (Sa.drewN Hs.out nq)
        generalize wr.drewN nq = wr1 at *
        have c1 := Sa.at Hs1.out hrN
        have c2 := Sa.at Hs1.out hqN
        rw [hx.out] at c1
        rw [hy.out] at c2
        go_wp2
        by_cases hl2 : x < y
        · rw [decide_eq_true hl2] at L2
          have HS2 := hide (show Sort.siftDown ltZ hi F q (Sort.swp E ar aq) = R by have := HS.out; rwa [decide_eq_true hl2, if_pos rfl] at this)
          go_quiet (first | (go_at_call 51; (with_reducible refine (L2 _).mono ?_); rintro e w' ⟨rfl, rfl⟩; exact ⟨rfl, _, rfl⟩))
          have n1 : ar ≠ aq := by clear e1 e2 e3 e3' er er' eq1 eq1' eq2 eq2' eq3 eq3'; have := Har.out; have := Haq.out; have := Hq.out; have := Hq2.out; omega
          have n2 : aq ≠ ar := fun h => n1 h.symm
          have Hs2 := hide (Sa.drewN Hs1.out nq)
          have c1 := Sa.at Hs2.out hrN
          have c2 := Sa.at Hs2.out hqN
          have f1 := Sa.froz Hs1.out ar
          have f2 := Sa.froz Hs1.out aq
          have Hs3 := hide (Sa.drewN (Sa.swap Hs2.out ar aq) 1)
          rw [hx.out] at c1
          rw [hy.out] at c2
          rw [hx.out, hy.out] at Hs3
          have Hm := hide (show q ≤ 1000 ∧ r < q ∧ q < hi by clear e1 e2 e3 e3' er er' eq1 eq1' eq2 eq2' eq3 eq3'; have := Hend.out; have := Hq.out; have := Hq2.out; have := HF.out; have := Haq.out; have := hqN; exact ⟨by omega, by omega, by omega⟩)
          clear e1 e3 e3' eq2 eq2' g1 g2 g2' L2 hl2 eq3 eq3'
          go_wp2
          go_region
          go_wp2
          refine ⟨⟨q, _, Hm.out.1, by first | rfl | exact congrArg _ e2, HS2, hide Hs3.out⟩, ?_⟩
          first | exact measB Hm.out.2.1 Hm.out.2.2 | (rw [e2]; exact measB Hm.out.2.1 Hm.out.2.2)
        · rw [decide_eq_false hl2] at L2
          have hst : E = R := by have := HS.out; rwa [decide_eq_false hl2, if_neg (by decide)] at this
          go_quiet (first | (go_at_call 51; (with_reducible refine (L2 _).mono ?_); rintro e w' ⟨rfl, rfl⟩; exact ⟨rfl, _, rfl⟩))
          go_wp2
          (try simp only [Exit.inBlock, Exit.then])
          refine bodyPost_ret (results_none rfl _ _ _) rfl ?_
          exact ⟨rfl, by rw [← hst]; exact Sa.drewN Hs1.out _⟩
end
end So
end Go.Proofs.Ytjdaoenapmjoeaa
