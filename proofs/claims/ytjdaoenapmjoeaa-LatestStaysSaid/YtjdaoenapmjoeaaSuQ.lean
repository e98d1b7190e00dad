/-
  SORTING at uint64, walks: pdqsortOrdered of fewer than fifty elements, slices.Sort.
-/
import Derived.Test.YtjdaoenapmjoeaaSuE
import Derived.Test.YtjdaoenapmjoeaaSuP
import Derived.Test.YtjdaoenapmjoeaaRowK
namespace Go.Proofs.Ytjdaoenapmjoeaa
open Go.RowKit
set_option maxRecDepth 8000
namespace So
/-- What is left to be sorted, and what comes of it. -/
structure Lp (a0 b0 : Nat) (D0 : Array Int) (a b : Nat) (E : Array Int) : Prop where
  below : Sort.Below ltZ a b E
  on : ∀ R, Sort.PermIn a b E R → Sort.SortedIn ltZ a b R → Sort.PermIn a0 b0 D0 R ∧ Sort.SortedIn ltZ a0 b0 R
section
variable {base g c N a0 b0 : Nat} {W0 : World} {D0 : Array Int}
theorem Lp.perm {a b : Nat} {E E2 : Array Int} (h : Lp a0 b0 D0 a b E) (hb : b ≤ E.size) (hp : Sort.PermIn a b E E2) : Lp a0 b0 D0 a b E2 :=
  ⟨h.below.perm hb hp, fun R h1 h2 => h.on R (Sort.permIn_trans _ _ _ _ _ hp h1) h2⟩
theorem Lp.eq {a b p : Nat} {E : Array Int} (h : Lp a0 b0 D0 a b E) (ha : 0 < a) (h1 : a ≤ p) (h2 : p < b) (hb : b ≤ E.size) (hl : ¬ E[a - 1]! < E[p]!) :
    a < (Sort.partitionEqual ltZ E a b p).1 ∧ (Sort.partitionEqual ltZ E a b p).1 ≤ b ∧ (Sort.partitionEqual ltZ E a b p).2.size = E.size ∧ Lp a0 b0 D0 (Sort.partitionEqual ltZ E a b p).1 b (Sort.partitionEqual ltZ E a b p).2 := by
  obtain ⟨q1, q2, q3, q4, q5⟩ := Sort.round_eq swoZ (Sort.partitionEqual_holds _) ha h1 h2 hb h.below (decide_eq_false hl) rfl
  exact ⟨q1, q2, q3, q4, fun R h3 h4 => by obtain ⟨z1, z2⟩ := q5 R h3 h4; exact h.on R z1 z2⟩
theorem Lp.part {a b p : Nat} {E : Array Int} (h : Lp a0 b0 D0 a b E) (h1 : a ≤ p) (h2 : p < b) (hb : b ≤ E.size) :
    ∃ mid al F, Sort.partition ltZ E a b p = (mid, al, F) ∧ a ≤ mid ∧ mid < b ∧ F.size = E.size ∧ Sort.Below ltZ a mid F ∧ Sort.Below ltZ (mid + 1) b F ∧
    (∀ L, Sort.PermIn a mid F L → Sort.SortedIn ltZ a mid L → Lp a0 b0 D0 (mid + 1) b L) ∧ (∀ L, Sort.PermIn (mid + 1) b F L → Sort.SortedIn ltZ (mid + 1) b L → Lp a0 b0 D0 a mid L) := by
  obtain ⟨q1, q2, q3, q4, q5, q6, q7⟩ := Sort.round_part swoZ (Sort.partition_holds _) h1 h2 hb h.below rfl
  refine ⟨_, _, _, rfl, q1, q2, q3, q4, q5, fun L z1 z2 => ?_, fun L z1 z2 => ?_⟩
  · obtain ⟨y1, y2⟩ := q6 L z1 z2
    exact ⟨y1, fun R h3 h4 => by obtain ⟨x1, x2⟩ := y2 R h3 h4; exact h.on R x1 x2⟩
  · obtain ⟨y1, y2⟩ := q7 L z1 z2
    exact ⟨y1, fun R h3 h4 => by obtain ⟨x1, x2⟩ := y2 R h3 h4; exact h.on R x1 x2⟩
theorem Sa.lt {D : Array Int} {W : World} (h : Sa base g c N W0 D W) : g < W.heap.size := (own_lowS h.1 g rfl).2
set_option maxHeartbeats 16000000 in
theorem pdqs_u64 (hN : N < 50) : ∀ n, ∀ (a0 b0 lim0 : Nat) (D0 : Array Int) (w : World), b0 - a0 ≤ n → a0 ≤ b0 → b0 ≤ N → lim0 ≤ 100 → Sort.Below ltZ a0 b0 D0 → Sa base g c N W0 D0 w →
    Calls Try.prog 36 #[.slice (some ⟨g, 0, none⟩) N c, .int .i64 (a0 : Int), .int .i64 (b0 : Int), .int .i64 (lim0 : Int)] w fun e w' => e = .returned (.tuple #[]) ∧ ∃ R, Sort.PermIn a0 b0 D0 R ∧ Sort.SortedIn ltZ a0 b0 R ∧ Sa base g c N W0 R w' := by
  intro n
  induction n with
  | zero =>
    intro a0 b0 lim0 D0 w hn hab hb hlim hB hs
    obtain rfl : a0 = b0 := by omega
    have F := hide (insA_u64 (df := 0) base g c N W0 a0 a0 D0.toList _ w hs (Nat.le_refl _) hb (by omega) rfl)
    have HF := hide (show Sort.PermIn a0 a0 D0 D0 ∧ Sort.SortedIn ltZ a0 a0 D0 from ⟨Sort.permIn_refl _ _ _, fun i j h1 h2 h3 => by omega⟩)
    have e0 : insSort (fun x y : Int => decide (x < y)) 0 D0.toList a0 a0 = D0.toList := by rw [insSort, show a0 - (a0 + 1) = 0 by omega, insO]
    rw [e0] at F
    have e1 : wrap64 ((a0 : Int) - (a0 : Int)) = 0 := by rw [Int.sub_self]; exact w6n (x := 0) (Nat.zero_le _)
    clear hn hb hlim hB hs hN e0
    go_enter Try.func36, Try.ntmps36
    go_wp2
    go_loopw [1, 2, 3, 8, 9] (fun A B _ _ _ wr => A = .int .i64 (a0 : Int) ∧ B = .int .i64 (a0 : Int) ∧ wr = w) (fun _ _ _ _ _ _ => 0)
    case atStart => exact ⟨rfl, rfl, rfl⟩
    case round =>
      obtain ⟨rfl, rfl, rfl⟩ := hrel
      go_wp2_with fail
      (with_reducible refine F.out.mono ?_)
      rintro e w2 ⟨rfl, hs⟩
      go_wp2
      first | go_end0 | ((try simp only [Exit.inBlock, Exit.then]); refine bodyPost_ret (results_none rfl _ _ _) rfl ?_)
      exact ⟨rfl, D0, HF.out.1, HF.out.2, hs⟩
  | succ n ih =>
    intro a0 b0 lim0 D0 w hn hab hb hlim hB hs
    have FR := hide ih
    have Hs := hide hs
    have HN := hide (show N < 50 ∧ N ≤ 1000 by omega)
    have HL0 := hide (show Lp a0 b0 D0 a0 b0 D0 from ⟨hB, fun R h1 h2 => ⟨h1, h2⟩⟩)
    have HI := hide (show b0 - a0 ≤ n + 1 ∧ a0 ≤ b0 ∧ b0 ≤ N ∧ lim0 ≤ 100 from ⟨hn, hab, hb, hlim⟩)
    clear ih hs hn hab hb hlim hB hN
    go_enter Try.func36, Try.ntmps36
    go_wp2
    go_loopw [1, 2, 3, 8, 9] (fun A B C P Q wr => ∃ (a b lim : Nat) (wb wp : Bool) (E : Array Int), A = .int .i64 (a : Int) ∧ B = .int .i64 (b : Int) ∧ C = .int .i64 (lim : Int) ∧ P = .bool wb ∧ Q = .bool wp ∧ Hid (b - a ≤ n + 1 ∧ a ≤ b ∧ b ≤ N ∧ lim ≤ 100) ∧ Hid (Lp a0 b0 D0 a b E) ∧ Hid (Sa base g c N W0 E wr)) (fun A B _ _ _ _ => (intOf B).toNat - (intOf A).toNat)
    case atStart => exact ⟨a0, b0, lim0, true, true, D0, rfl, rfl, rfl, rfl, rfl, HI, HL0, Hs⟩
    case round =>
      clear Hs HL0 HI
      obtain ⟨a, b, lim, wb, wp, E, rfl, rfl, rfl, rfl, rfl, HI, HL, Hs⟩ := hrel
      obtain ⟨l, hl⟩ : ∃ l, b - a = l := ⟨_, rfl⟩
      have k := HI.out
      have kN := HN.out
      have r1 : (b : Int) - (a : Int) = (l : Int) := by omega
      have q1 : l ≤ 1000 := by omega
      have Hl := hide hl
      have hsz := Sa.size Hs.out
      have Hsz := hide hsz
      by_cases h12 : l ≤ 12
      · have F := hide (insA_u64 (df := 0) base g c N W0 a b E.toList _ wr Hs.out k.2.1 k.2.2.1 kN.2 rfl)
        have e0 : insSort (fun x y : Int => decide (x < y)) 0 E.toList a b = (Sort.insertionSort ltZ E a b).toList := arr_ins E a b
        have q := Sort.insertionSort_holds swoZ E a b k.2.1 (by omega)
        have HF := hide (HL.out.on _ q.1 q.2)
        rw [e0] at F
        generalize Sort.insertionSort ltZ E a b = R at *
        have h12' : (l : Int) ≤ 12 := by omega
        have e1 : wrap64 ((b : Int) - (a : Int)) = (l : Int) := by rw [r1]; exact w6n q1
        clear k kN r1 q1 hl hsz h12 e0 q Hs HL
        go_wp2_with fail
        (with_reducible refine F.out.mono ?_)
        rintro e w2 ⟨rfl, hs⟩
        go_wp2
        first | go_end0 | ((try simp only [Exit.inBlock, Exit.then]); refine bodyPost_ret (results_none rfl _ _ _) rfl ?_)
        exact ⟨rfl, R, HF.out.1, HF.out.2, hs⟩
      · have h12' : ¬ (l : Int) ≤ 12 := by omega
        have gl12 : decide ((l : Int) ≤ 12) = false := decide_eq_false h12'
        have gl12' : decide (l ≤ 12) = false := decide_eq_false h12
        have Hl12 : Hid (12 < l ∧ l < 50) := hide (by omega)
        by_cases h0 : lim = 0
        · subst h0
          have F := hide (heap_u64 a b E wr Hs.out (by omega) k.2.2.1 kN.2)
          have q := Sort.heapSort_holds swoZ E a b k.2.1 (by omega)
          have HF := hide (HL.out.on _ q.1 q.2)
          generalize Sort.heapSort ltZ E a b = R at *
          have e1 : wrap64 ((b : Int) - (a : Int)) = (l : Int) := by rw [r1]; exact w6n q1
          clear k kN r1 q1 hl hsz h12 q Hs HL
          go_wp2_with fail
          (with_reducible refine F.out.mono ?_)
          rintro e w2 ⟨rfl, hs⟩
          go_wp2
          first | go_end0 | ((try simp only [Exit.inBlock, Exit.then]); refine bodyPost_ret (results_none rfl _ _ _) rfl ?_)
          exact ⟨rfl, R, HF.out.1, HF.out.2, hs⟩
        · obtain ⟨lim1, hlim1⟩ : ∃ z, lim = z + 1 := ⟨lim - 1, by omega⟩
          have gL : ((lim : Int) == 0) = false := beq_eq_false_iff_ne.2 (by omega)
          have r2 : (lim : Int) - 1 = (lim1 : Int) := by omega
          have q2 : lim1 ≤ 100 ∧ lim ≤ 100 := by omega
          have H2 := hide q2
          have FB := hide (break_u64 a b wr Hs.out (by omega) (by omega) k.2.2.1 kN.2 Hs.out.2.size (Sa.lt Hs.out))
          have e1 : wrap64 ((b : Int) - (a : Int)) = (l : Int) := by rw [r1]; exact w6n q1
          have e2 : wrap64 ((lim : Int) - 1) = (lim1 : Int) := by rw [r2]; exact w6n (Nat.le_trans q2.1 (by decide))
          clear k kN r1 q1 hl hsz h12 h0 hlim1 r2 q2
          go_upto_if 35 with fail
          simp only [e1]
          clear e1
          go_cut [3] from 36 to 41 (fun s wx => ∃ (lm : Nat) (F : Array Int), s = .int .i64 (lm : Int) ∧ Hid (lm ≤ 100) ∧ Hid (Lp a0 b0 D0 a b F ∧ Sa base g c N W0 F wx))
          case first =>
            cases wb with
            | true =>
              go_wp2
              go_meet
              exact ⟨lim, E, rfl, hide H2.out.2, hide ⟨HL.out, Hs.out⟩⟩
            | false =>
              go_wp2_with fail
              (with_reducible refine FB.out.mono ?_)
              rintro e w2 ⟨rfl, F, hp, h⟩
              have HX := hide (And.intro (HL.out.perm (by rw [Hsz.out]; exact HI.out.2.2.1) hp) h)
              clear hp h
              go_wp2
              go_meet
              exact ⟨lim1, F, by first | rfl | exact congrArg _ e2, hide H2.out.1, HX⟩
          clear Hs HL FB e2
          obtain ⟨lm, F, rfl, Hlm, HX⟩ := hcut
          have HFs := hide (Sa.size HX.out.2)
          have FV := hide (pivot_u64 a b ((b - a) / 4) wc HX.out.2 (by have := Hl12.out; have := Hl.out; omega) (by have := Hl12.out; have := Hl.out; omega) HI.out.2.2.1 HN.out.2 rfl HX.out.2.2.size (Sa.lt HX.out.2))
          go_wp2_with fail
          (with_reducible refine FV.out.mono ?_)
          rintro e w3 ⟨p, h, hp, hh, rfl, hs⟩
          have HP : Hid (a < p ∧ p < b ∧ p < N) := hide (by have := Hl12.out; have := Hl.out; have := HI.out; omega)
          have HLF := hide HX.out.1
          have Hs := hide hs
          have h2 : (h == 2) = false := beq_eq_false_iff_ne.2 (by omega)
          have Hh := hide hh
          obtain ⟨t, ht⟩ : ∃ t, (wb && wp && (h == 1)) = t := ⟨_, rfl⟩
          have Ht := hide ht
          clear hp hh hs ht FV HX
          go_upto_region 15 with fail
          go_cut [68] from 61 to 68 (fun s wx => s = .bool t ∧ wx = w3)
          case first =>
            have ht := Ht.out
            cases wb with
            | false =>
              subst ht
              go_wp2
              go_meet
              exact ⟨rfl, rfl⟩
            | true => cases wp with
              | false =>
                subst ht
                go_wp2
                go_meet
                exact ⟨rfl, rfl⟩
              | true =>
                subst ht
                go_wp2
                go_meet
                exact ⟨by first | rfl | simp, rfl⟩
          obtain ⟨rfl, rfl⟩ := hcut
          go_upto_if 68 with fail
          go_cut [] from 69 to 72 (fun wx => Hid (Sa base g c N W0 F wx))
          case first =>
            cases t with
            | false =>
              go_wp2
              go_meet
              exact Hs
            | true =>
              obtain ⟨P, hP⟩ : ∃ P, psc ltZ 0 F.toList b (b - (a + 1)) (a + 1) = P := ⟨_, rfl⟩
              have FN := hide (pins_u64 (df := 0) base g c N W0 a b P F.toList wc Hs.out (by have := HP.out; omega) (by have := Hl12.out; have := Hl.out; omega) HI.out.2.2.1 HN.out.2 hP)
              by_cases hPb : P = b
              · rw [decide_eq_true hPb] at FN
                have HF := hide (HLF.out.on F (Sort.permIn_refl _ _ _) (psc_sorted F a b (by have := HP.out; omega) (by rw [hP]; exact hPb)))
                clear hP hPb
                go_wp2_with fail
                (with_reducible refine FN.out.mono ?_)
                rintro e w4 ⟨rfl, hs⟩
                go_wp2
                first | go_end0 | ((try simp only [Exit.inBlock, Exit.then]); refine bodyPost_ret (results_none rfl _ _ _) rfl ?_)
                exact ⟨rfl, F, HF.out.1, HF.out.2, hs⟩
              · rw [decide_eq_false hPb] at FN
                clear hP hPb
                go_wp2_with fail
                (with_reducible refine FN.out.mono ?_)
                rintro e w4 ⟨rfl, hs⟩
                go_wp2
                go_meet
                exact hide hs
          clear Hs
          have Hs := hide hcut.out
          clear hcut Ht Hh h2
          obtain ⟨u, hu⟩ : ∃ u, (decide (0 < a) && !decide (F[a - 1]! < F[p]!)) = u := ⟨_, rfl⟩
          have Hu := hide hu
          clear hu
          go_upto_region 17 with fail
          go_cut [87] from 73 to 87 (fun s wx => s = .bool u ∧ Hid (Sa base g c N W0 F wx))
          case first =>
            have hu := Hu.out
            by_cases ha : 0 < a
            · obtain ⟨a1, ha1⟩ : ∃ z, a = z + 1 := ⟨a - 1, by omega⟩
              have k1 : a1 < N ∧ p < N ∧ a1 ≤ 1000 := by have := HP.out; have := HI.out; have := HN.out; omega
              have r1 : (a : Int) - 1 = (a1 : Int) := by omega
              rw [show a - 1 = a1 by omega, decide_eq_true ha, Bool.true_and] at hu
              have L1 := less_u64 F[a1]! F[p]!
              have c1 := Sa.at Hs.out k1.1
              have c0 := Sa.at Hs.out k1.2.1
              have b1 : (a1 : Int) < (N : Int) := Int.ofNat_lt.2 k1.1
              have b0 : (p : Int) < (N : Int) := Int.ofNat_lt.2 k1.2.1
              have g1 : decide (0 < a) = true := decide_eq_true ha
              have g2 : decide ((0 : Int) < (a : Int)) = true := decide_eq_true (by omega)
              have e5 : wrap64 ((a : Int) - 1) = (a1 : Int) := by rw [r1]; exact w6n k1.2.2
              have e5' : IntKind.i64.wrap ((a : Int) - 1) = (a1 : Int) := by rw [r1]; exact w6i (Nat.le_trans k1.2.2 (by decide))
              generalize decide (F[a1]! < F[p]!) = lx at *
              generalize F[a1]! = x at *
              generalize F[p]! = y at *
              have HU := hide hu
              clear ha ha1 k1 r1 hu
              go_wp2
              go_quiet (first | (go_at_call 51; (with_reducible refine (L1 _).mono ?_); rintro e w' ⟨rfl, rfl⟩; exact ⟨rfl, _, rfl⟩))
              go_wp2
              go_meet
              exact ⟨congrArg Value.bool HU.out, hide (Sa.drewN Hs.out nq)⟩
            · have g1 : decide (0 < a) = false := decide_eq_false ha
              have g2 : decide ((0 : Int) < (a : Int)) = false := decide_eq_false (by omega)
              rw [g1, Bool.false_and] at hu
              have HU := hide hu
              clear ha hu
              go_wp2
              go_quiet (fail)
              go_wp2
              go_meet
              exact ⟨congrArg Value.bool HU.out, hide (Sa.drewN Hs.out nq)⟩
          clear Hs
          obtain ⟨rfl, Hs⟩ := hcut
          cases u with
          | true =>
            have hu := Hu.out
            rw [Bool.and_eq_true, decide_eq_true_eq, Bool.not_eq_true', decide_eq_false_iff_not] at hu
            have q := HLF.out.eq hu.1 (Nat.le_of_lt HP.out.1) HP.out.2.1 (by rw [HFs.out]; exact HI.out.2.2.1) hu.2
            have FE := hide (parteq_u64 a b p F wc Hs.out HP.out.1 HP.out.2.1 HI.out.2.2.1 HN.out.2)
            generalize (Sort.partitionEqual ltZ F a b p).1 = mid at *
            generalize (Sort.partitionEqual ltZ F a b p).2 = G at *
            have HG := hide q.2.2.2
            have HI2 := hide (show b - mid ≤ n + 1 ∧ mid ≤ b ∧ b ≤ N ∧ lm ≤ 100 by have := HI.out; exact ⟨by omega, q.2.1, this.2.2.1, Hlm.out⟩)
            have Hms := hide (show b - mid < b - a by have := q.1; have := q.2.1; omega)
            clear hu q Hs
            go_wp2_with fail
            (with_reducible refine FE.out.mono ?_)
            rintro e w4 ⟨rfl, hs⟩
            have HT := hide hs
            clear hs FE
            go_wp2
            exact ⟨⟨mid, b, lm, wb, wp, G, rfl, rfl, rfl, rfl, rfl, HI2, HG, HT⟩, Hms.out⟩
          | false =>
            obtain ⟨mid, al, G, hG, m1, m2, m3, m4, m5, m6, m7⟩ := HLF.out.part (Nat.le_of_lt HP.out.1) HP.out.2.1 (by rw [HFs.out]; exact HI.out.2.2.1)
            have FP := hide (par_u64 (df := 0) base g c N W0 a b p mid al F.toList G.toList wc Hs.out (by omega) HP.out.1 HP.out.2.1 HI.out.2.2.1 HN.out.2 (by rw [arr_part F a b p (by have := Hl12.out; have := Hl.out; omega), hG]))
            have M4 := hide m4
            have M5 := hide m5
            have M6 := hide m6
            have M7 := hide m7
            obtain ⟨l1, hl1⟩ : ∃ z, mid - a = z := ⟨_, rfl⟩
            obtain ⟨l2, hl2⟩ : ∃ z, b - mid = z := ⟨_, rfl⟩
            obtain ⟨th, hth⟩ : ∃ z, l / 8 = z := ⟨_, rfl⟩
            have k := HI.out
            have kN := HN.out
            have hll := Hl.out
            have r2 : (mid : Int) - (a : Int) = (l1 : Int) := by omega
            have r3 : (b : Int) - (mid : Int) = (l2 : Int) := by omega
            have q2 : l1 ≤ 1000 ∧ l2 ≤ 1000 ∧ th ≤ 1000 ∧ mid ≤ 1000 := by omega
            have HM := hide (show a ≤ mid ∧ mid + 1 ≤ b ∧ mid ≤ N ∧ mid - a ≤ n ∧ b - (mid + 1) ≤ n ∧ b - (mid + 1) < b - a ∧ mid - a < b - a ∧ b - (mid + 1) ≤ n + 1 ∧ mid - a ≤ n + 1 ∧ b ≤ N by omega)
            have r4 : (l : Int).tdiv 8 = (th : Int) := by rw [← hth]; exact (Int.ofNat_tdiv l 8).symm
            have hem := w6n2 q2.2.2.2
            have e2 : wrap64 ((mid : Int) - (a : Int)) = (l1 : Int) := by rw [r2]; exact w6n q2.1
            have e3 : wrap64 ((b : Int) - (mid : Int)) = (l2 : Int) := by rw [r3]; exact w6n q2.2.1
            have e4 : wrap64 (th : Int) = (th : Int) := w6n q2.2.2.1
            clear hG m1 m2 m3 m4 m5 m6 m7 hl1 hl2 hth k kN hll r2 r3 q2 Hs
            go_wp2_with fail
            (with_reducible refine FP.out.mono ?_)
            rintro e w4 ⟨rfl, hs⟩
            have HT := hide hs
            clear hs FP
            by_cases hlr : l1 < l2
            · have g3 : decide ((l1 : Int) < (l2 : Int)) = true := decide_eq_true (Int.ofNat_lt.2 hlr)
              have g3' : decide (l1 < l2) = true := decide_eq_true hlr
              have F2 := hide (FR.out a mid lm G w4 HM.out.2.2.2.1 HM.out.1 HM.out.2.2.1 Hlm.out M4.out HT.out)
              clear hlr
              go_wp2_with fail
              (with_reducible refine F2.out.mono ?_)
              rintro e w5 ⟨rfl, R, h1, h2, h3⟩
              have HR := hide (M6.out R h1 h2)
              have HT2 := hide h3
              clear h1 h2 h3 F2 HT
              go_wp2
              refine ⟨⟨mid + 1, b, lm, _, al, R, congrArg _ hem, rfl, rfl, rfl, rfl, hide ⟨HM.out.2.2.2.2.2.2.2.1, HM.out.2.1, HM.out.2.2.2.2.2.2.2.2.2, Hlm.out⟩, HR, HT2⟩, ?_⟩
              rw [hem]
              exact HM.out.2.2.2.2.2.1
            · have g3 : decide ((l1 : Int) < (l2 : Int)) = false := decide_eq_false (fun h => hlr (Int.ofNat_lt.1 h))
              have g3' : decide (l1 < l2) = false := decide_eq_false hlr
              have F2 := hide (FR.out (mid + 1) b lm G w4 HM.out.2.2.2.2.1 HM.out.2.1 HM.out.2.2.2.2.2.2.2.2.2 Hlm.out M5.out HT.out)
              rw [show ((mid + 1 : Nat) : Int) = (mid : Int) + 1 from rfl] at F2
              clear hlr
              go_wp2_with fail
              (with_reducible refine F2.out.mono ?_)
              rintro e w5 ⟨rfl, R, h1, h2, h3⟩
              have HR := hide (M7.out R h1 h2)
              have HT2 := hide h3
              clear h1 h2 h3 F2 HT
              go_wp2
              exact ⟨⟨a, mid, lm, _, al, R, rfl, rfl, rfl, rfl, rfl, hide ⟨HM.out.2.2.2.2.2.2.2.2.1, HM.out.1, HM.out.2.2.1, Hlm.out⟩, HR, HT2⟩, HM.out.2.2.2.2.2.2.1⟩
end
end So
end Go.Proofs.Ytjdaoenapmjoeaa
