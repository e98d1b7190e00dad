/-
  LAYER 22, SORTING BY A FUNCTION THAT KEEPS WHAT IT TOLD, walks: pdqsortCmpFunc of fewer than fifty.
-/
import Derived.Test.YtabancgcokcfdaaVcI
import Derived.Test.YtabancgcokcfdaaVcO
import Derived.Test.YtabancgcokcfdaaVcJ
import Derived.Test.YtabancgcokcfdaaVcB
import Derived.Test.YtabancgcokcfdaaVcP
import Derived.Test.YtabancgcokcfdaaVcN
namespace Go.Proofs.Ytabancgcokcfdaa
open Go.RowKit
set_option maxRecDepth 8000
namespace Vc
theorem psc_sortedV {L : List Pl2} (D : Array Int) (a b : Nat) (hab : a < b) (h : Sort.scanSorted (ltV L) D b (a + 1) = b) : Sort.SortedIn (ltV L) a b D := by
  have h3 := Sort.scanSorted_spec (swoV L) a b D _ (a + 1) rfl (by omega) (fun i j h1 h2 h3 => by omega)
  rw [h] at h3
  exact h3.2.2
theorem ins0_cmp (v fv : Value) (a : Nat) (W : World) (h : a ≤ 1000) : Calls Try.prog 33 #[v, .int .i64 (a : Int), .int .i64 (a : Int), fv] W fun e w' => e = .returned (.tuple #[]) ∧ W = w' := by
  have e0 : wrap64 ((a : Int) + 1) = ((a + 1 : Nat) : Int) := w6n2 h
  have hlt : decide (((a + 1 : Nat) : Int) < (a : Int)) = false := decide_eq_false (by clear e0; omega)
  obtain ⟨i, hi⟩ : ∃ i, a + 1 = i := ⟨_, rfl⟩
  rw [hi] at e0 hlt
  have hna : ¬ (i : Int) < (a : Int) := by clear e0; omega
  clear h hi
  go_enter Try.func33, Try.ntmps33
  go_wp2
  go_loop [8] (fun z => z = .int .i64 (i : Int)) (fun _ => 0)
  case atStart => first | rfl | exact congrArg _ e0
  case round =>
    subst hrel
    go_wp2
    go_end0
    exact ⟨rfl, rfl⟩
theorem insA_cmp {L : List Pl2} {S : List Int} {q base g c N : Nat} {W0 : World} (a b : Nat) (D R : Array Int) (w : World) (hs : Vd L S q base g c N W0 D w) (hab : a ≤ b) (hb : b ≤ N) (hN : N ≤ 1000) (hR : Sort.insertionSort (ltV L) D a b = R) :
    Calls Try.prog 33 #[.slice (some ⟨g, 0, none⟩) N c, .int .i64 (a : Int), .int .i64 (b : Int), .func (.func 23) #[] #[.pointer (some ⟨q + 3, 0, none⟩)]] w fun e w' => e = .returned (.tuple #[]) ∧ Vd L S q base g c N W0 R w' := by
  by_cases h : a < b
  · exact ins_cmp a b D R w hs h hb hN hR
  · obtain rfl : a = b := by omega
    refine (ins0_cmp _ _ a w (by omega)).mono ?_
    rintro e w' ⟨rfl, rfl⟩
    rw [Sort.insertionSort, Sort.insOuter, if_neg (by omega)] at hR
    exact ⟨rfl, hR ▸ hs⟩
/-- What is left to be sorted, and what comes of it. -/
structure Lp (L : List Pl2) (a0 b0 : Nat) (D0 : Array Int) (a b : Nat) (E : Array Int) : Prop where
  below : Sort.Below (ltV L) a b E
  on : ∀ R, Sort.PermIn a b E R → Sort.SortedIn (ltV L) a b R → Sort.PermIn a0 b0 D0 R ∧ Sort.SortedIn (ltV L) a0 b0 R
section
variable {L : List Pl2} {S : List Int} {q base g c N a0 b0 : Nat} {W0 : World} {D0 : Array Int}
theorem Lp.perm {a b : Nat} {E E2 : Array Int} (h : Lp L a0 b0 D0 a b E) (hb : b ≤ E.size) (hp : Sort.PermIn a b E E2) : Lp L a0 b0 D0 a b E2 :=
  ⟨h.below.perm hb hp, fun R h1 h2 => h.on R (Sort.permIn_trans _ _ _ _ _ hp h1) h2⟩
theorem Lp.eq {a b p : Nat} {E : Array Int} (h : Lp L a0 b0 D0 a b E) (ha : 0 < a) (h1 : a ≤ p) (h2 : p < b) (hb : b ≤ E.size) (hl : ltV L E[a - 1]! E[p]! = false) :
    a < (Sort.partitionEqual (ltV L) E a b p).1 ∧ (Sort.partitionEqual (ltV L) E a b p).1 ≤ b ∧ (Sort.partitionEqual (ltV L) E a b p).2.size = E.size ∧ Lp L a0 b0 D0 (Sort.partitionEqual (ltV L) E a b p).1 b (Sort.partitionEqual (ltV L) E a b p).2 := by
  obtain ⟨q1, q2, q3, q4, q5⟩ := Sort.round_eq (swoV L) (Sort.partitionEqual_holds _) ha h1 h2 hb h.below hl rfl
  exact ⟨q1, q2, q3, q4, fun R h3 h4 => by obtain ⟨z1, z2⟩ := q5 R h3 h4; exact h.on R z1 z2⟩
theorem Lp.part {a b p : Nat} {E : Array Int} (h : Lp L a0 b0 D0 a b E) (h1 : a ≤ p) (h2 : p < b) (hb : b ≤ E.size) :
    ∃ mid al F, Sort.partition (ltV L) E a b p = (mid, al, F) ∧ a ≤ mid ∧ mid < b ∧ F.size = E.size ∧ Sort.Below (ltV L) a mid F ∧ Sort.Below (ltV L) (mid + 1) b F ∧
    (∀ Z, Sort.PermIn a mid F Z → Sort.SortedIn (ltV L) a mid Z → Lp L a0 b0 D0 (mid + 1) b Z) ∧ (∀ Z, Sort.PermIn (mid + 1) b F Z → Sort.SortedIn (ltV L) (mid + 1) b Z → Lp L a0 b0 D0 a mid Z) := by
  obtain ⟨q1, q2, q3, q4, q5, q6, q7⟩ := Sort.round_part (swoV L) (Sort.partition_holds _) h1 h2 hb h.below rfl
  refine ⟨_, _, _, rfl, q1, q2, q3, q4, q5, fun Z z1 z2 => ?_, fun Z z1 z2 => ?_⟩
  · obtain ⟨y1, y2⟩ := q6 Z z1 z2
    exact ⟨y1, fun R h3 h4 => by obtain ⟨x1, x2⟩ := y2 R h3 h4; exact h.on R x1 x2⟩
  · obtain ⟨y1, y2⟩ := q7 Z z1 z2
    exact ⟨y1, fun R h3 h4 => by obtain ⟨x1, x2⟩ := y2 R h3 h4; exact h.on R x1 x2⟩
set_option maxHeartbeats 16000000 in
theorem pdqs_cmp (hN : N < 50) : ∀ n, ∀ (a0 b0 lim0 : Nat) (D0 : Array Int) (w : World), b0 - a0 ≤ n → a0 ≤ b0 → b0 ≤ N → lim0 ≤ 100 → Sort.Below (ltV L) a0 b0 D0 → Vd L S q base g c N W0 D0 w →
    Calls Try.prog 31 #[.slice (some ⟨g, 0, none⟩) N c, .int .i64 (a0 : Int), .int .i64 (b0 : Int), .int .i64 (lim0 : Int), .func (.func 23) #[] #[.pointer (some ⟨q + 3, 0, none⟩)]] w fun e w' => e = .returned (.tuple #[]) ∧ ∃ R, Sort.PermIn a0 b0 D0 R ∧ Sort.SortedIn (ltV L) a0 b0 R ∧ Vd L S q base g c N W0 R w' := by
  intro n
  induction n with
  | zero =>
    intro a0 b0 lim0 D0 w hn hab hb hlim hB hs
    obtain rfl : a0 = b0 := by omega
    have F := hide (insA_cmp a0 a0 D0 D0 w hs (Nat.le_refl _) hb (by omega) (by rw [Sort.insertionSort, Sort.insOuter, if_neg (by omega)]))
    have HF := hide (show Sort.PermIn a0 a0 D0 D0 ∧ Sort.SortedIn (ltV L) a0 a0 D0 from ⟨Sort.permIn_refl _ _ _, fun i j h1 h2 h3 => by omega⟩)
    have e1 : wrap64 ((a0 : Int) - (a0 : Int)) = 0 := by rw [Int.sub_self]; exact w6n (x := 0) (Nat.zero_le _)
    clear hn hb hlim hB hs hN
    go_enter Try.func31, Try.ntmps31
    go_wp2
    go_loopw [1, 2, 3, 10, 11] (fun A B _ _ _ wr => A = .int .i64 (a0 : Int) ∧ B = .int .i64 (a0 : Int) ∧ wr = w) (fun _ _ _ _ _ _ => 0)
    case atStart => exact ⟨rfl, rfl, rfl⟩
    case round =>
      obtain ⟨rfl, rfl, rfl⟩ := hrel
      go_wp2_with fail
      (with_reducible refine F.out.mono ?_)
      rintro e w2 ⟨rfl, hs⟩
      go_wp2
      first | go_end0 | ((try simp only [Exit.inBlock, Exit.then]); refine bodyPost_ret (results_none rfl _ _ _) rfl ?_)
      exact ⟨rfl, D0, HF.out.1, HF.out.2, hs⟩
  | succ n ih =>
    intro a0 b0 lim0 D0 w hn hab hb hlim hB hs
    have eg := egV
    have FR := hide ih
    have Hs := hide hs
    have HN := hide (show N < 50 ∧ N ≤ 1000 by omega)
    have HL0 := hide (show Lp L a0 b0 D0 a0 b0 D0 from ⟨hB, fun R h1 h2 => ⟨h1, h2⟩⟩)
    have HI := hide (show b0 - a0 ≤ n + 1 ∧ a0 ≤ b0 ∧ b0 ≤ N ∧ lim0 ≤ 100 from ⟨hn, hab, hb, hlim⟩)
    clear ih hs hn hab hb hlim hB hN
    go_enter Try.func31, Try.ntmps31
    go_wp2
    go_loopw [1, 2, 3, 10, 11] (fun A B C P Q wr => ∃ (a b lim : Nat) (wb wp : Bool) (E : Array Int), A = .int .i64 (a : Int) ∧ B = .int .i64 (b : Int) ∧ C = .int .i64 (lim : Int) ∧ P = .bool wb ∧ Q = .bool wp ∧ Hid (b - a ≤ n + 1 ∧ a ≤ b ∧ b ≤ N ∧ lim ≤ 100) ∧ Hid (Lp L a0 b0 D0 a b E) ∧ Hid (Vd L S q base g c N W0 E wr)) (fun A B _ _ _ _ => (RowKit.intOf B).toNat - (RowKit.intOf A).toNat)
    case atStart => exact ⟨a0, b0, lim0, true, true, D0, rfl, rfl, rfl, rfl, rfl, HI, HL0, Hs⟩
    case round =>
      clear Hs HL0 HI
      obtain ⟨a, b, lim, wb, wp, E, rfl, rfl, rfl, rfl, rfl, HI, HL, Hs⟩ := hrel
      obtain ⟨l, hl⟩ : ∃ l, b - a = l := ⟨_, rfl⟩
      have k := HI.out
      have kN := HN.out
      have r1 : (b : Int) - (a : Int) = (l : Int) := by omega
      have q1 : l ≤ 1000 := by omega
      have Hl := hide hl
      have hsz := Vd.size Hs.out
      have Hsz := hide hsz
      by_cases h12 : l ≤ 12
      · have F := hide (insA_cmp a b E _ wr Hs.out k.2.1 k.2.2.1 kN.2 rfl)
        have qs := Sort.insertionSort_holds (swoV L) E a b k.2.1 (by omega)
        have HF := hide (HL.out.on _ qs.1 qs.2)
        generalize Sort.insertionSort (ltV L) E a b = R at *
        have h12' : (l : Int) ≤ 12 := by omega
        have e1 : wrap64 ((b : Int) - (a : Int)) = (l : Int) := by rw [r1]; exact w6n q1
        clear k kN r1 q1 hl hsz h12 qs Hs HL
        go_wp2_with fail
        (with_reducible refine F.out.mono ?_)
        rintro e w2 ⟨rfl, hs⟩
        go_wp2
        first | go_end0 | ((try simp only [Exit.inBlock, Exit.then]); refine bodyPost_ret (results_none rfl _ _ _) rfl ?_)
        exact ⟨rfl, R, HF.out.1, HF.out.2, hs⟩
      · have h12' : ¬ (l : Int) ≤ 12 := by omega
        have gl12 : decide ((l : Int) ≤ 12) = false := decide_eq_false h12'
        have gl12' : decide (l ≤ 12) = false := decide_eq_false h12
        have Hl12 : Hid (12 < l ∧ l < 50) := hide (by omega)
        by_cases h0 : lim = 0
        · subst h0
          have F := hide (heap_cmp a b E wr Hs.out (by omega) k.2.2.1 kN.2)
          have qs := Sort.heapSort_holds (swoV L) E a b k.2.1 (by omega)
          have HF := hide (HL.out.on _ qs.1 qs.2)
          generalize Sort.heapSort (ltV L) E a b = R at *
          have e1 : wrap64 ((b : Int) - (a : Int)) = (l : Int) := by rw [r1]; exact w6n q1
          clear k kN r1 q1 hl hsz h12 qs Hs HL
          go_wp2_with fail
          (with_reducible refine F.out.mono ?_)
          rintro e w2 ⟨rfl, hs⟩
          go_wp2
          first | go_end0 | ((try simp only [Exit.inBlock, Exit.then]); refine bodyPost_ret (results_none rfl _ _ _) rfl ?_)
          exact ⟨rfl, R, HF.out.1, HF.out.2, hs⟩
        · obtain ⟨lim1, hlim1⟩ : ∃ z, lim = z + 1 := ⟨lim - 1, by omega⟩
          have gL : ((lim : Int) == 0) = false := beq_eq_false_iff_ne.2 (by omega)
          have r2 : (lim : Int) - 1 = (lim1 : Int) := by omega
          have q2 : lim1 ≤ 100 ∧ lim ≤ 100 := by omega
          have H2 := hide q2
          have FB := hide (break_cmp a b wr Hs.out (by omega) (by omega) k.2.2.1 kN.2 Hs.out.two.size Hs.out.low.2)
          have e1 : wrap64 ((b : Int) - (a : Int)) = (l : Int) := by rw [r1]; exact w6n q1
          have e2 : wrap64 ((lim : Int) - 1) = (lim1 : Int) := by rw [r2]; exact w6n (Nat.le_trans q2.1 (by decide))
          clear k kN r1 q1 hl hsz h12 h0 hlim1 r2 q2
          go_upto_if 39 with fail
          simp only [e1]
          clear e1
          go_cut [3] from 40 to 46 (fun s wx => ∃ (lm : Nat) (F : Array Int), s = .int .i64 (lm : Int) ∧ Hid (lm ≤ 100) ∧ Hid (Lp L a0 b0 D0 a b F ∧ Vd L S q base g c N W0 F wx))
          case first =>
            cases wb with
            | true =>
              go_wp2
              go_meet
              exact ⟨lim, E, rfl, hide H2.out.2, hide ⟨HL.out, Hs.out⟩⟩
            | false =>
              go_wp2_with fail
              (with_reducible refine FB.out.mono ?_)
              rintro e w2 ⟨rfl, F, hp, h⟩
              have HX := hide (And.intro (HL.out.perm (by rw [Hsz.out]; exact HI.out.2.2.1) hp) h)
              clear hp h
              go_wp2
              go_meet
              exact ⟨lim1, F, by first | rfl | exact congrArg _ e2, hide H2.out.1, HX⟩
          clear Hs HL FB e2
          obtain ⟨lm, F, rfl, Hlm, HX⟩ := hcut
          have HFs := hide (Vd.size HX.out.2)
          have FV := hide (pivot_cmp a b ((b - a) / 4) wc HX.out.2 (by have := Hl12.out; have := Hl.out; omega) (by have := Hl12.out; have := Hl.out; omega) HI.out.2.2.1 HN.out.2 rfl HX.out.2.two.size HX.out.2.low.2)
          go_wp2_with fail
          (with_reducible refine FV.out.mono ?_)
          rintro e w3 ⟨p, h, hp, hh, rfl, hs⟩
          have HP : Hid (a < p ∧ p < b ∧ p < N) := hide (by have := Hl12.out; have := Hl.out; have := HI.out; omega)
          have HLF := hide HX.out.1
          have Hs := hide hs
          have h2 : (h == 2) = false := beq_eq_false_iff_ne.2 (by omega)
          have Hh := hide hh
          obtain ⟨t, ht⟩ : ∃ t, (wb && wp && (h == 1)) = t := ⟨_, rfl⟩
          have Ht := hide ht
          clear hp hh hs ht FV HX
          go_upto_region 15 with fail
          go_cut [75] from 68 to 75 (fun s wx => s = .bool t ∧ wx = w3)
          case first =>
            have ht := Ht.out
            cases wb with
            | false =>
              subst ht
              go_wp2
              go_meet
              exact ⟨rfl, rfl⟩
            | true => cases wp with
              | false =>
                subst ht
                go_wp2
                go_meet
                exact ⟨rfl, rfl⟩
              | true =>
                subst ht
                go_wp2
                go_meet
                exact ⟨by first | rfl | simp, rfl⟩
          obtain ⟨rfl, rfl⟩ := hcut
          go_upto_if 75 with fail
          go_cut [] from 76 to 80 (fun wx => Hid (Vd L S q base g c N W0 F wx))
          case first =>
            cases t with
            | false =>
              go_wp2
              go_meet
              exact Hs
            | true =>
              obtain ⟨P, hP⟩ : ∃ P, Sort.scanSorted (ltV L) F b (a + 1) = P := ⟨_, rfl⟩
              have FN := hide (pins_cmp a b P F wc Hs.out (by have := HP.out; omega) (by have := Hl12.out; have := Hl.out; omega) HI.out.2.2.1 HN.out.2 hP)
              by_cases hPb : P = b
              · rw [decide_eq_true hPb] at FN
                have HF := hide (HLF.out.on F (Sort.permIn_refl _ _ _) (psc_sortedV F a b (by have := HP.out; omega) (by rw [hP]; exact hPb)))
                clear hP hPb
                go_wp2_with fail
                (with_reducible refine FN.out.mono ?_)
                rintro e w4 ⟨rfl, hs⟩
                go_wp2
                first | go_end0 | ((try simp only [Exit.inBlock, Exit.then]); refine bodyPost_ret (results_none rfl _ _ _) rfl ?_)
                exact ⟨rfl, F, HF.out.1, HF.out.2, hs⟩
              · rw [decide_eq_false hPb] at FN
                clear hP hPb
                go_wp2_with fail
                (with_reducible refine FN.out.mono ?_)
                rintro e w4 ⟨rfl, hs⟩
                go_wp2
                go_meet
                exact hide hs
          clear Hs
          have Hs := hide hcut.out
          clear hcut Ht Hh h2
          obtain ⟨u, hu⟩ : ∃ u, (decide (0 < a) && !ltV L F[a - 1]! F[p]!) = u := ⟨_, rfl⟩
          have Hu := hide hu
          clear hu
          go_upto_region 17 with fail
          go_cut [97] from 81 to 97 (fun s wx => s = .bool u ∧ Hid (Vd L S q base g c N W0 F wx))
          case first =>
            have hu := Hu.out
            by_cases ha : 0 < a
            · obtain ⟨a1, ha1⟩ : ∃ z, a = z + 1 := ⟨a - 1, by omega⟩
              have k1 : a1 < N ∧ p < N ∧ a1 ≤ 1000 := by have := HP.out; have := HI.out; have := HN.out; omega
              have r1 : (a : Int) - 1 = (a1 : Int) := by omega
              rw [show a - 1 = a1 by omega, decide_eq_true ha, Bool.true_and] at hu
              have fc := Hs.out.drew.cmp (Hs.out.mem a1 k1.1) (Hs.out.mem p k1.2.1)
              have c1 := Hs.out.drew.at k1.1
              have c0 := Hs.out.drew.at k1.2.1
              have b1 : (a1 : Int) < (N : Int) := Int.ofNat_lt.2 k1.1
              have b0 : (p : Int) < (N : Int) := Int.ofNat_lt.2 k1.2.1
              have g1 : decide (0 < a) = true := decide_eq_true ha
              have g2 : decide ((0 : Int) < (a : Int)) = true := decide_eq_true (by omega)
              have e5 : wrap64 ((a : Int) - 1) = (a1 : Int) := by rw [r1]; exact w6n k1.2.2
              have e5' : IntKind.i64.wrap ((a : Int) - 1) = (a1 : Int) := by rw [r1]; exact w6i (Nat.le_trans k1.2.2 (by decide))
              have hl := cf_lt L F[a1]! F[p]!
              obtain ⟨zz, hzz⟩ : ∃ zz, cfV L F[a1]! F[p]! = zz := ⟨_, rfl⟩
              rw [hzz] at fc hl
              rw [← hl] at hu
              generalize F[a1]! = x at *
              generalize F[p]! = y at *
              have FC := hide fc
              obtain ⟨bz, hbz⟩ : ∃ bz, decide (zz < 0) = bz := ⟨_, rfl⟩
              rw [hbz] at hu
              have HU := hide hu
              clear ha ha1 k1 r1 hu hl hzz fc
              go_wp2
              go_still_tail 13, (by kernel_rfl)
              change wpList _ _ _ _ _ wc.drew
              generalize wc.drew = wd at *
              go_wp2_with (first | (go_at_fn 23; refine FC.out.mono ?_; rintro e w4 ⟨rfl, hv, hg⟩; have H4 := hide hv; clear hv hg FC))
              go_meet
              exact ⟨congrArg Value.bool HU.out, H4⟩
            · have g1 : decide (0 < a) = false := decide_eq_false ha
              have g2 : decide ((0 : Int) < (a : Int)) = false := decide_eq_false (by omega)
              rw [g1, Bool.false_and] at hu
              have HU := hide hu
              clear ha hu
              go_wp2
              go_quiet (fail)
              go_wp2
              go_meet
              exact ⟨congrArg Value.bool HU.out, hide (Hs.out.drewN nq)⟩
          clear Hs
          obtain ⟨rfl, Hs⟩ := hcut
          cases u with
          | true =>
            have hu := Hu.out
            rw [Bool.and_eq_true, decide_eq_true_eq, Bool.not_eq_true'] at hu
            have qs := HLF.out.eq hu.1 (Nat.le_of_lt HP.out.1) HP.out.2.1 (by rw [HFs.out]; exact HI.out.2.2.1) hu.2
            have FE := hide (parteq_cmp a b p F wc Hs.out HP.out.1 HP.out.2.1 HI.out.2.2.1 HN.out.2)
            generalize (Sort.partitionEqual (ltV L) F a b p).1 = mid at *
            generalize (Sort.partitionEqual (ltV L) F a b p).2 = G at *
            have HG := hide qs.2.2.2
            have HI2 := hide (show b - mid ≤ n + 1 ∧ mid ≤ b ∧ b ≤ N ∧ lm ≤ 100 by have := HI.out; exact ⟨by omega, qs.2.1, this.2.2.1, Hlm.out⟩)
            have Hms := hide (show b - mid < b - a by have := qs.1; have := qs.2.1; omega)
            clear hu qs Hs
            go_wp2_with fail
            (with_reducible refine FE.out.mono ?_)
            rintro e w4 ⟨rfl, hs⟩
            have HT := hide hs
            clear hs FE
            go_wp2
            exact ⟨⟨mid, b, lm, wb, wp, G, rfl, rfl, rfl, rfl, rfl, HI2, HG, HT⟩, Hms.out⟩
          | false =>
            obtain ⟨mid, al, G, hG, m1, m2, m3, m4, m5, m6, m7⟩ := HLF.out.part (Nat.le_of_lt HP.out.1) HP.out.2.1 (by rw [HFs.out]; exact HI.out.2.2.1)
            have FP := hide (part_cmp a b p mid al F G wc Hs.out HP.out.1 HP.out.2.1 HI.out.2.2.1 HN.out.2 hG)
            have M4 := hide m4
            have M5 := hide m5
            have M6 := hide m6
            have M7 := hide m7
            obtain ⟨l1, hl1⟩ : ∃ z, mid - a = z := ⟨_, rfl⟩
            obtain ⟨l2, hl2⟩ : ∃ z, b - mid = z := ⟨_, rfl⟩
            obtain ⟨th, hth⟩ : ∃ z, l / 8 = z := ⟨_, rfl⟩
            have k := HI.out
            have kN := HN.out
            have hll := Hl.out
            have r2 : (mid : Int) - (a : Int) = (l1 : Int) := by omega
            have r3 : (b : Int) - (mid : Int) = (l2 : Int) := by omega
            have q2 : l1 ≤ 1000 ∧ l2 ≤ 1000 ∧ th ≤ 1000 ∧ mid ≤ 1000 := by omega
            have HM := hide (show a ≤ mid ∧ mid + 1 ≤ b ∧ mid ≤ N ∧ mid - a ≤ n ∧ b - (mid + 1) ≤ n ∧ b - (mid + 1) < b - a ∧ mid - a < b - a ∧ b - (mid + 1) ≤ n + 1 ∧ mid - a ≤ n + 1 ∧ b ≤ N by omega)
            have r4 : (l : Int).tdiv 8 = (th : Int) := by rw [← hth]; exact (Int.ofNat_tdiv l 8).symm
            have hem := w6n2 q2.2.2.2
            have e2 : wrap64 ((mid : Int) - (a : Int)) = (l1 : Int) := by rw [r2]; exact w6n q2.1
            have e3 : wrap64 ((b : Int) - (mid : Int)) = (l2 : Int) := by rw [r3]; exact w6n q2.2.1
            have e4 : wrap64 (th : Int) = (th : Int) := w6n q2.2.2.1
            clear hG m1 m2 m3 m4 m5 m6 m7 hl1 hl2 hth k kN hll r2 r3 q2 Hs
            go_wp2_with fail
            (with_reducible refine FP.out.mono ?_)
            rintro e w4 ⟨rfl, hs⟩
            have HT := hide hs
            clear hs FP
            by_cases hlr : l1 < l2
            · have g3 : decide ((l1 : Int) < (l2 : Int)) = true := decide_eq_true (Int.ofNat_lt.2 hlr)
              have g3' : decide (l1 < l2) = true := decide_eq_true hlr
              have F2 := hide (FR.out a mid lm G w4 HM.out.2.2.2.1 HM.out.1 HM.out.2.2.1 Hlm.out M4.out HT.out)
              clear hlr
              go_wp2_with fail
              (with_reducible refine F2.out.mono ?_)
              rintro e w5 ⟨rfl, R, h1, h2, h3⟩
              have HR := hide (M6.out R h1 h2)
              have HT2 := hide h3
              clear h1 h2 h3 F2 HT
              go_wp2
              refine ⟨⟨mid + 1, b, lm, _, al, R, congrArg _ hem, rfl, rfl, rfl, rfl, hide ⟨HM.out.2.2.2.2.2.2.2.1, HM.out.2.1, HM.out.2.2.2.2.2.2.2.2.2, Hlm.out⟩, HR, HT2⟩, ?_⟩
              rw [hem]
              exact HM.out.2.2.2.2.2.1
            · have g3 : decide ((l1 : Int) < (l2 : Int)) = false := decide_eq_false (fun h => hlr (Int.ofNat_lt.1 h))
              have g3' : decide (l1 < l2) = false := decide_eq_false hlr
              have F2 := hide (FR.out (mid + 1) b lm G w4 HM.out.2.2.2.2.1 HM.out.2.1 HM.out.2.2.2.2.2.2.2.2.2 Hlm.out M5.out HT.out)
              rw [show ((mid + 1 : Nat) : Int) = (mid : Int) + 1 from rfl] at F2
              clear hlr
              go_wp2_with fail
              (with_reducible refine F2.out.mono ?_)
              rintro e w5 ⟨rfl, R, h1, h2, h3⟩
              have HR := hide (M7.out R h1 h2)
              have HT2 := hide h3
              clear h1 h2 h3 F2 HT
              go_wp2
              exact ⟨⟨a, mid, lm, _, al, R, rfl, rfl, rfl, rfl, rfl, hide ⟨HM.out.2.2.2.2.2.2.2.2.1, HM.out.1, HM.out.2.2.1, Hlm.out⟩, HR, HT2⟩, HM.out.2.2.2.2.2.2.1⟩
end
end Vc
end Go.Proofs.Ytabancgcokcfdaa
