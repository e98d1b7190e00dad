/-
  LAYER 21, CONTRACTS: Least, Most, Gap, May.
-/
import Derived.Test.YtpepifbdndcbjaaWrG
namespace Go.Proofs.Ytpepifbdndcbjaa
open Go.RowKit
set_option maxRecDepth 8000

def gapZ (cs l : List Int) : Int := ofZ cs (bstZ (ahM cs) l) - ofZ cs (bstZ (ahL cs) l)
def mayZ (cs l : List Int) (b g : Int) : Bool := decide (b ∈ l) && decide (ofZ cs b - ofZ cs (bstZ (ahL cs) l) < max g 1)
/-- Counts are ints. -/
def Top (cs : List Int) : Prop := ∀ x ∈ cs, x ≤ 9223372036854775807
theorem wr21 {cs : List Int} (h : Top cs) (x y : Int) : wrap64 (ofZ cs x - ofZ cs y) = ofZ cs x - ofZ cs y := by
  have h1 := ofZ_nonneg cs x
  have h2 := ofZ_nonneg cs y
  have h3 := ofZ_le h x
  have h4 := ofZ_le h y
  unfold wrap64
  omega
theorem ahF_L (cs : List Int) : ahF (fun x y => cmpY (ofZ cs x) (ofZ cs y)) = ahL cs := by
  funext a b
  exact cmpL_ah cs a b
theorem ahF_M (cs : List Int) : ahF (fun x y => cmpY (ofZ cs y) (ofZ cs x)) = ahM cs := by
  funext a b
  exact cmpM_ah cs a b
theorem egw : ∀ args w, (callFunc 32 args).run Try.prog w = .ok (.enter 32 args) w := enters_of Try.func32 (by kernel_rfl) rfl
theorem egm : ∀ args w, (callFunc 23 args).run Try.prog w = .ok (.enter 23 args) w := enters_of Try.func23 (by kernel_rfl) rfl
section
variable (A A2 : Option Addr) (n c n2 c2 : Nat) (l cs : List Int) (w : World)
set_option maxHeartbeats 4000000 in
theorem least21 (hl : Lies w w.heap.size A (nums .i64 l)) (hc : Lies w w.heap.size A2 (nums .i64 cs)) (hn : n = l.length) (hn2 : n2 = cs.length) (hbig : n ≤ 1000000) (hbig2 : n2 ≤ 1000000) :
    Calls Try.prog 7 #[.slice A n c, .slice A2 n2 c2] w fun e w' => e = .returned (.tuple #[.int .i64 (bstZ (ahL cs) l), .bool (decide (0 < n))]) ∧ Below w.heap.size w w' := by
  have HB1 := hide ((Below.refl w.heap.size w).alloc (Nat.le_refl _) (.cells #[.slice A2 n2 c2] 22))
  have F := hide (first21 32 #[.pointer (some ⟨w.heap.size, 0, none⟩)] egw A n c l (fun x y => cmpY (ofZ cs x) (ofZ cs y)) (w.alloc (.cells #[.slice A2 n2 c2] 22)) (hl.go21 HB1.out) hn hbig (fun W hW x y =>
    wearOne21 A2 n2 c2 w.heap.size cs x y W ((hW.cell (p := ⟨w.heap.size, 0, none⟩) (by simp)).trans (by simp)) ((hc.go21 HB1.out).go21 hW) hn2 hbig2))
  rw [ahF_L] at F
  have F0 := hide (wear21 A2 n2 c2 w)
  generalize bstZ (ahL cs) l = R at *
  generalize decide (0 < n) = r at *
  clear hl hc hn hn2
  go_enter Try.func7, Try.ntmps7
  go_wp2_with fail
  (with_reducible refine F0.out.mono ?_); rintro e w1 ⟨rfl, rfl⟩
  go_wp2_with fail
  (with_reducible refine F.out.mono ?_); rintro e w2 ⟨rfl, hb⟩
  have HW := hide (HB1.out.trans (hb.mono HB1.out.size))
  clear hb F HB1 F0
  go_wp2
  refine bodyPost_ret (results_tmp2 rfl _ _ _) rfl ?_
  exact ⟨rfl, HW.out⟩
set_option maxHeartbeats 4000000 in
theorem most21 (hl : Lies w w.heap.size A (nums .i64 l)) (hc : Lies w w.heap.size A2 (nums .i64 cs)) (hn : n = l.length) (hn2 : n2 = cs.length) (hbig : n ≤ 1000000) (hbig2 : n2 ≤ 1000000) :
    Calls Try.prog 8 #[.slice A n c, .slice A2 n2 c2] w fun e w' => e = .returned (.tuple #[.int .i64 (bstZ (ahM cs) l), .bool (decide (0 < n))]) ∧ Below w.heap.size w w' := by
  have HB1 := hide ((Below.refl w.heap.size w).alloc (Nat.le_refl _) (.cells #[.slice A2 n2 c2] 22))
  have F0 := hide (wear21 A2 n2 c2 w)
  have F := hide (fun W2 (q : Nat) (hW2 : Below w.heap.size w W2) (h1 : W2.cell? ⟨w.heap.size, 0, none⟩ = some (.slice A2 n2 c2)) (h1q : w.heap.size < W2.heap.size) (h2 : W2.cell? ⟨q, 0, none⟩ = some (.func (.func 32) #[] #[.pointer (some ⟨w.heap.size, 0, none⟩)])) (hq : q < W2.heap.size) =>
    first21 23 #[.pointer (some ⟨q, 0, none⟩)] egm A n c l (fun x y => cmpY (ofZ cs y) (ofZ cs x)) W2 (hl.go21 hW2) hn hbig (fun W hW x y =>
      turn21 32 #[.pointer (some ⟨w.heap.size, 0, none⟩)] egw q x y (cmpY (ofZ cs y) (ofZ cs x)) W ((hW.cell (p := ⟨q, 0, none⟩) hq).trans h2)
        (wearOne21 A2 n2 c2 w.heap.size cs y x W ((hW.cell (p := ⟨w.heap.size, 0, none⟩) h1q).trans h1) ((hc.go21 hW2).go21 hW) hn2 hbig2)))
  rw [ahF_M] at F
  generalize bstZ (ahM cs) l = R at *
  generalize decide (0 < n) = r at *
  clear hl hc hn hn2
  go_enter Try.func8, Try.ntmps8
  go_wp2_with fail
  (with_reducible refine F0.out.mono ?_); rintro e w1 ⟨rfl, rfl⟩
  have e1 : (w.alloc (.cells #[.slice A2 n2 c2] 22)).heap.size = w.heap.size + 1 := by simp
  have k1 := heap_alloc_new w (.cells #[.slice A2 n2 c2] 22)
  generalize w.alloc (.cells #[.slice A2 n2 c2] 22) = w1 at *
  have hst : (store ⟨w1.heap.size, 0, none⟩ (.func (.func 32) #[] #[.pointer (some ⟨w.heap.size, 0, none⟩)])).run Try.prog (w1.alloc (.cells #[.nilFunc] 33)) = .ok () ((w1.alloc (.cells #[.nilFunc] 33)).setCell ⟨w1.heap.size, 0, none⟩ (.func (.func 32) #[] #[.pointer (some ⟨w.heap.size, 0, none⟩)])) := by
    have hb := heap_alloc_new w1 (.cells #[.nilFunc] 33)
    have hc : (w1.alloc (.cells #[.nilFunc] 33)).cell? ⟨w1.heap.size, 0, none⟩ = some .nilFunc := by simp
    have hf : (w1.alloc (.cells #[.nilFunc] 33)).frozen? ⟨w1.heap.size, 0, none⟩ = false := by unfold World.frozen?; rw [hb]; rfl
    rw [run_store _ _ _ _ _ rfl, hc, hf]
    rfl
  have HB2 := hide (HB1.out.alloc HB1.out.size (.cells #[.func (.func 32) #[] #[.pointer (some ⟨w.heap.size, 0, none⟩)]] 33))
  have K1 := hide k1
  have E1 := hide e1
  clear k1 e1 HB1 F0
  go_wp2_with fail
  have hk2 : (w1.alloc (.cells #[.func (.func 32) #[] #[.pointer (some ⟨w.heap.size, 0, none⟩)]] 33)).cell? ⟨w.heap.size, 0, none⟩ = some (.slice A2 n2 c2) := by
    have h3 := ((Below.refl w1.heap.size w1).alloc (Nat.le_refl _) (.cells #[.func (.func 32) #[] #[.pointer (some ⟨w.heap.size, 0, none⟩)]] 33)).cell (p := ⟨w.heap.size, 0, none⟩) (by rw [E1.out]; exact Nat.lt_succ_self _)
    rw [h3]
    simp [World.cell?, K1.out]
  have F9 := F.out _ w1.heap.size HB2.out hk2 (by simp [E1.out]; omega) (by simp) (by simp)
  clear K1 E1 F hk2 hst
  (with_reducible refine F9.mono ?_); rintro e w4 ⟨rfl, hb⟩
  have HW := hide (HB2.out.trans (hb.mono HB2.out.size))
  clear hb F9 HB2
  go_wp2
  refine bodyPost_ret (results_tmp2 rfl _ _ _) rfl ?_
  exact ⟨rfl, HW.out⟩
set_option maxHeartbeats 4000000 in
theorem gap21 (hl : Lies w w.heap.size A (nums .i64 l)) (hc : Lies w w.heap.size A2 (nums .i64 cs)) (hn : n = l.length) (hn2 : n2 = cs.length) (hbig : n ≤ 1000000) (hbig2 : n2 ≤ 1000000) (hT : Top cs) :
    Calls Try.prog 13 #[.slice A n c, .slice A2 n2 c2] w fun e w' => e = .returned (.int .i64 (gapZ cs l)) ∧ Below w.heap.size w w' := by
  have F1 := hide (least21 A A2 n c n2 c2 l cs w hl hc hn hn2 hbig hbig2)
  have F2 := hide (fun W (hW : Below w.heap.size w W) => most21 A A2 n c n2 c2 l cs W (hl.go21 hW) (hc.go21 hW) hn hn2 hbig hbig2)
  have F3 := hide (fun W b (hW : Below w.heap.size w W) => of21 A2 n2 c2 W.heap.size cs b W (hc.go21 hW) hn2 hbig2)
  have Hw := hide (wr21 hT)
  obtain ⟨R, hR⟩ : ∃ R, gapZ cs l = R := ⟨_, rfl⟩
  rw [hR]
  have HR : Hid (ofZ cs (bstZ (ahM cs) l) - ofZ cs (bstZ (ahL cs) l) = R) := hide hR
  have H0 : Hid (¬ 0 < n → R = 0) := hide (fun h => by
    obtain rfl : l = [] := List.eq_nil_of_length_eq_zero (by omega)
    rw [← hR]; unfold gapZ; rw [show bstZ (ahM cs) [] = 0 from rfl, show bstZ (ahL cs) [] = 0 from rfl]; omega)
  generalize bstZ (ahM cs) l = m at *
  generalize bstZ (ahL cs) l = k at *
  clear hl hc hn hn2 hR hT
  go_enter Try.func13, Try.ntmps13
  go_wp2_with fail
  (with_reducible refine F1.out.mono ?_); rintro e w1 ⟨rfl, hb⟩
  have HW := hide hb
  clear hb F1
  by_cases h0 : 0 < n
  · rw [decide_eq_true h0]
    clear H0 h0
    go_wp2_with fail
    (with_reducible refine (F2.out w1 HW.out).mono ?_); rintro e w2 ⟨rfl, hb⟩
    have HW2 := hide (HW.out.trans (hb.mono HW.out.size))
    clear hb F2 HW
    go_wp2_with fail
    (with_reducible refine (F3.out w2 m HW2.out).mono ?_); rintro e w3 ⟨rfl, rfl⟩
    go_wp2_with fail
    (with_reducible refine (F3.out w2 k HW2.out).mono ?_); rintro e w3 ⟨rfl, rfl⟩
    have hw := hide (Hw.out m k)
    generalize ofZ cs m = x at *
    generalize ofZ cs k = y at *
    clear F3 Hw
    go_wp2
    go_ret
    exact ⟨ret_int (by first | exact HR.out | (rw [hw.out]; exact HR.out)), HW2.out⟩
  · have hr := H0.out h0
    subst hr
    rw [decide_eq_false h0]
    clear F2 F3 Hw HR
    go_wp2
    go_ret
    exact ⟨rfl, HW.out⟩
set_option maxHeartbeats 4000000 in
theorem may21 (b g : Int) (hl : Lies w w.heap.size A (nums .i64 l)) (hc : Lies w w.heap.size A2 (nums .i64 cs)) (hn : n = l.length) (hn2 : n2 = cs.length) (hbig : n ≤ 1000000) (hbig2 : n2 ≤ 1000000) (hT : Top cs) :
    Calls Try.prog 14 #[.slice A n c, .slice A2 n2 c2, .int .i64 b, .int .i64 g] w fun e w' => e = .returned (.bool (mayZ cs l b g)) ∧ Below w.heap.size w w' := by
  have F0 := hide (contains21 A n c w.heap.size l b w hl hn hbig)
  have F1 := hide (least21 A A2 n c n2 c2 l cs w hl hc hn hn2 hbig hbig2)
  have F3 := hide (fun W b (hW : Below w.heap.size w W) => of21 A2 n2 c2 W.heap.size cs b W (hc.go21 hW) hn2 hbig2)
  have Hw := hide (wr21 hT)
  obtain ⟨R, hR⟩ : ∃ R, mayZ cs l b g = R := ⟨_, rfl⟩
  rw [hR]
  have HR : Hid ((decide (b ∈ l) && decide (ofZ cs b - ofZ cs (bstZ (ahL cs) l) < max g 1)) = R) := hide hR
  generalize bstZ (ahL cs) l = k at *
  generalize decide (0 < n) = r0 at *
  clear hl hc hn hn2 hR hT
  go_enter Try.func14, Try.ntmps14
  go_wp2_with fail
  (with_reducible refine F0.out.mono ?_); rintro e w1 ⟨rfl, rfl⟩
  cases hin : decide (b ∈ l) with
  | false =>
    have hr := HR.out
    rw [hin, Bool.false_and] at hr
    subst hr
    clear F0 F1 F3 Hw HR hin
    go_wp2
    go_ret
    exact ⟨rfl, Below.refl _ _⟩
  | true =>
    rw [hin, Bool.true_and] at HR
    clear hin F0
    go_wp2_with fail
    (with_reducible refine F1.out.mono ?_); rintro e w1 ⟨rfl, hb⟩
    have HW2 := hide hb
    clear hb F1
    go_wp2_with fail
    (with_reducible refine (F3.out w1 b HW2.out).mono ?_); rintro e w3 ⟨rfl, rfl⟩
    go_wp2_with fail
    (with_reducible refine (F3.out w1 k HW2.out).mono ?_); rintro e w3 ⟨rfl, rfl⟩
    have hw := Hw.out b k
    generalize ofZ cs b = x at *
    generalize ofZ cs k = y at *
    clear F3 Hw
    go_wp2
    all_goals
      go_ret
      refine ⟨ret_bool ?_, HW2.out⟩
      rw [← HR.out]
      exact decide_eq_decide.2 (by omega)
end
end Go.Proofs.Ytpepifbdndcbjaa
