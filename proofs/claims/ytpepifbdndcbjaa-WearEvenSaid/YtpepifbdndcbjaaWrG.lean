/-
  LAYER 21, CONTRACTS: wear and the function that it makes; first; Least, Most, Gap, May.
-/
import Derived.Test.YtpepifbdndcbjaaWrF
namespace Go.Proofs.Ytpepifbdndcbjaa
open Go.RowKit
set_option maxRecDepth 8000

theorem Lies.go21 {w w' : World} {A : Option Addr} {xs : List Value} (h : Lies w w.heap.size A xs) (hb : Below w.heap.size w w') : Lies w' w'.heap.size A xs := (h.below hb).up hb.size
theorem wear21 (A : Option Addr) (n c : Nat) (w : World) : Calls Try.prog 22 #[.slice A n c] w fun e w' => e = .returned (.func (.func 32) #[] #[.pointer (some ⟨w.heap.size, 0, none⟩)]) ∧ w.alloc (.cells #[.slice A n c] 22) = w' := by
  go_enter Try.func22, Try.ntmps22
  go_wp2
  go_ret
  exact ⟨rfl, rfl⟩
set_option maxHeartbeats 4000000 in
theorem wearOne21 (A : Option Addr) (n c q : Nat) (l : List Int) (x y : Int) (w : World) (hq : w.cell? ⟨q, 0, none⟩ = some (.slice A n c)) (hl : Lies w w.heap.size A (nums .i64 l)) (hn : n = l.length) (hbig : n ≤ 1000000) :
    Calls Try.prog 32 #[.int .i64 x, .int .i64 y, .pointer (some ⟨q, 0, none⟩)] w fun e w' => e = .returned (.int .i64 (cmpY (ofZ l x) (ofZ l y))) ∧ Below w.heap.size w w' := by
  have F1 : ∀ q, Calls Try.prog 11 #[.slice A n c, .int .i64 x] (w.drewN q) fun e w' => e = .returned (.int .i64 (ofZ l x)) ∧ w' = w.drewN q := fun q => (of21 A n c w.heap.size l x (w.drewN q) (hl.drewN q) hn hbig).mono fun e w' ⟨h1, h2⟩ => ⟨h1, h2.symm⟩
  have F2 : ∀ q, Calls Try.prog 11 #[.slice A n c, .int .i64 y] (w.drewN q) fun e w' => e = .returned (.int .i64 (ofZ l y)) ∧ w' = w.drewN q := fun q => (of21 A n c w.heap.size l y (w.drewN q) (hl.drewN q) hn hbig).mono fun e w' ⟨h1, h2⟩ => ⟨h1, h2.symm⟩
  have F3 : ∀ q, Calls Try.prog 31 #[.int .i64 (ofZ l x), .int .i64 (ofZ l y)] (w.drewN q) fun e w' => e = .returned (.int .i64 (cmpY (ofZ l x) (ofZ l y))) ∧ w' = w.drewN q := fun q => (cmp21 (ofZ l x) (ofZ l y) (w.drewN q)).mono fun e w' ⟨h1, h2⟩ => ⟨h1, h2.symm⟩
  generalize ofZ l x = u at *
  generalize ofZ l y = v at *
  generalize cmpY u v = z at *
  have HL := hide hl
  clear hl hn
  go_enter Try.func32, Try.ntmps32
  go_upto_region 1 with fail
  go_quiet (first
    | (go_at_call 11; first | (with_reducible exact Calls.quiet_of_same (F1 _)) | (with_reducible exact Calls.quiet_of_same (F2 _)))
    | (go_at_call 31; exact Calls.quiet_of_same (F3 _)))
  go_wp2
  go_ret
  exact ⟨rfl, bel_drewN (Below.refl _ _) nq⟩
/-- 'Most' turns them round. -/
theorem turn21 (g : Nat) (lb : Array Value) (eg : ∀ args w, (callFunc g args).run Try.prog w = .ok (.enter g args) w) (q : Nat) (x y z : Int) (w : World) (hq : w.cell? ⟨q, 0, none⟩ = some (.func (.func g) #[] lb))
    (hp : Calls Try.prog g (#[.int .i64 y, .int .i64 x] ++ lb) w fun e w' => e = .returned (.int .i64 z) ∧ Below w.heap.size w w') :
    Calls Try.prog 23 #[.int .i64 x, .int .i64 y, .pointer (some ⟨q, 0, none⟩)] w fun e w' => e = .returned (.int .i64 z) ∧ Below w.heap.size w w' := by
  go_enter Try.func23, Try.ntmps23
  go_wp2_with (go_at_fn g; refine hp.mono ?_; rintro e w2 ⟨rfl, hb⟩)
  go_ret
  exact ⟨rfl, hb⟩
set_option maxHeartbeats 4000000 in
theorem firstOne21 (g : Nat) (lb : Array Value) (eg : ∀ args w, (callFunc g args).run Try.prog w = .ok (.enter g args) w) (q : Nat) (x y z : Int) (w : World) (hq : w.cell? ⟨q, 0, none⟩ = some (.func (.func g) #[] lb))
    (hp : Calls Try.prog g (#[.int .i64 x, .int .i64 y] ++ lb) w fun e w' => e = .returned (.int .i64 z) ∧ Below w.heap.size w w') :
    Calls Try.prog 29 #[.int .i64 x, .int .i64 y, .pointer (some ⟨q, 0, none⟩)] w fun e w' => e = .returned (.int .i64 (orY z (cmpY x y))) ∧ Below w.heap.size w w' := by
  have F3 := hide (fun W => cmp21 x y W)
  have Hp := hide hp
  clear hp
  obtain ⟨R, hR⟩ : ∃ R, orY z (cmpY x y) = R := ⟨_, rfl⟩
  rw [hR]
  rw [← orW_two] at hR
  have HR := hide hR
  generalize cmpY x y = z2 at *
  clear hR
  go_enter Try.func29, Try.ntmps29
  go_wp2_with fail
  (go_at_fn g; refine Hp.out.mono ?_; rintro e w2 ⟨rfl, hb⟩)
  have HB := hide hb
  clear hb Hp hq
  go_wp2_with fail
  (with_reducible refine (F3.out _).mono ?_); rintro e w3 ⟨rfl, rfl⟩
  go_wp2_with fail
  have HN := hide (Lies.new w2 #[.int .i64 z, .int .i64 z2] 3 (0, 0) (w2.heap.size + 1) (Nat.lt_succ_self _))
  have HB2 := hide (HB.out.alloc HB.out.size (.cells #[.int .i64 z, .int .i64 z2] 3))
  generalize w2.alloc (.cells #[.int .i64 z, .int .i64 z2] 3) = w4 at *
  (with_reducible refine (or21 _ 2 2 _ [z, z2] w4 HN.out rfl (by decide)).mono ?_); rintro e w5 ⟨rfl, rfl⟩
  rw [HR.out]
  go_wp2
  go_ret
  exact ⟨rfl, HB2.out⟩
/-- Which of two blocks is put ahead, of those that are put alike the one of the least number. -/
def ahF (cf : Int → Int → Int) (a b : Int) : Bool := decide (orY (cf a b) (cmpY a b) < 0)
set_option maxHeartbeats 4000000 in
theorem first21 (g : Nat) (lb : Array Value) (eg : ∀ args w, (callFunc g args).run Try.prog w = .ok (.enter g args) w) (A : Option Addr) (n c : Nat) (l : List Int) (cf : Int → Int → Int) (w : World) (hl : Lies w w.heap.size A (nums .i64 l)) (hn : n = l.length) (hbig : n ≤ 1000000)
    (hp : ∀ W, Below w.heap.size w W → ∀ x y, Calls Try.prog g (#[.int .i64 x, .int .i64 y] ++ lb) W fun e w' => e = .returned (.int .i64 (cf x y)) ∧ Below W.heap.size W w') :
    Calls Try.prog 21 #[.slice A n c, .func (.func g) #[] lb] w fun e w' => e = .returned (.tuple #[.int .i64 (bstZ (ahF cf) l), .bool (decide (0 < n))]) ∧ Below w.heap.size w w' := by
  have eg2 : ∀ args w, (callFunc 29 args).run Try.prog w = .ok (.enter 29 args) w := enters_of Try.func29 (by kernel_rfl) rfl
  by_cases h0 : 0 < n
  · rw [decide_eq_true h0]
    have HB1 := hide ((Below.refl w.heap.size w).alloc (Nat.le_refl _) (.cells #[.func (.func g) #[] lb] 33))
    have F := hide (min21 29 #[.pointer (some ⟨w.heap.size, 0, none⟩)] eg2 A n c w.heap.size l (fun a b => orY (cf a b) (cmpY a b)) (w.alloc (.cells #[.func (.func g) #[] lb] 33)) (hl.below HB1.out) hn h0 HB1.out.size hbig (fun W hW x y =>
      firstOne21 g lb eg w.heap.size x y (cf x y) W ((hW.cell (p := ⟨w.heap.size, 0, none⟩) (by simp)).trans (by simp)) (hp W (HB1.out.trans (hW.mono HB1.out.size)) x y)))
    rw [show bstZ (fun a b => decide (orY (cf a b) (cmpY a b) < 0)) l = bstZ (ahF cf) l from rfl] at F
    generalize bstZ (ahF cf) l = R at *
    have g0 : ((n : Int) == 0) = false := beq_eq_false_iff_ne.2 (by omega)
    clear hl hn hp h0
    go_enter Try.func21, Try.ntmps21
    go_wp2_with fail
    (with_reducible refine F.out.mono ?_); rintro e w2 ⟨rfl, hb⟩
    have HW := hide (HB1.out.trans (hb.mono HB1.out.size))
    clear hb F HB1
    go_wp2
    refine bodyPost_ret (results_tmp2 rfl _ _ _) rfl ?_
    exact ⟨rfl, HW.out⟩
  · obtain rfl : n = 0 := by omega
    obtain rfl : l = [] := List.eq_nil_of_length_eq_zero hn.symm
    rw [show bstZ (ahF cf) [] = 0 from rfl, show decide (0 < 0) = false from rfl]
    have HB1 := hide ((Below.refl w.heap.size w).alloc (Nat.le_refl _) (.cells #[.func (.func g) #[] lb] 33))
    clear hp hl hn hbig eg eg2
    go_enter Try.func21, Try.ntmps21
    go_wp2
    refine bodyPost_ret (results_tmp2 rfl _ _ _) rfl ?_
    exact ⟨rfl, HB1.out⟩
end Go.Proofs.Ytpepifbdndcbjaa
