/-
  LAYER 22: awake.
-/
import Derived.Test.YtabancgcokcfdaaVcW
namespace Go.Proofs.Ytabancgcokcfdaa
open Go.RowKit
set_option maxRecDepth 8000
namespace Vc
theorem newV (w : World) (cs : Array Value) (t : TypeId) : Lies (w.alloc (.cells cs t)) (w.alloc (.cells cs t)).heap.size (some ⟨w.heap.size, 0, none⟩) cs.toList ∧ Below w.heap.size w (w.alloc (.cells cs t)) := ⟨Lies.new w cs t (0, 0) _ (by simp), (Below.refl _ _).alloc (Nat.le_refl _) _⟩
theorem goV {w w' : World} {A : Option Addr} {xs : List Value} (h : Lies w w.heap.size A xs) (hb : Below w.heap.size w w') : Lies w' w'.heap.size A xs := (h.below hb).up hb.size
def awL : List Pl2 := [((2 : Int), (0 : Int)), (2, 1), (3, 0)]
theorem awEnv (S : List Int) (h : S.length ≤ 1000) (h2 : ∀ x ∈ S, 0 ≤ x ∧ x ≤ 5) : Env awL S := ⟨by decide, h, fun x hx => ⟨by have := (h2 x hx).1; omega, by have := (h2 x hx).2; omega⟩⟩
theorem aw23 : ∀ x ∈ [(2 : Int), 3], 0 ≤ x ∧ x ≤ 5 := by decide
theorem aw235 : ∀ x ∈ [(2 : Int), 3, 5], 0 ≤ x ∧ x ≤ 5 := by decide
theorem awAns : ansP awL 4 [2, 3] = (3, true) := by decide
theorem awGain : gainZ awL 2 4 = 2 := by decide
theorem awTot : totN awL 4 [2, 3] 2 = 5 := by decide
theorem awOrder {R : List Int} (hp : R.Perm [2, 3, 5]) (hs : R.Pairwise fun x y => ltV awL y x = false) : R = [5, 3, 2] := by
  have hl := hp.length_eq
  have hn : R.Nodup := hp.nodup_iff.2 (by decide)
  have hm : ∀ x ∈ R, x = 2 ∨ x = 3 ∨ x = 5 := fun x hx => by have := hp.mem_iff.1 hx; simpa using this
  match R, hl with
  | [a, b, c], _ =>
    have ha := hm a (by simp)
    have hb := hm b (by simp)
    have hc := hm c (by simp)
    rcases ha with rfl | rfl | rfl <;> rcases hb with rfl | rfl | rfl <;> rcases hc with rfl | rfl | rfl <;> first | rfl | (exfalso; revert hn; decide) | (exfalso; revert hs; decide)
set_option maxHeartbeats 8000000 in
theorem awake22_any (w : World) :
    Calls Try.prog 6 #[] w fun e w' => e = .returned (.bool true) ∧ Below w.heap.size w w' := by
  have ok2 : Ok64 2 := ⟨by decide, by decide⟩
  have ok4 : Ok64 4 := ⟨by decide, by decide⟩
  have HO := hide (And.intro ok2 ok4)
  clear ok2 ok4
  go_enter Try.func6, Try.ntmps6
  go_wp2_with fail
  obtain ⟨n1, b1⟩ := newV w #[.int .i64 2, .int .i64 0, .int .i64 2, .int .i64 1, .int .i64 3, .int .i64 0] 35
  have z1 : (w.alloc (.cells #[.int .i64 2, .int .i64 0, .int .i64 2, .int .i64 1, .int .i64 3, .int .i64 0] 35)).heap.size = w.heap.size + 1 := by simp
  generalize w.alloc (.cells #[.int .i64 2, .int .i64 0, .int .i64 2, .int .i64 1, .int .i64 3, .int .i64 0] 35) = w1 at *
  have B1 := hide b1
  have L1 : Hid (Lies w1 w1.heap.size (some ⟨w.heap.size, 0, none⟩) (rowQ awL)) := hide n1
  generalize hq : w.heap.size = q at *
  clear n1 b1
  obtain ⟨n2, b2⟩ := newV w1 #[.int .i64 2, .int .i64 3] 3
  rw [z1] at n2
  generalize w1.alloc (.cells #[.int .i64 2, .int .i64 3] 3) = w2 at *
  have B2 := hide (B1.out.trans (b2.mono (by omega)))
  replace L1 := hide (goV L1.out b2)
  have N2 : Hid (Lies w2 w2.heap.size (some ⟨q + 1, 0, none⟩) (nums .i64 [2, 3])) := hide n2
  clear n2 b2 z1
  have F3 : Hid (Calls Try.prog 7 #[.slice (some ⟨q + 1, 0, none⟩) 2 2, .slice (some ⟨q, 0, none⟩) 3 3, .int .i64 4] w2 fun e w' => e = .returned (.tuple #[.int .i64 3, .bool true]) ∧ Below w2.heap.size w2 w') := hide (by
    have := pick_any (some ⟨q + 1, 0, none⟩) (some ⟨q, 0, none⟩) 2 3 [2, 3] awL 4 w2 N2.out L1.out (awEnv _ (by decide) aw23)
    rw [awAns] at this
    exact this)
  (refine F3.out.mono ?_); rintro e w3 ⟨rfl, b3⟩
  have B3 := hide (B2.out.trans (b3.mono (by have := B2.out.size; omega)))
  replace L1 := hide (goV L1.out b3)
  clear b3 N2 F3
  go_wp2_with fail
  have F4 : Hid (Calls Try.prog 10 #[.slice (some ⟨q, 0, none⟩) 3 3, .int .i64 2, .int .i64 4] w3 fun e w' => e = .returned (.int .i64 2) ∧ Below w3.heap.size w3 w') := hide (by
    have := gainX_any (some ⟨q, 0, none⟩) 3 awL 2 4 w3 L1.out (by decide) HO.out.1 HO.out.2
    rw [awGain] at this
    exact this)
  (refine F4.out.mono ?_); rintro e w4 ⟨rfl, b4⟩
  have B4 := hide (B3.out.trans (b4.mono (by have := B3.out.size; omega)))
  replace L1 := hide (goV L1.out b4)
  clear b4 F4
  go_wp2_with fail
  obtain ⟨n5, b5⟩ := newV w4 #[.int .i64 2, .int .i64 3, .int .i64 5] 3
  generalize w4.alloc (.cells #[.int .i64 2, .int .i64 3, .int .i64 5] 3) = w5 at *
  generalize hq5 : w4.heap.size = q5 at n5 ⊢
  have B5 := hide (B4.out.trans (b5.mono (by rw [hq5]; have := B4.out.size; omega)))
  replace L1 := hide (goV L1.out (by rw [hq5] at b5; rw [hq5]; exact b5))
  have N5 : Hid (Lies w5 w5.heap.size (some ⟨q5, 0, none⟩) (nums .i64 [2, 3, 5])) := hide n5
  clear n5 b5 hq5
  have F6 : Hid (Calls Try.prog 11 #[.slice (some ⟨q5, 0, none⟩) 3 3, .slice (some ⟨q, 0, none⟩) 3 3] w5 fun e w' => ∃ (v : Value) (R : List Int), e = .returned v ∧ R.Perm [2, 3, 5] ∧ (R.Pairwise fun x y => ltV awL y x = false) ∧ w'.ownsRow w5.heap.size 3 1 v R.length (nums .i64 R) ∧ Below w5.heap.size w5 w') := hide (order_any (some ⟨q5, 0, none⟩) (some ⟨q, 0, none⟩) 3 3 [2, 3, 5] awL w5 N5.out L1.out (awEnv _ (by decide) aw235) (by decide))
  (refine F6.out.mono ?_); rintro e w6 ⟨v, R, rfl, h1, h2, h3, b6⟩
  obtain rfl := awOrder h1 h2
  obtain ⟨A6, c6, rfl, _⟩ := own_form h3
  have B6 := hide (B5.out.trans (b6.mono (by have := B5.out.size; omega)))
  replace L1 := hide (goV L1.out b6)
  have N6 : Hid (Lies w6 w6.heap.size A6 (nums .i64 [5, 3, 2])) := hide (LiesB.of_own h3).lies
  clear b6 h1 h2 h3 N5 F6
  go_wp2_with fail
  obtain ⟨n7, b7⟩ := newV w6 #[.int .i64 5, .int .i64 3, .int .i64 2] 3
  generalize w6.alloc (.cells #[.int .i64 5, .int .i64 3, .int .i64 2] 3) = w7 at *
  have B7 := hide (B6.out.trans (b7.mono (by have := B6.out.size; omega)))
  replace L1 := hide (goV L1.out b7)
  have F8 : Hid (Calls Try.prog 14 #[.slice A6 3 c6, .slice (some ⟨w6.heap.size, 0, none⟩) 3 3] w7 fun e w' => e = .returned (.bool true) ∧ Below w7.heap.size w7 w') := hide (by
    have := ints21 A6 (some ⟨w6.heap.size, 0, none⟩) 3 c6 3 3 w7.heap.size [5, 3, 2] [5, 3, 2] w7 (goV N6.out b7) rfl n7 rfl (by decide) (Nat.le_refl _)
    exact this)
  clear n7 b7 N6
  generalize w6.heap.size = q7 at *
  (refine F8.out.mono ?_); rintro e w8 ⟨rfl, b8⟩
  have B8 := hide (B7.out.trans (b8.mono (by have := B7.out.size; omega)))
  replace L1 := hide (goV L1.out b8)
  clear b8 F8
  go_wp2_with fail
  obtain ⟨n9, b9⟩ := newV w8 #[.int .i64 2, .int .i64 3] 3
  generalize w8.alloc (.cells #[.int .i64 2, .int .i64 3] 3) = w9 at *
  have B9 := hide (B8.out.trans (b9.mono (by have := B8.out.size; omega)))
  replace L1 := hide (goV L1.out b9)
  generalize w8.heap.size = q9 at *
  have N9 : Hid (Lies w9 w9.heap.size (some ⟨q9, 0, none⟩) (nums .i64 [2, 3])) := hide n9
  clear n9 b9
  have F10 : Hid (Calls Try.prog 13 #[.slice (some ⟨q9, 0, none⟩) 2 2, .slice (some ⟨q, 0, none⟩) 3 3, .int .i64 4] w9 fun e w' => e = .returned (.int .i64 5) ∧ Below w9.heap.size w9 w') := hide (by
    have := total_any (some ⟨q9, 0, none⟩) (some ⟨q, 0, none⟩) 2 3 [2, 3] awL 4 w9 N9.out L1.out (awEnv _ (by decide) aw23) (by decide) HO.out.2 (by decide)
    rw [show [(2 : Int), 3].length = 2 from rfl, awTot] at this
    exact this)
  (refine F10.out.mono ?_); rintro e w10 ⟨rfl, b10⟩
  have B10 := hide (B9.out.trans (b10.mono (by have := B9.out.size; omega)))
  clear b10 F10 N9 L1
  go_wp2
  go_ret
  exact ⟨rfl, by rw [hq]; exact B10.out⟩
end Vc
end Go.Proofs.Ytabancgcokcfdaa
