/-
  LAYER 21: awake.
-/
import Derived.Test.YtpepifbdndcbjaaWrP
import Derived.Test.YtpepifbdndcbjaaWrR
namespace Go.Proofs.Ytpepifbdndcbjaa
open Go.RowKit
set_option maxRecDepth 8000

theorem one21 (w : World) (cs : Array Value) : Lies (w.alloc (.cells cs 3)) (w.alloc (.cells cs 3)).heap.size (some ⟨w.heap.size, 0, none⟩) cs.toList ∧ Below w.heap.size w (w.alloc (.cells cs 3)) := ⟨Lies.new w cs _ (0, 0) _ (by simp), (Below.refl _ _).alloc (Nat.le_refl _) _⟩
theorem two21 (w : World) (cs ds : Array Value) : Lies ((w.alloc (.cells cs 3)).alloc (.cells ds 3)) ((w.alloc (.cells cs 3)).alloc (.cells ds 3)).heap.size (some ⟨w.heap.size, 0, none⟩) cs.toList ∧
    Lies ((w.alloc (.cells cs 3)).alloc (.cells ds 3)) ((w.alloc (.cells cs 3)).alloc (.cells ds 3)).heap.size (some ⟨w.heap.size + 1, 0, none⟩) ds.toList ∧ Below w.heap.size w ((w.alloc (.cells cs 3)).alloc (.cells ds 3)) := by
  obtain ⟨h1, h2⟩ := one21 w cs
  obtain ⟨h3, h4⟩ := one21 (w.alloc (.cells cs 3)) ds
  refine ⟨h1.go21 h4, ?_, h2.trans (h4.mono h2.size)⟩
  rw [show (w.alloc (.cells cs 3)).heap.size = w.heap.size + 1 by simp] at h3
  exact h3
theorem topOf {cs : List Int} (h : ∀ x ∈ cs, decide (x ≤ 9223372036854775807) = true) : Top cs := fun x hx => of_decide_eq_true (h x hx)
theorem aw1 (w : World) : Calls Try.prog 7 #[.slice (some ⟨w.heap.size, 0, none⟩) 3 3, .slice (some ⟨w.heap.size + 1, 0, none⟩) 3 3] ((w.alloc (.cells #[.int .i64 0, .int .i64 1, .int .i64 2] 3)).alloc (.cells #[.int .i64 3, .int .i64 1, .int .i64 1] 3)) fun e w' => e = .returned (.tuple #[.int .i64 1, .bool true]) ∧ Below w.heap.size w w' := by
  obtain ⟨h1, h2, h3⟩ := two21 w #[.int .i64 0, .int .i64 1, .int .i64 2] #[.int .i64 3, .int .i64 1, .int .i64 1]
  refine (least21 _ _ 3 3 3 3 [0, 1, 2] [3, 1, 1] _ h1 h2 rfl rfl (by decide) (by decide)).mono ?_
  rintro e w' ⟨rfl, hb⟩
  exact ⟨rfl, h3.trans (hb.mono h3.size)⟩
theorem aw2 (w : World) : Calls Try.prog 13 #[.slice (some ⟨w.heap.size, 0, none⟩) 3 3, .slice (some ⟨w.heap.size + 1, 0, none⟩) 3 3] ((w.alloc (.cells #[.int .i64 0, .int .i64 1, .int .i64 2] 3)).alloc (.cells #[.int .i64 3, .int .i64 1, .int .i64 1] 3)) fun e w' => e = .returned (.int .i64 2) ∧ Below w.heap.size w w' := by
  obtain ⟨h1, h2, h3⟩ := two21 w #[.int .i64 0, .int .i64 1, .int .i64 2] #[.int .i64 3, .int .i64 1, .int .i64 1]
  refine (gap21 _ _ 3 3 3 3 [0, 1, 2] [3, 1, 1] _ h1 h2 rfl rfl (by decide) (by decide) (topOf (by decide))).mono ?_
  rintro e w' ⟨rfl, hb⟩
  exact ⟨by rw [show gapZ [3, 1, 1] [0, 1, 2] = 2 by decide], h3.trans (hb.mono h3.size)⟩
theorem aw3 (w : World) (b : Int) (r : Bool) (hr : mayZ [1, 0] [0, 1] b 1 = r) : Calls Try.prog 14 #[.slice (some ⟨w.heap.size, 0, none⟩) 2 2, .slice (some ⟨w.heap.size + 1, 0, none⟩) 2 2, .int .i64 b, .int .i64 1] ((w.alloc (.cells #[.int .i64 0, .int .i64 1] 3)).alloc (.cells #[.int .i64 1, .int .i64 0] 3)) fun e w' => e = .returned (.bool r) ∧ Below w.heap.size w w' := by
  obtain ⟨h1, h2, h3⟩ := two21 w #[.int .i64 0, .int .i64 1] #[.int .i64 1, .int .i64 0]
  refine (may21 _ _ 2 2 2 2 [0, 1] [1, 0] _ b 1 h1 h2 rfl rfl (by decide) (by decide) (topOf (by decide))).mono ?_
  rintro e w' ⟨rfl, hb⟩
  exact ⟨by rw [hr], h3.trans (hb.mono h3.size)⟩
set_option maxHeartbeats 2000000 in
theorem aw4 (w : World) : Calls Try.prog 20 #[.slice (some ⟨w.heap.size, 0, none⟩) 1 1, .int .i64 1] (w.alloc (.cells #[.int .i64 5] 3)) fun e w' => ∃ g, e = .returned (.slice (some ⟨g, 0, none⟩) 2 2) ∧ Lies w' w'.heap.size (some ⟨g, 0, none⟩) (nums .i64 [5, 1]) ∧ Below w.heap.size w w' := by
  obtain ⟨h1, h2⟩ := one21 w #[.int .i64 5]
  have F1 := hide (counted21 (some ⟨w.heap.size, 0, none⟩) 1 1 2 [5] _ h1 rfl (by decide) (by decide))
  rw [show cntZ [5] 2 = [5, 0] by decide, show ((2 : Nat) : Int) = 2 from rfl] at F1
  have HB := hide h2
  clear h1 h2
  go_enter Try.func20, Try.ntmps20
  go_wp2_with fail
  (with_reducible refine F1.out.mono ?_); rintro e w2 ⟨g, rfl, _, ho, hb⟩
  have F2 := hide (erase21 g 2 2 1 _ [5, 0] w2 ho rfl (by decide) (by decide) (by decide))
  rw [show incZ [5, 0] 1 = [5, 1] by decide, show ((1 : Nat) : Int) = 1 from rfl] at F2
  have HO := hide ho
  have HB2 := hide (HB.out.trans (hb.mono HB.out.size))
  clear ho hb F1
  go_wp2_with fail
  (with_reducible refine F2.out.mono ?_); rintro e w3 ⟨rfl, ho3, hg⟩
  have HO3 := hide ho3
  have HB3 := hide (HB2.out.grown hg HB2.out.size (fun q hq => by injection hq with hq; rw [← hq]; exact Nat.le_trans HB.out.size (own_at21 HO.out g rfl)))
  clear ho3 hg F2
  go_wp2
  go_ret
  exact ⟨g, rfl, Lies.of_own HO3.out, HB3.out⟩
theorem aw5 (w : World) : Calls Try.prog 17 #[.int .i64 2, .int .i64 1, .slice (some ⟨w.heap.size, 0, none⟩) 3 3] (w.alloc (.cells #[.int .i64 0, .int .i64 0, .int .i64 0] 3)) fun e w' => ∃ g, e = .returned (.slice (some ⟨g, 0, none⟩) 2 2) ∧ Lies w' w'.heap.size (some ⟨g, 0, none⟩) (nums .i64 [2, 1]) ∧ Below w.heap.size w w' := by
  obtain ⟨h1, h2⟩ := one21 w #[.int .i64 0, .int .i64 0, .int .i64 0]
  refine (play21 2 1 _ 3 3 [0, 0, 0] _ h1 rfl (by decide) (by decide) (by decide)).mono ?_
  rintro e w' ⟨g, rfl, ho, hb⟩
  rw [show playZ (max 1 1) 2 (List.replicate 2 0) [0, 0, 0] = [2, 1] by decide] at ho
  exact ⟨g, rfl, Lies.of_own ho, h2.trans (hb.mono h2.size)⟩
theorem aw6 (A : Option Addr) (x y : Int) (w : World) (hl : Lies w w.heap.size A (nums .i64 [x, y])) : Calls Try.prog 18 #[.slice A 2 2, .slice (some ⟨w.heap.size, 0, none⟩) 2 2] (w.alloc (.cells #[.int .i64 x, .int .i64 y] 3)) fun e w' => e = .returned (.bool true) ∧ Below w.heap.size w w' := by
  obtain ⟨h1, h2⟩ := one21 w #[.int .i64 x, .int .i64 y]
  refine (ints21 A (some ⟨w.heap.size, 0, none⟩) 2 2 2 2 _ [x, y] [x, y] _ (hl.go21 h2) rfl h1 rfl (by decide) (Nat.le_refl _)).mono ?_
  rintro e w' ⟨rfl, hb⟩
  exact ⟨by rw [decide_eq_true rfl], h2.trans (hb.mono h2.size)⟩
set_option maxHeartbeats 4000000 in
theorem awake21_any (w : World) : Calls Try.prog 6 #[] w fun e w' => e = .returned (.bool true) ∧ Below w.heap.size w w' := by
  go_enter Try.func6, Try.ntmps6
  go_wp2_with fail
  (with_reducible refine (aw1 _).mono ?_); rintro e w1 ⟨rfl, b1⟩
  have B1 := hide b1
  clear b1
  go_wp2_with fail
  (with_reducible refine (aw2 _).mono ?_); rintro e w2 ⟨rfl, b2⟩
  have B2 := hide (B1.out.trans (b2.mono B1.out.size))
  clear b2 B1
  go_wp2_with fail
  (with_reducible refine (aw4 _).mono ?_); rintro e w3 ⟨g3, rfl, hl, b3⟩
  have B3 := hide (B2.out.trans (b3.mono B2.out.size))
  have F3 := hide (aw6 _ 5 1 w3 hl)
  clear b3 B2 hl
  go_wp2_with fail
  (with_reducible refine F3.out.mono ?_); rintro e w4 ⟨rfl, b4⟩
  have B4 := hide (B3.out.trans (b4.mono B3.out.size))
  clear b4 B3 F3
  go_wp2_with fail
  (with_reducible refine (aw3 _ 1 true (by decide)).mono ?_); rintro e w5 ⟨rfl, b5⟩
  have B5 := hide (B4.out.trans (b5.mono B4.out.size))
  clear b5 B4
  go_wp2_with fail
  (with_reducible refine (aw3 _ 0 false (by decide)).mono ?_); rintro e w6 ⟨rfl, b6⟩
  have B6 := hide (B5.out.trans (b6.mono B5.out.size))
  clear b6 B5
  go_wp2_with fail
  (with_reducible refine (aw5 _).mono ?_); rintro e w7 ⟨g7, rfl, hl, b7⟩
  have B7 := hide (B6.out.trans (b7.mono B6.out.size))
  have F7 := hide (aw6 _ 2 1 w7 hl)
  clear b7 B6 hl
  go_wp2_with fail
  (with_reducible refine F7.out.mono ?_); rintro e w8 ⟨rfl, b8⟩
  have B8 := hide (B7.out.trans (b8.mono B7.out.size))
  clear b8 B7 F7
  go_wp2
  go_ret
  exact ⟨rfl, B8.out⟩
end Go.Proofs.Ytpepifbdndcbjaa
