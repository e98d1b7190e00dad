/-
  LAYER 13's awake, walked.
-/
import Derived.Test.YtfogjnnklneepaaGeo4
namespace Go.Proofs.Ytfogjnnklneepaa
open Go.RowKit

def mid : Gm := ⟨16, 8, 2⟩
theorem mid_right : mid.Right := by decide
theorem mid_good : badN 16 [2, 2, 0] = 1 := by decide +kernel
theorem mid_none : badN 16 [] = 0 := badN_nil _
theorem mid_at : mid.at_ 17 = (2, 1, 0) := by decide
theorem mid_place : mid.place 2 1 = 17 := by decide
theorem mid_logical : mid.logical [] = 64 := by
  rw [Gm.logical_ok mid_right, Gm.good_ok mid_right, badN_nil]; rfl
theorem mid_budget : mid.budget [] = 63 := by
  unfold Gm.budget; rw [mid_logical]; rfl
theorem mid_13 : mid.good [2, 2, 0] = 13 := by
  rw [Gm.good_ok mid_right, show mid.b = 16 from rfl, mid_good]; rfl

/-- What awake keeps: the sides in block k, the page in block q. -/
structure AwSt (w : World) (k q : Nat) (W : World) : Prop where
  below : Below w.heap.size w W
  box : Boxed mid k W
  boxp : BoxedP 2 1 q W
  hk : k < W.heap.size
  hq : q < W.heap.size
theorem AwSt.next {w W W' : World} {k q : Nat} (h : AwSt w k q W) (hb : Below W.heap.size W W') : AwSt w k q W' :=
  ⟨h.below.trans (hb.mono h.below.size), h.box.below hb h.hk, h.boxp.below hb h.hq, Nat.lt_of_lt_of_le h.hk hb.size, Nat.lt_of_lt_of_le h.hq hb.size⟩
theorem AwSt.cells {w W : World} {k q : Nat} (h : AwSt w k q W) : W.cell? ⟨k, 0, none⟩ = some (.int .i64 16) ∧ W.cell? ⟨k, 1, none⟩ = some (.int .i64 8) ∧ W.cell? ⟨k, 2, none⟩ = some (.int .i64 2) ∧ W.cell? ⟨q, 0, none⟩ = some (.int .i64 2) ∧ W.cell? ⟨q, 1, none⟩ = some (.int .i64 1) :=
  ⟨h.box.b, h.box.p, h.box.r, h.boxp.x, h.boxp.y⟩

set_option maxHeartbeats 4000000 in
theorem awake13_any (w : World) : Calls Try.prog 5 #[] w fun e w' => e = .returned (.bool true) ∧ Below w.heap.size w w' := by
  have hAt := fun W => at_any mid 17 W
  have hCheck := fun W => check_any mid W
  have hLog := fun W => logical_any mid none 0 0 0 [] W (.inl rfl) rfl (by decide) (Nat.zero_le _)
  have hBud := fun W => budget_any mid none 0 0 0 [] W (.inl rfl) rfl (by decide) (Nat.zero_le _)
  have hGood := fun W A c B (hl : Lies W B A (i64s [2, 2, 0])) (hB : B ≤ W.heap.size) => good_any mid A 3 c B [2, 2, 0] W hl rfl (by decide) hB
  have hCost := fun W => cost_any 3192 W (by decide)
  have hPlace := fun W => place_any mid 2 1 W
  rw [mid_at] at hAt
  rw [Gm.check_ok mid_right] at hCheck
  rw [mid_logical] at hLog
  rw [mid_budget] at hBud
  rw [mid_13] at hGood
  rw [show pagesZ 3192 + 1 = 15 by decide] at hCost
  rw [mid_place] at hPlace
  have hmv : mid.val = .agg #[.int .i64 16, .int .i64 8, .int .i64 2] := rfl
  rw [hmv] at hAt hCheck hLog hBud hGood hPlace
  simp only [atV] at hAt
  clear hmv
  go_enter Try.func5, Try.ntmps5
  go_wp2_with fail
  (with_reducible refine (hAt _).mono ?_)
  rintro e w1 ⟨rfl, hb⟩
  have Hb := hide hb
  clear hb hAt
  have hz1 := Hb.out.size
  have S1 := hide (show AwSt w w.heap.size w1.heap.size (w1.alloc (.cells #[.int .i64 2, .int .i64 1] 28)) from by
    have hb := Hb.out
    have h0 := (Below.refl w.heap.size w).alloc (Nat.le_refl _) (.cells #[.int .i64 16, .int .i64 8, .int .i64 2] 26)
    have h1 := h0.trans (hb.mono (by simp))
    have hx := (Boxed.new mid w).below hb (by simp)
    have hz : w.heap.size < w1.heap.size := by simp at hz1; omega
    exact ⟨h1.alloc (by omega) _, hx.below ((Below.refl w1.heap.size w1).alloc (Nat.le_refl _) _) hz, BoxedP.new 2 1 w1, by simp; omega, by simp⟩)
  clear Hb hz1
  generalize hw2 : w1.alloc (.cells #[.int .i64 2, .int .i64 1] 28) = w2 at *
  have HW := hide hw2
  clear hw2
  obtain ⟨c0, c1, c2, c3, c4⟩ := S1.out.cells
  have hv := HW.out
  go_wp2_with fail
  clear c0 c1 c2 c3 c4 hv
  (with_reducible refine (hCheck _).mono ?_)
  rintro e w3 ⟨rfl, hb⟩
  have S2 := hide (S1.out.next hb)
  clear hb hCheck S1 HW
  obtain ⟨c0, c1, c2, c3, c4⟩ := S2.out.cells
  go_wp2_with fail
  clear c0 c1 c2 c3 c4
  (with_reducible refine (hLog _).mono ?_)
  rintro e w4 ⟨rfl, hb⟩
  have S3 := hide (S2.out.next hb)
  clear hb hLog S2
  obtain ⟨c0, c1, c2, c3, c4⟩ := S3.out.cells
  go_wp2_with fail
  clear c0 c1 c2 c3 c4
  (with_reducible refine (hBud _).mono ?_)
  rintro e w5 ⟨rfl, hb⟩
  have S4 := hide (S3.out.next hb)
  clear hb hBud S3
  obtain ⟨c0, c1, c2, c3, c4⟩ := S4.out.cells
  go_wp2_with fail
  clear c0 c1 c2 c3 c4
  have fp := hGood _ (some ⟨w5.heap.size, 0, none⟩) 3 (w5.heap.size + 1) (Lies.new w5 #[.int .i64 2, .int .i64 2, .int .i64 0] 3 (0, 0) _ (Nat.lt_succ_self _)) (by simp)
  (with_reducible refine fp.mono ?_)
  rintro e w6 ⟨rfl, hb⟩
  have S5 := hide ((S4.out.next ((Below.refl _ _).alloc (Nat.le_refl _) _)).next hb)
  clear hb hGood S4 fp
  obtain ⟨c0, c1, c2, c3, c4⟩ := S5.out.cells
  go_wp2_with fail
  (with_reducible refine (hCost _).mono ?_)
  rintro e w7 ⟨rfl, rfl⟩
  clear hCost
  go_wp2_with fail
  clear c0 c1 c2 c3 c4
  (with_reducible refine (hPlace _).mono ?_)
  rintro e w7 ⟨rfl, hb⟩
  have S6 := hide (S5.out.next hb)
  clear hb hPlace S5
  go_wp2
  go_ret
  exact ⟨rfl, S6.out.below⟩

end Go.Proofs.Ytfogjnnklneepaa
