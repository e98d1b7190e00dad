/-
  CONTRACT of geom.Place; a page in its box.
-/
import Derived.Test.YtppecnimpnlipaaGeoB
namespace Go.Proofs.Ytppecnimpnlipaa
open Go.RowKit

/-- Is there such a page? -/
def Gm.Has (g : Gm) (x y : Int) : Prop := 0 ≤ x ∧ x ≤ g.b - 1 ∧ 0 ≤ y ∧ y ≤ g.p - 1
instance (g : Gm) (x y : Int) : Decidable (g.Has x y) := by unfold Gm.Has; infer_instance
def Gm.place (g : Gm) (x y : Int) : Int := if g.Right ∧ g.Has x y then x * g.p + y else -1
theorem Gm.place_ok {g : Gm} {x y : Int} (h : g.Right) (h2 : g.Has x y) : g.place x y = x * g.p + y := if_pos ⟨h, h2⟩
theorem Gm.place_not {g : Gm} {x y : Int} (h : ¬ g.Right) : g.place x y = -1 := if_neg fun h2 => h h2.1
theorem Gm.place_none {g : Gm} {x y : Int} (h : ¬ g.Has x y) : g.place x y = -1 := if_neg fun h2 => h h2.2

/-- A page in its box. -/
def BoxedP (x y : Int) (k : Nat) (w : World) : Prop := w.heap[k]? = some (.cells #[.int .i64 x, .int .i64 y] 39 (0, 0))
theorem BoxedP.below {x y : Int} {k B : Nat} {w w' : World} (h : BoxedP x y k w) (hb : Below B w w') (hk : k < B) : BoxedP x y k w' := (hb.block k hk).trans h
theorem BoxedP.free {x y : Int} {k : Nat} {w : World} (h : BoxedP x y k w) (j : Nat) : w.frozen? ⟨k, j, none⟩ = false := frozen_of_row w k j _ _ h
theorem BoxedP.new (x y : Int) (w : World) : BoxedP x y w.heap.size (w.alloc (.cells #[.int .i64 x, .int .i64 y] 39)) := heap_alloc_new w _
theorem BoxedP.x {x y : Int} {k : Nat} {w : World} (h : BoxedP x y k w) : w.cell? ⟨k, 0, none⟩ = some (.int .i64 x) := by
  exact World.news_of_block h 0 _ rfl
theorem BoxedP.y {x y : Int} {k : Nat} {w : World} (h : BoxedP x y k w) : w.cell? ⟨k, 1, none⟩ = some (.int .i64 y) := by
  exact World.news_of_block h 1 _ rfl

set_option maxHeartbeats 2000000 in
theorem place_any (g : Gm) (x y : Int) (w : World) : Calls Try.prog 72 #[g.val, .agg #[.int .i64 x, .int .i64 y]] w fun e w' => e = .returned (.int .i64 (g.place x y)) ∧ Below w.heap.size w w' := by
  have Hc := hide (check_any g)
  have Hb0 := hide (((Below.refl w.heap.size w).alloc (Nat.le_refl _) (.cells #[.int .i64 g.b, .int .i64 g.p, .int .i64 g.r] 23)).alloc (by simp) (.cells #[.int .i64 x, .int .i64 y] 39))
  have Hx := hide ((Boxed.new g w).below ((Below.refl (w.heap.size + 1) (w.alloc (.cells #[.int .i64 g.b, .int .i64 g.p, .int .i64 g.r] 23))).alloc (by simp) (.cells #[.int .i64 x, .int .i64 y] 39)) (by omega))
  have Hy := hide (BoxedP.new x y (w.alloc (.cells #[.int .i64 g.b, .int .i64 g.p, .int .i64 g.r] 23)))
  rw [show (w.alloc (.cells #[.int .i64 g.b, .int .i64 g.p, .int .i64 g.r] 23)).heap.size = w.heap.size + 1 by simp] at Hy
  by_cases h : g.Right
  · rw [Gm.check_ok h] at Hc
    have hp1 := fun h2 => Gm.place_ok (x := x) (y := y) h h2
    have hp2 := fun h2 => Gm.place_none (g := g) (x := x) (y := y) h2
    unfold Gm.Has at hp1 hp2
    obtain ⟨h1, h2, h3, h4, _⟩ := h
    generalize g.place x y = z at *
    rcases g with ⟨b, p, r⟩
    unfold Gm.val at *
    simp only at *
    have f1 := within_any x 0 (b - 1)
    have f2 := within_any y 0 (p - 1)
    have e1 : wrap64 (b - 1) = b - 1 := gwr64 (by omega)
    have e2 : wrap64 (p - 1) = p - 1 := gwr64 (by omega)
    by_cases hx : 0 ≤ x ∧ x ≤ b - 1
    · rw [decide_eq_true hx] at f1
      by_cases hy : 0 ≤ y ∧ y ≤ p - 1
      · rw [decide_eq_true hy] at f2
        have Hz := hide (hp1 ⟨hx.1, hx.2, hy.1, hy.2⟩)
        have hm := mul_within (y := x) (p := p) (by omega) (by omega) (by omega) h4
        have e3 : wrap64 (x * p) = x * p := gwr64 (by omega)
        have e4 : wrap64 (x * p + y) = x * p + y := gwr64 (by omega)
        clear hp1 hp2 hx hy hm
        go_enter Try.func72, Try.ntmps72
        go_wp2_with fail
        (with_reducible refine (Hc.out _).mono ?_)
        rintro e w1 ⟨rfl, hb⟩
        have Hb := hide (Hb0.out.trans (hb.mono (by simp; omega)))
        have cb := (Hx.out.below hb (by simp; omega)).b
        have cp := (Hx.out.below hb (by simp; omega)).p
        have cx := (Hy.out.below hb (by simp)).x
        have cy := (Hy.out.below hb (by simp)).y
        try simp only at cb cp
        clear hb Hc Hx Hy Hb0
        go_wp2_with (first | (go_at_call 70; (with_reducible refine (f1 _).mono ?_); rintro e w2 ⟨rfl, rfl⟩; clear f1) | (go_at_call 70; (with_reducible refine (f2 _).mono ?_); rintro e w2 ⟨rfl, rfl⟩; clear f2))
        go_ret
        exact ⟨gret_int (by rw [Hz.out, e4]), Hb.out⟩
      · rw [decide_eq_false hy] at f2
        have Hz := hide (hp2 (fun h => hy ⟨h.2.2.1, h.2.2.2⟩))
        clear hp1 hp2 hx hy
        go_enter Try.func72, Try.ntmps72
        go_wp2_with fail
        (with_reducible refine (Hc.out _).mono ?_)
        rintro e w1 ⟨rfl, hb⟩
        have Hb := hide (Hb0.out.trans (hb.mono (by simp; omega)))
        have cb := (Hx.out.below hb (by simp; omega)).b
        have cp := (Hx.out.below hb (by simp; omega)).p
        have cx := (Hy.out.below hb (by simp)).x
        have cy := (Hy.out.below hb (by simp)).y
        try simp only at cb cp
        clear hb Hc Hx Hy Hb0
        go_wp2_with (first | (go_at_call 70; (with_reducible refine (f1 _).mono ?_); rintro e w2 ⟨rfl, rfl⟩; clear f1) | (go_at_call 70; (with_reducible refine (f2 _).mono ?_); rintro e w2 ⟨rfl, rfl⟩; clear f2))
        go_ret
        exact ⟨gret_int (by rw [Hz.out]), Hb.out⟩
    · rw [decide_eq_false hx] at f1
      have Hz := hide (hp2 (fun h => hx ⟨h.1, h.2.1⟩))
      clear hp1 hp2 hx
      go_enter Try.func72, Try.ntmps72
      go_wp2_with fail
      (with_reducible refine (Hc.out _).mono ?_)
      rintro e w1 ⟨rfl, hb⟩
      have Hb := hide (Hb0.out.trans (hb.mono (by simp; omega)))
      have cb := (Hx.out.below hb (by simp; omega)).b
      have cp := (Hx.out.below hb (by simp; omega)).p
      have cx := (Hy.out.below hb (by simp)).x
      have cy := (Hy.out.below hb (by simp)).y
      try simp only at cb cp
      clear hb Hc Hx Hy Hb0
      go_wp2_with (first | (go_at_call 70; (with_reducible refine (f1 _).mono ?_); rintro e w2 ⟨rfl, rfl⟩; clear f1))
      go_ret
      exact ⟨gret_int (by rw [Hz.out]), Hb.out⟩
  · rw [Gm.place_not h]
    rw [Gm.check_not h] at Hc
    clear h
    unfold Gm.val at *
    go_enter Try.func72, Try.ntmps72
    go_wp2_with fail
    (with_reducible refine (Hc.out _).mono ?_)
    rintro e w1 ⟨rfl, hb⟩
    have Hb := hide hb
    clear hb Hc
    go_wp2
    go_ret
    exact ⟨rfl, Hb0.out.trans (Hb.out.mono (by simp; omega))⟩


end Go.Proofs.Ytppecnimpnlipaa
