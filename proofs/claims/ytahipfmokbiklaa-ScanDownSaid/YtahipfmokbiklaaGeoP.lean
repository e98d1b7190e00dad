/-
  SIDES OF DEVICES, plain mathematics: which may be, how many of their blocks are bad, how many pages bytes need.
  CONTRACTS of package geom: within, Check; the reference's Right.
  SIDES IN THEIR BOX; numbers as cells.
  CONTRACT of geom.Place; a page in its box.
-/
import Derived.Test.YtahipfmokbiklaaWords
import Derived.Test.YtahipfmokbiklaaProg
import Derived.IntWalk
import Derived.OneCell
import Derived.WalkSmall
namespace Go.Proofs.Ytahipfmokbiklaa
section
open Go.RowKit

/-- A device's sides. -/
structure Gm where
  b : Int
  p : Int
  r : Int
def Gm.cells (g : Gm) : List Value := [.int .i64 g.b, .int .i64 g.p, .int .i64 g.r]
def Gm.val (g : Gm) : Value := .agg #[.int .i64 g.b, .int .i64 g.p, .int .i64 g.r]
/-- May they be? -/
def Gm.Right (g : Gm) : Prop := 8 ≤ g.b ∧ g.b ≤ 34 ∧ 4 ≤ g.p ∧ g.p ≤ 32 ∧ 0 ≤ g.r ∧ g.r ≤ 8
instance (g : Gm) : Decidable g.Right := by unfold Gm.Right; infer_instance
/-- Check's answer. -/
def Gm.check (g : Gm) : Int := if g.Right then 0 else 3

theorem Gm.check_ok {g : Gm} (h : g.Right) : g.check = 0 := if_pos h
theorem Gm.check_not {g : Gm} (h : ¬ g.Right) : g.check = 3 := if_neg h

/-- Is block k marked behind the numbers l? -/
def mark (B : Int) (l : List Int) (k : Nat) : Bool := decide (2 ≤ k ∧ (k : Int) ≤ B - 1 ∧ (k : Int) ∈ l)
/-- How many data blocks of B blocks are bad. -/
def badN (B : Int) (l : List Int) : Nat := ((List.range 34).filter (mark B l)).length

/-- How many data blocks are good; how many logical pages there are; how many of them bundles may have. -/
def Gm.good (g : Gm) (l : List Int) : Int := if g.Right then g.b - 2 - badN g.b l else 0
def Gm.logical (g : Gm) (l : List Int) : Int := if g.Right then max ((g.good l - g.r - 2) * g.p - 16) 0 else 0
end
section
open Go.RowKit

theorem gret_int {k : IntKind} {a b : Int} (h : a = b) : Ending.returned (.int k a) = .returned (.int k b) := by rw [h]
theorem within_any (z a b : Int) (w : World) : Calls Try.prog 67 #[.int .i64 z, .int .i64 a, .int .i64 b] w fun e w' => e = .returned (.bool (decide (a ≤ z ∧ z ≤ b))) ∧ w = w' := by
  by_cases h1 : a ≤ z
  · by_cases h2 : z ≤ b
    · rw [decide_eq_true (And.intro h1 h2)]
      go_enter Try.func67, Try.ntmps67
      go_wp2
      go_ret
      exact ⟨rfl, rfl⟩
    · rw [decide_eq_false (fun h => h2 h.2)]
      go_enter Try.func67, Try.ntmps67
      go_wp2
      go_ret
      exact ⟨rfl, rfl⟩
  · rw [decide_eq_false (fun h => h1 h.1)]
    go_enter Try.func67, Try.ntmps67
    go_wp2
    go_ret
    exact ⟨rfl, rfl⟩

theorem check_any (g : Gm) (w : World) : Calls Try.prog 42 #[g.val] w fun e w' => e = .returned (.int .i64 g.check) ∧ Below w.heap.size w w' := by
  rcases g with ⟨b, p, r⟩
  have Hb := hide (fun o => (Below.refl w.heap.size w).alloc (Nat.le_refl _) o)
  have f1 := within_any b 8 34
  have f2 := within_any p 4 32
  have f3 := within_any r 0 8
  unfold Gm.val
  simp only
  by_cases h1 : 8 ≤ b ∧ b ≤ 34
  · rw [decide_eq_true h1] at f1
    by_cases h2 : 4 ≤ p ∧ p ≤ 32
    · rw [decide_eq_true h2] at f2
      by_cases h3 : 0 ≤ r ∧ r ≤ 8
      · rw [decide_eq_true h3] at f3
        rw [Gm.check_ok (show Gm.Right ⟨b, p, r⟩ from ⟨h1.1, h1.2, h2.1, h2.2, h3.1, h3.2⟩)]
        clear h1 h2 h3
        go_enter Try.func42, Try.ntmps42
        go_wp2_with (first
          | (go_at_call 67; (with_reducible refine (f1 _).mono ?_); rintro e w1 ⟨rfl, rfl⟩; clear f1)
          | (go_at_call 67; (with_reducible refine (f2 _).mono ?_); rintro e w1 ⟨rfl, rfl⟩; clear f2)
          | (go_at_call 67; (with_reducible refine (f3 _).mono ?_); rintro e w1 ⟨rfl, rfl⟩; clear f3))
        go_ret
        exact ⟨rfl, Hb.out _⟩
      · rw [decide_eq_false h3] at f3
        rw [Gm.check_not (show ¬ Gm.Right ⟨b, p, r⟩ from fun h => h3 ⟨h.2.2.2.2.1, h.2.2.2.2.2⟩)]
        clear h1 h2 h3
        go_enter Try.func42, Try.ntmps42
        go_wp2_with (first
          | (go_at_call 67; (with_reducible refine (f1 _).mono ?_); rintro e w1 ⟨rfl, rfl⟩; clear f1)
          | (go_at_call 67; (with_reducible refine (f2 _).mono ?_); rintro e w1 ⟨rfl, rfl⟩; clear f2)
          | (go_at_call 67; (with_reducible refine (f3 _).mono ?_); rintro e w1 ⟨rfl, rfl⟩; clear f3))
        go_ret
        exact ⟨rfl, Hb.out _⟩
    · rw [decide_eq_false h2] at f2
      rw [Gm.check_not (show ¬ Gm.Right ⟨b, p, r⟩ from fun h => h2 ⟨h.2.2.1, h.2.2.2.1⟩)]
      clear h1 h2
      go_enter Try.func42, Try.ntmps42
      go_wp2_with (first
        | (go_at_call 67; (with_reducible refine (f1 _).mono ?_); rintro e w1 ⟨rfl, rfl⟩; clear f1)
        | (go_at_call 67; (with_reducible refine (f2 _).mono ?_); rintro e w1 ⟨rfl, rfl⟩; clear f2))
      go_ret
      exact ⟨rfl, Hb.out _⟩
  · rw [decide_eq_false h1] at f1
    rw [Gm.check_not (show ¬ Gm.Right ⟨b, p, r⟩ from fun h => h1 ⟨h.1, h.2.1⟩)]
    clear h1
    go_enter Try.func42, Try.ntmps42
    go_wp2_with (go_at_call 67; (with_reducible refine (f1 _).mono ?_); rintro e w1 ⟨rfl, rfl⟩; clear f1)
    go_ret
    exact ⟨rfl, Hb.out _⟩

theorem gwr64 {n : Int} (h : -9223372036854775808 ≤ n ∧ n ≤ 9223372036854775807) : wrap64 n = n := by unfold wrap64; omega
theorem right13_any (g : Gm) (w : World) : Calls Try.prog 20 #[g.val] w fun e w' => e = .returned (.bool (decide g.Right)) ∧ Below w.heap.size w w' := by
  rcases g with ⟨b, p, r⟩
  have Hb := hide (fun o => (Below.refl w.heap.size w).alloc (Nat.le_refl _) o)
  unfold Gm.val
  simp only
  by_cases h : Gm.Right ⟨b, p, r⟩
  · rw [decide_eq_true h]
    obtain ⟨h1, h2, h3, h4, h5, h6⟩ := h
    simp only at h1 h2 h3 h4 h5 h6
    go_enter Try.func20, Try.ntmps20
    go_wp2
    go_ret
    exact ⟨rfl, Hb.out _⟩
  · rw [decide_eq_false h]
    by_cases h1 : 8 ≤ b
    · by_cases h2 : b ≤ 34
      · by_cases h3 : 4 ≤ p
        · by_cases h4 : p ≤ 32
          · by_cases h5 : 0 ≤ r
            · have h6 : ¬ r ≤ 8 := fun h6 => h ⟨h1, h2, h3, h4, h5, h6⟩
              clear h
              go_enter Try.func20, Try.ntmps20
              go_wp2
              go_ret
              exact ⟨rfl, Hb.out _⟩
            · clear h
              go_enter Try.func20, Try.ntmps20
              go_wp2
              go_ret
              exact ⟨rfl, Hb.out _⟩
          · clear h
            go_enter Try.func20, Try.ntmps20
            go_wp2
            go_ret
            exact ⟨rfl, Hb.out _⟩
        · clear h
          go_enter Try.func20, Try.ntmps20
          go_wp2
          go_ret
          exact ⟨rfl, Hb.out _⟩
      · clear h
        go_enter Try.func20, Try.ntmps20
        go_wp2
        go_ret
        exact ⟨rfl, Hb.out _⟩
    · clear h
      go_enter Try.func20, Try.ntmps20
      go_wp2
      go_ret
      exact ⟨rfl, Hb.out _⟩
end
section
open Go.RowKit

/-- Numbers as cells. -/
def i64s (l : List Int) : List Value := l.map fun z => .int .i64 z
theorem i64s_len (l : List Int) : (i64s l).length = l.length := by simp [i64s]
theorem Lies.int {w : World} {B : Nat} {A : Option Addr} {l : List Int} {k : Nat} (h : Lies w B A (i64s l)) (hk : k < l.length) : ∃ a, A = some a ∧ a.block < B ∧ w.cell? (a.add k) = some (.int .i64 (l[k]'hk)) := by
  obtain ⟨a, hA, hb, hc⟩ := h.at_ (k := k) (by rw [i64s_len]; exact hk)
  exact ⟨a, hA, hb, hc.trans (by simp [i64s])⟩

/-- The sides in their box. -/
def Boxed (g : Gm) (k : Nat) (w : World) : Prop := ∃ fr, w.heap[k]? = some (.cells #[.int .i64 g.b, .int .i64 g.p, .int .i64 g.r] 23 fr)
theorem Boxed.below {g : Gm} {k B : Nat} {w w' : World} (h : Boxed g k w) (hb : Below B w w') (hk : k < B) : Boxed g k w' := by
  obtain ⟨fr, h⟩ := h
  exact ⟨fr, (hb.block k hk).trans h⟩
theorem Boxed.new (g : Gm) (w : World) : Boxed g w.heap.size (w.alloc (.cells #[.int .i64 g.b, .int .i64 g.p, .int .i64 g.r] 23)) := ⟨_, heap_alloc_new w _⟩
theorem Boxed.b {g : Gm} {k : Nat} {w : World} (h : Boxed g k w) : w.cell? ⟨k, 0, none⟩ = some (.int .i64 g.b) := by
  obtain ⟨fr, h⟩ := h; exact World.news_of_block h 0 _ rfl
theorem Boxed.p {g : Gm} {k : Nat} {w : World} (h : Boxed g k w) : w.cell? ⟨k, 1, none⟩ = some (.int .i64 g.p) := by
  obtain ⟨fr, h⟩ := h; exact World.news_of_block h 1 _ rfl
theorem Boxed.r {g : Gm} {k : Nat} {w : World} (h : Boxed g k w) : w.cell? ⟨k, 2, none⟩ = some (.int .i64 g.r) := by
  obtain ⟨fr, h⟩ := h; exact World.news_of_block h 2 _ rfl

theorem mul_within {y p : Int} (h1 : -100 ≤ y) (h2 : y ≤ 100) (h3 : 0 ≤ p) (h4 : p ≤ 32) : -3200 ≤ y * p ∧ y * p ≤ 3200 := by
  have a := Int.mul_le_mul_of_nonneg_right h1 h3
  have b := Int.mul_le_mul_of_nonneg_right h2 h3
  omega
end
section
open Go.RowKit

/-- Is there such a page? -/
def Gm.Has (g : Gm) (x y : Int) : Prop := 0 ≤ x ∧ x ≤ g.b - 1 ∧ 0 ≤ y ∧ y ≤ g.p - 1
instance (g : Gm) (x y : Int) : Decidable (g.Has x y) := by unfold Gm.Has; infer_instance
def Gm.place (g : Gm) (x y : Int) : Int := if g.Right ∧ g.Has x y then x * g.p + y else -1
theorem Gm.place_ok {g : Gm} {x y : Int} (h : g.Right) (h2 : g.Has x y) : g.place x y = x * g.p + y := if_pos ⟨h, h2⟩
theorem Gm.place_not {g : Gm} {x y : Int} (h : ¬ g.Right) : g.place x y = -1 := if_neg fun h2 => h h2.1
theorem Gm.place_none {g : Gm} {x y : Int} (h : ¬ g.Has x y) : g.place x y = -1 := if_neg fun h2 => h h2.2

/-- A page in its box. -/
def BoxedP (x y : Int) (k : Nat) (w : World) : Prop := w.heap[k]? = some (.cells #[.int .i64 x, .int .i64 y] 46 (0, 0))
theorem BoxedP.below {x y : Int} {k B : Nat} {w w' : World} (h : BoxedP x y k w) (hb : Below B w w') (hk : k < B) : BoxedP x y k w' := (hb.block k hk).trans h
theorem BoxedP.free {x y : Int} {k : Nat} {w : World} (h : BoxedP x y k w) (j : Nat) : w.frozen? ⟨k, j, none⟩ = false := frozen_of_row w k j _ _ h
theorem BoxedP.new (x y : Int) (w : World) : BoxedP x y w.heap.size (w.alloc (.cells #[.int .i64 x, .int .i64 y] 46)) := heap_alloc_new w _
theorem BoxedP.x {x y : Int} {k : Nat} {w : World} (h : BoxedP x y k w) : w.cell? ⟨k, 0, none⟩ = some (.int .i64 x) := by
  exact World.news_of_block h 0 _ rfl
theorem BoxedP.y {x y : Int} {k : Nat} {w : World} (h : BoxedP x y k w) : w.cell? ⟨k, 1, none⟩ = some (.int .i64 y) := by
  exact World.news_of_block h 1 _ rfl

set_option maxHeartbeats 2000000 in
theorem place_any (g : Gm) (x y : Int) (w : World) : Calls Try.prog 69 #[g.val, .agg #[.int .i64 x, .int .i64 y]] w fun e w' => e = .returned (.int .i64 (g.place x y)) ∧ Below w.heap.size w w' := by
  have Hc := hide (check_any g)
  have Hb0 := hide (((Below.refl w.heap.size w).alloc (Nat.le_refl _) (.cells #[.int .i64 g.b, .int .i64 g.p, .int .i64 g.r] 23)).alloc (by simp) (.cells #[.int .i64 x, .int .i64 y] 46))
  have Hx := hide ((Boxed.new g w).below ((Below.refl (w.heap.size + 1) (w.alloc (.cells #[.int .i64 g.b, .int .i64 g.p, .int .i64 g.r] 23))).alloc (by simp) (.cells #[.int .i64 x, .int .i64 y] 46)) (by omega))
  have Hy := hide (BoxedP.new x y (w.alloc (.cells #[.int .i64 g.b, .int .i64 g.p, .int .i64 g.r] 23)))
  rw [show (w.alloc (.cells #[.int .i64 g.b, .int .i64 g.p, .int .i64 g.r] 23)).heap.size = w.heap.size + 1 by simp] at Hy
  by_cases h : g.Right
  · rw [Gm.check_ok h] at Hc
    have hp1 := fun h2 => Gm.place_ok (x := x) (y := y) h h2
    have hp2 := fun h2 => Gm.place_none (g := g) (x := x) (y := y) h2
    unfold Gm.Has at hp1 hp2
    obtain ⟨h1, h2, h3, h4, _⟩ := h
    generalize g.place x y = z at *
    rcases g with ⟨b, p, r⟩
    unfold Gm.val at *
    simp only at *
    have f1 := within_any x 0 (b - 1)
    have f2 := within_any y 0 (p - 1)
    have e1 : wrap64 (b - 1) = b - 1 := gwr64 (by omega)
    have e2 : wrap64 (p - 1) = p - 1 := gwr64 (by omega)
    by_cases hx : 0 ≤ x ∧ x ≤ b - 1
    · rw [decide_eq_true hx] at f1
      by_cases hy : 0 ≤ y ∧ y ≤ p - 1
      · rw [decide_eq_true hy] at f2
        have Hz := hide (hp1 ⟨hx.1, hx.2, hy.1, hy.2⟩)
        have hm := mul_within (y := x) (p := p) (by omega) (by omega) (by omega) h4
        have e3 : wrap64 (x * p) = x * p := gwr64 (by omega)
        have e4 : wrap64 (x * p + y) = x * p + y := gwr64 (by omega)
        clear hp1 hp2 hx hy hm
        go_enter Try.func69, Try.ntmps69
        go_wp2_with fail
        (with_reducible refine (Hc.out _).mono ?_)
        rintro e w1 ⟨rfl, hb⟩
        have Hb := hide (Hb0.out.trans (hb.mono (by simp; omega)))
        have cb := (Hx.out.below hb (by simp; omega)).b
        have cp := (Hx.out.below hb (by simp; omega)).p
        have cx := (Hy.out.below hb (by simp)).x
        have cy := (Hy.out.below hb (by simp)).y
        try simp only at cb cp
        clear hb Hc Hx Hy Hb0
        go_wp2_with (first | (go_at_call 67; (with_reducible refine (f1 _).mono ?_); rintro e w2 ⟨rfl, rfl⟩; clear f1) | (go_at_call 67; (with_reducible refine (f2 _).mono ?_); rintro e w2 ⟨rfl, rfl⟩; clear f2))
        go_ret
        exact ⟨gret_int (by rw [Hz.out, e4]), Hb.out⟩
      · rw [decide_eq_false hy] at f2
        have Hz := hide (hp2 (fun h => hy ⟨h.2.2.1, h.2.2.2⟩))
        clear hp1 hp2 hx hy
        go_enter Try.func69, Try.ntmps69
        go_wp2_with fail
        (with_reducible refine (Hc.out _).mono ?_)
        rintro e w1 ⟨rfl, hb⟩
        have Hb := hide (Hb0.out.trans (hb.mono (by simp; omega)))
        have cb := (Hx.out.below hb (by simp; omega)).b
        have cp := (Hx.out.below hb (by simp; omega)).p
        have cx := (Hy.out.below hb (by simp)).x
        have cy := (Hy.out.below hb (by simp)).y
        try simp only at cb cp
        clear hb Hc Hx Hy Hb0
        go_wp2_with (first | (go_at_call 67; (with_reducible refine (f1 _).mono ?_); rintro e w2 ⟨rfl, rfl⟩; clear f1) | (go_at_call 67; (with_reducible refine (f2 _).mono ?_); rintro e w2 ⟨rfl, rfl⟩; clear f2))
        go_ret
        exact ⟨gret_int (by rw [Hz.out]), Hb.out⟩
    · rw [decide_eq_false hx] at f1
      have Hz := hide (hp2 (fun h => hx ⟨h.1, h.2.1⟩))
      clear hp1 hp2 hx
      go_enter Try.func69, Try.ntmps69
      go_wp2_with fail
      (with_reducible refine (Hc.out _).mono ?_)
      rintro e w1 ⟨rfl, hb⟩
      have Hb := hide (Hb0.out.trans (hb.mono (by simp; omega)))
      have cb := (Hx.out.below hb (by simp; omega)).b
      have cp := (Hx.out.below hb (by simp; omega)).p
      have cx := (Hy.out.below hb (by simp)).x
      have cy := (Hy.out.below hb (by simp)).y
      try simp only at cb cp
      clear hb Hc Hx Hy Hb0
      go_wp2_with (first | (go_at_call 67; (with_reducible refine (f1 _).mono ?_); rintro e w2 ⟨rfl, rfl⟩; clear f1))
      go_ret
      exact ⟨gret_int (by rw [Hz.out]), Hb.out⟩
  · rw [Gm.place_not h]
    rw [Gm.check_not h] at Hc
    clear h
    unfold Gm.val at *
    go_enter Try.func69, Try.ntmps69
    go_wp2_with fail
    (with_reducible refine (Hc.out _).mono ?_)
    rintro e w1 ⟨rfl, hb⟩
    have Hb := hide hb
    clear hb Hc
    go_wp2
    go_ret
    exact ⟨rfl, Hb0.out.trans (Hb.out.mono (by simp; omega))⟩
end
end Go.Proofs.Ytahipfmokbiklaa
