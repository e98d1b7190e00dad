/-
  SIDES OF DEVICES, plain mathematics: which may be, how many of their blocks are bad, how many pages bytes need.
  CONTRACTS of package geom: within, Check; the reference's Right.
  SIDES IN THEIR BOX; numbers as cells.
  CONTRACT of geom.Place; a page in its box.
  What the program knows of its bytes; bytes turned into strings; small laws that every walk's end wants.
  CONTRACTS of bytes.Clone.
  Bits of bytes, as plain mathematics: how many are 0, what covers what, what masks leave. Nothing of any program.
-/
import Derived.Test.YtigpplckddnghaaGreatWords
import Derived.Test.YtigpplckddnghaaGreatProg
import Derived.IntWalk
import Derived.OneCell
import Derived.WalkSmall
import Derived.Deep.AppendLies
import Derived.Deep.RegionLaw
import Derived.Below
import Derived.Laws.BitsAllLaws
namespace Go.Proofs.YtigpplckddnghaaGreat
section
open Go.RowKit

/-- A device's sides. -/
structure Gm where
  b : Int
  p : Int
  r : Int
def Gm.cells (g : Gm) : List Value := [.int .i64 g.b, .int .i64 g.p, .int .i64 g.r]
def Gm.val (g : Gm) : Value := .agg #[.int .i64 g.b, .int .i64 g.p, .int .i64 g.r]
/-- May they be? -/
def Gm.Right (g : Gm) : Prop := 8 ≤ g.b ∧ g.b ≤ 34 ∧ 4 ≤ g.p ∧ g.p ≤ 32 ∧ 0 ≤ g.r ∧ g.r ≤ 8
instance (g : Gm) : Decidable g.Right := by unfold Gm.Right; infer_instance
/-- Check's answer. -/
def Gm.check (g : Gm) : Int := if g.Right then 0 else 3

theorem Gm.check_ok {g : Gm} (h : g.Right) : g.check = 0 := if_pos h
theorem Gm.check_not {g : Gm} (h : ¬ g.Right) : g.check = 3 := if_neg h

/-- Is block k marked behind the numbers l? -/
def mark (B : Int) (l : List Int) (k : Nat) : Bool := decide (2 ≤ k ∧ (k : Int) ≤ B - 1 ∧ (k : Int) ∈ l)
/-- The marks as cells. -/
def marks (B : Int) (l : List Int) : List Value := (List.range 34).map fun k => .bool (mark B l k)
end
section
open Go.RowKit

theorem gret_int {k : IntKind} {a b : Int} (h : a = b) : Ending.returned (.int k a) = .returned (.int k b) := by rw [h]
theorem within_any (z a b : Int) (w : World) : Calls Tryz.prog 70 #[.int .i64 z, .int .i64 a, .int .i64 b] w fun e w' => e = .returned (.bool (decide (a ≤ z ∧ z ≤ b))) ∧ w = w' := by
  by_cases h1 : a ≤ z
  · by_cases h2 : z ≤ b
    · rw [decide_eq_true (And.intro h1 h2)]
      go_enter Tryz.func70, Tryz.ntmps70
      go_wp2
      go_ret
      exact ⟨rfl, rfl⟩
    · rw [decide_eq_false (fun h => h2 h.2)]
      go_enter Tryz.func70, Tryz.ntmps70
      go_wp2
      go_ret
      exact ⟨rfl, rfl⟩
  · rw [decide_eq_false (fun h => h1 h.1)]
    go_enter Tryz.func70, Tryz.ntmps70
    go_wp2
    go_ret
    exact ⟨rfl, rfl⟩

theorem check_any (g : Gm) (w : World) : Calls Tryz.prog 41 #[g.val] w fun e w' => e = .returned (.int .i64 g.check) ∧ Below w.heap.size w w' := by
  rcases g with ⟨b, p, r⟩
  have Hb := hide (fun o => (Below.refl w.heap.size w).alloc (Nat.le_refl _) o)
  have f1 := within_any b 8 34
  have f2 := within_any p 4 32
  have f3 := within_any r 0 8
  unfold Gm.val
  simp only
  by_cases h1 : 8 ≤ b ∧ b ≤ 34
  · rw [decide_eq_true h1] at f1
    by_cases h2 : 4 ≤ p ∧ p ≤ 32
    · rw [decide_eq_true h2] at f2
      by_cases h3 : 0 ≤ r ∧ r ≤ 8
      · rw [decide_eq_true h3] at f3
        rw [Gm.check_ok (show Gm.Right ⟨b, p, r⟩ from ⟨h1.1, h1.2, h2.1, h2.2, h3.1, h3.2⟩)]
        clear h1 h2 h3
        go_enter Tryz.func41, Tryz.ntmps41
        go_wp2_with (first
          | (go_at_call 70; (with_reducible refine (f1 _).mono ?_); rintro e w1 ⟨rfl, rfl⟩; clear f1)
          | (go_at_call 70; (with_reducible refine (f2 _).mono ?_); rintro e w1 ⟨rfl, rfl⟩; clear f2)
          | (go_at_call 70; (with_reducible refine (f3 _).mono ?_); rintro e w1 ⟨rfl, rfl⟩; clear f3))
        go_ret
        exact ⟨rfl, Hb.out _⟩
      · rw [decide_eq_false h3] at f3
        rw [Gm.check_not (show ¬ Gm.Right ⟨b, p, r⟩ from fun h => h3 ⟨h.2.2.2.2.1, h.2.2.2.2.2⟩)]
        clear h1 h2 h3
        go_enter Tryz.func41, Tryz.ntmps41
        go_wp2_with (first
          | (go_at_call 70; (with_reducible refine (f1 _).mono ?_); rintro e w1 ⟨rfl, rfl⟩; clear f1)
          | (go_at_call 70; (with_reducible refine (f2 _).mono ?_); rintro e w1 ⟨rfl, rfl⟩; clear f2)
          | (go_at_call 70; (with_reducible refine (f3 _).mono ?_); rintro e w1 ⟨rfl, rfl⟩; clear f3))
        go_ret
        exact ⟨rfl, Hb.out _⟩
    · rw [decide_eq_false h2] at f2
      rw [Gm.check_not (show ¬ Gm.Right ⟨b, p, r⟩ from fun h => h2 ⟨h.2.2.1, h.2.2.2.1⟩)]
      clear h1 h2
      go_enter Tryz.func41, Tryz.ntmps41
      go_wp2_with (first
        | (go_at_call 70; (with_reducible refine (f1 _).mono ?_); rintro e w1 ⟨rfl, rfl⟩; clear f1)
        | (go_at_call 70; (with_reducible refine (f2 _).mono ?_); rintro e w1 ⟨rfl, rfl⟩; clear f2))
      go_ret
      exact ⟨rfl, Hb.out _⟩
  · rw [decide_eq_false h1] at f1
    rw [Gm.check_not (show ¬ Gm.Right ⟨b, p, r⟩ from fun h => h1 ⟨h.1, h.2.1⟩)]
    clear h1
    go_enter Tryz.func41, Tryz.ntmps41
    go_wp2_with (go_at_call 70; (with_reducible refine (f1 _).mono ?_); rintro e w1 ⟨rfl, rfl⟩; clear f1)
    go_ret
    exact ⟨rfl, Hb.out _⟩

theorem gwr64 {n : Int} (h : -9223372036854775808 ≤ n ∧ n ≤ 9223372036854775807) : wrap64 n = n := by unfold wrap64; omega
theorem right13_any (g : Gm) (w : World) : Calls Tryz.prog 18 #[g.val] w fun e w' => e = .returned (.bool (decide g.Right)) ∧ Below w.heap.size w w' := by
  rcases g with ⟨b, p, r⟩
  have Hb := hide (fun o => (Below.refl w.heap.size w).alloc (Nat.le_refl _) o)
  unfold Gm.val
  simp only
  by_cases h : Gm.Right ⟨b, p, r⟩
  · rw [decide_eq_true h]
    obtain ⟨h1, h2, h3, h4, h5, h6⟩ := h
    simp only at h1 h2 h3 h4 h5 h6
    go_enter Tryz.func18, Tryz.ntmps18
    go_wp2
    go_ret
    exact ⟨rfl, Hb.out _⟩
  · rw [decide_eq_false h]
    by_cases h1 : 8 ≤ b
    · by_cases h2 : b ≤ 34
      · by_cases h3 : 4 ≤ p
        · by_cases h4 : p ≤ 32
          · by_cases h5 : 0 ≤ r
            · have h6 : ¬ r ≤ 8 := fun h6 => h ⟨h1, h2, h3, h4, h5, h6⟩
              clear h
              go_enter Tryz.func18, Tryz.ntmps18
              go_wp2
              go_ret
              exact ⟨rfl, Hb.out _⟩
            · clear h
              go_enter Tryz.func18, Tryz.ntmps18
              go_wp2
              go_ret
              exact ⟨rfl, Hb.out _⟩
          · clear h
            go_enter Tryz.func18, Tryz.ntmps18
            go_wp2
            go_ret
            exact ⟨rfl, Hb.out _⟩
        · clear h
          go_enter Tryz.func18, Tryz.ntmps18
          go_wp2
          go_ret
          exact ⟨rfl, Hb.out _⟩
      · clear h
        go_enter Tryz.func18, Tryz.ntmps18
        go_wp2
        go_ret
        exact ⟨rfl, Hb.out _⟩
    · clear h
      go_enter Tryz.func18, Tryz.ntmps18
      go_wp2
      go_ret
      exact ⟨rfl, Hb.out _⟩
end
section
open Go.RowKit

/-- Numbers as cells. -/
def i64s (l : List Int) : List Value := l.map fun z => .int .i64 z
theorem i64s_len (l : List Int) : (i64s l).length = l.length := by simp [i64s]
theorem Lies.int {w : World} {B : Nat} {A : Option Addr} {l : List Int} {k : Nat} (h : Lies w B A (i64s l)) (hk : k < l.length) : ∃ a, A = some a ∧ a.block < B ∧ w.cell? (a.add k) = some (.int .i64 (l[k]'hk)) := by
  obtain ⟨a, hA, hb, hc⟩ := h.at_ (k := k) (by rw [i64s_len]; exact hk)
  exact ⟨a, hA, hb, hc.trans (by simp [i64s])⟩

/-- The sides in their box. -/
def Boxed (g : Gm) (k : Nat) (w : World) : Prop := ∃ fr, w.heap[k]? = some (.cells #[.int .i64 g.b, .int .i64 g.p, .int .i64 g.r] 40 fr)
theorem Boxed.below {g : Gm} {k B : Nat} {w w' : World} (h : Boxed g k w) (hb : Below B w w') (hk : k < B) : Boxed g k w' := by
  obtain ⟨fr, h⟩ := h
  exact ⟨fr, (hb.block k hk).trans h⟩
theorem Boxed.new (g : Gm) (w : World) : Boxed g w.heap.size (w.alloc (.cells #[.int .i64 g.b, .int .i64 g.p, .int .i64 g.r] 40)) := ⟨_, heap_alloc_new w _⟩
theorem Boxed.b {g : Gm} {k : Nat} {w : World} (h : Boxed g k w) : w.cell? ⟨k, 0, none⟩ = some (.int .i64 g.b) := by
  obtain ⟨fr, h⟩ := h; exact World.news_of_block h 0 _ rfl
theorem Boxed.p {g : Gm} {k : Nat} {w : World} (h : Boxed g k w) : w.cell? ⟨k, 1, none⟩ = some (.int .i64 g.p) := by
  obtain ⟨fr, h⟩ := h; exact World.news_of_block h 1 _ rfl
theorem Boxed.r {g : Gm} {k : Nat} {w : World} (h : Boxed g k w) : w.cell? ⟨k, 2, none⟩ = some (.int .i64 g.r) := by
  obtain ⟨fr, h⟩ := h; exact World.news_of_block h 2 _ rfl

theorem mul_within {y p : Int} (h1 : -100 ≤ y) (h2 : y ≤ 100) (h3 : 0 ≤ p) (h4 : p ≤ 32) : -3200 ≤ y * p ∧ y * p ≤ 3200 := by
  have a := Int.mul_le_mul_of_nonneg_right h1 h3
  have b := Int.mul_le_mul_of_nonneg_right h2 h3
  omega
end
section
open Go.RowKit

/-- Is there such a page? -/
def Gm.Has (g : Gm) (x y : Int) : Prop := 0 ≤ x ∧ x ≤ g.b - 1 ∧ 0 ≤ y ∧ y ≤ g.p - 1
instance (g : Gm) (x y : Int) : Decidable (g.Has x y) := by unfold Gm.Has; infer_instance
def Gm.place (g : Gm) (x y : Int) : Int := if g.Right ∧ g.Has x y then x * g.p + y else -1
theorem Gm.place_ok {g : Gm} {x y : Int} (h : g.Right) (h2 : g.Has x y) : g.place x y = x * g.p + y := if_pos ⟨h, h2⟩
theorem Gm.place_not {g : Gm} {x y : Int} (h : ¬ g.Right) : g.place x y = -1 := if_neg fun h2 => h h2.1
theorem Gm.place_none {g : Gm} {x y : Int} (h : ¬ g.Has x y) : g.place x y = -1 := if_neg fun h2 => h h2.2

/-- A page in its box. -/
def BoxedP (x y : Int) (k : Nat) (w : World) : Prop := w.heap[k]? = some (.cells #[.int .i64 x, .int .i64 y] 98 (0, 0))
theorem BoxedP.below {x y : Int} {k B : Nat} {w w' : World} (h : BoxedP x y k w) (hb : Below B w w') (hk : k < B) : BoxedP x y k w' := (hb.block k hk).trans h
theorem BoxedP.free {x y : Int} {k : Nat} {w : World} (h : BoxedP x y k w) (j : Nat) : w.frozen? ⟨k, j, none⟩ = false := frozen_of_row w k j _ _ h
theorem BoxedP.new (x y : Int) (w : World) : BoxedP x y w.heap.size (w.alloc (.cells #[.int .i64 x, .int .i64 y] 98)) := heap_alloc_new w _
theorem BoxedP.x {x y : Int} {k : Nat} {w : World} (h : BoxedP x y k w) : w.cell? ⟨k, 0, none⟩ = some (.int .i64 x) := by
  exact World.news_of_block h 0 _ rfl
theorem BoxedP.y {x y : Int} {k : Nat} {w : World} (h : BoxedP x y k w) : w.cell? ⟨k, 1, none⟩ = some (.int .i64 y) := by
  exact World.news_of_block h 1 _ rfl

set_option maxHeartbeats 2000000 in
theorem place_any (g : Gm) (x y : Int) (w : World) : Calls Tryz.prog 107 #[g.val, .agg #[.int .i64 x, .int .i64 y]] w fun e w' => e = .returned (.int .i64 (g.place x y)) ∧ Below w.heap.size w w' := by
  have Hc := hide (check_any g)
  have Hb0 := hide (((Below.refl w.heap.size w).alloc (Nat.le_refl _) (.cells #[.int .i64 g.b, .int .i64 g.p, .int .i64 g.r] 40)).alloc (by simp) (.cells #[.int .i64 x, .int .i64 y] 98))
  have Hx := hide ((Boxed.new g w).below ((Below.refl (w.heap.size + 1) (w.alloc (.cells #[.int .i64 g.b, .int .i64 g.p, .int .i64 g.r] 40))).alloc (by simp) (.cells #[.int .i64 x, .int .i64 y] 98)) (by omega))
  have Hy := hide (BoxedP.new x y (w.alloc (.cells #[.int .i64 g.b, .int .i64 g.p, .int .i64 g.r] 40)))
  rw [show (w.alloc (.cells #[.int .i64 g.b, .int .i64 g.p, .int .i64 g.r] 40)).heap.size = w.heap.size + 1 by simp] at Hy
  by_cases h : g.Right
  · rw [Gm.check_ok h] at Hc
    have hp1 := fun h2 => Gm.place_ok (x := x) (y := y) h h2
    have hp2 := fun h2 => Gm.place_none (g := g) (x := x) (y := y) h2
    unfold Gm.Has at hp1 hp2
    obtain ⟨h1, h2, h3, h4, _⟩ := h
    generalize g.place x y = z at *
    rcases g with ⟨b, p, r⟩
    unfold Gm.val at *
    simp only at *
    have f1 := within_any x 0 (b - 1)
    have f2 := within_any y 0 (p - 1)
    have e1 : wrap64 (b - 1) = b - 1 := gwr64 (by omega)
    have e2 : wrap64 (p - 1) = p - 1 := gwr64 (by omega)
    by_cases hx : 0 ≤ x ∧ x ≤ b - 1
    · rw [decide_eq_true hx] at f1
      by_cases hy : 0 ≤ y ∧ y ≤ p - 1
      · rw [decide_eq_true hy] at f2
        have Hz := hide (hp1 ⟨hx.1, hx.2, hy.1, hy.2⟩)
        have hm := mul_within (y := x) (p := p) (by omega) (by omega) (by omega) h4
        have e3 : wrap64 (x * p) = x * p := gwr64 (by omega)
        have e4 : wrap64 (x * p + y) = x * p + y := gwr64 (by omega)
        clear hp1 hp2 hx hy hm
        go_enter Tryz.func107, Tryz.ntmps107
        go_wp2_with fail
        (with_reducible refine (Hc.out _).mono ?_)
        rintro e w1 ⟨rfl, hb⟩
        have Hb := hide (Hb0.out.trans (hb.mono (by simp; omega)))
        have cb := (Hx.out.below hb (by simp; omega)).b
        have cp := (Hx.out.below hb (by simp; omega)).p
        have cx := (Hy.out.below hb (by simp)).x
        have cy := (Hy.out.below hb (by simp)).y
        try simp only at cb cp
        clear hb Hc Hx Hy Hb0
        go_wp2_with (first | (go_at_call 70; (with_reducible refine (f1 _).mono ?_); rintro e w2 ⟨rfl, rfl⟩; clear f1) | (go_at_call 70; (with_reducible refine (f2 _).mono ?_); rintro e w2 ⟨rfl, rfl⟩; clear f2))
        go_ret
        exact ⟨gret_int (by rw [Hz.out, e4]), Hb.out⟩
      · rw [decide_eq_false hy] at f2
        have Hz := hide (hp2 (fun h => hy ⟨h.2.2.1, h.2.2.2⟩))
        clear hp1 hp2 hx hy
        go_enter Tryz.func107, Tryz.ntmps107
        go_wp2_with fail
        (with_reducible refine (Hc.out _).mono ?_)
        rintro e w1 ⟨rfl, hb⟩
        have Hb := hide (Hb0.out.trans (hb.mono (by simp; omega)))
        have cb := (Hx.out.below hb (by simp; omega)).b
        have cp := (Hx.out.below hb (by simp; omega)).p
        have cx := (Hy.out.below hb (by simp)).x
        have cy := (Hy.out.below hb (by simp)).y
        try simp only at cb cp
        clear hb Hc Hx Hy Hb0
        go_wp2_with (first | (go_at_call 70; (with_reducible refine (f1 _).mono ?_); rintro e w2 ⟨rfl, rfl⟩; clear f1) | (go_at_call 70; (with_reducible refine (f2 _).mono ?_); rintro e w2 ⟨rfl, rfl⟩; clear f2))
        go_ret
        exact ⟨gret_int (by rw [Hz.out]), Hb.out⟩
    · rw [decide_eq_false hx] at f1
      have Hz := hide (hp2 (fun h => hx ⟨h.1, h.2.1⟩))
      clear hp1 hp2 hx
      go_enter Tryz.func107, Tryz.ntmps107
      go_wp2_with fail
      (with_reducible refine (Hc.out _).mono ?_)
      rintro e w1 ⟨rfl, hb⟩
      have Hb := hide (Hb0.out.trans (hb.mono (by simp; omega)))
      have cb := (Hx.out.below hb (by simp; omega)).b
      have cp := (Hx.out.below hb (by simp; omega)).p
      have cx := (Hy.out.below hb (by simp)).x
      have cy := (Hy.out.below hb (by simp)).y
      try simp only at cb cp
      clear hb Hc Hx Hy Hb0
      go_wp2_with (first | (go_at_call 70; (with_reducible refine (f1 _).mono ?_); rintro e w2 ⟨rfl, rfl⟩; clear f1))
      go_ret
      exact ⟨gret_int (by rw [Hz.out]), Hb.out⟩
  · rw [Gm.place_not h]
    rw [Gm.check_not h] at Hc
    clear h
    unfold Gm.val at *
    go_enter Tryz.func107, Tryz.ntmps107
    go_wp2_with fail
    (with_reducible refine (Hc.out _).mono ?_)
    rintro e w1 ⟨rfl, hb⟩
    have Hb := hide hb
    clear hb Hc
    go_wp2
    go_ret
    exact ⟨rfl, Hb0.out.trans (Hb.out.mono (by simp; omega))⟩
end
section
open Go.RowKit

theorem u8info : (Tryz.prog.info? 5).map (fun i => (i.zero, i.size, i.bytes)) = some (some (.int .u8 0), 1, 1) := by kernel_rfl

theorem u8elems : Elems Tryz.prog 67 5 1 1 := by
  obtain ⟨i0, hi, hz0, hz1, hz2⟩ := info_parts u8info
  exact ⟨Tryz.underlying67, ⟨i0, _, hi, hz0, hz1, hz2, rfl⟩, by decide⟩

theorem strU8 {w : World} {B : Nat} {A : Option Addr} {l : List UInt8} {n : Nat} (c : Nat) (h : Lies w B A (bys l)) (hn : n = l.length) : (convert 67 9 (.slice A n c)).run Tryz.prog w = .ok (.string (str l)) w :=
  run_str 67 9 5 n c h hn Tryz.underlying67 Tryz.underlying5 Tryz.underlying9

theorem ret_int {k : IntKind} {a b : Int} (h : a = b) : Ending.returned (.int k a) = .returned (.int k b) := by rw [h]
theorem wr64 {n : Int} (h : -9223372036854775808 ≤ n ∧ n ≤ 9223372036854775807) : wrap64 n = n := by unfold wrap64; omega
theorem ret_bool {a b : Bool} (h : a = b) : Ending.returned (.bool a) = .returned (.bool b) := by rw [h]
theorem bys_snoc (f : Nat → UInt8) (j : Nat) : bys ((List.range (j + 1)).map f) = bys ((List.range j).map f) ++ [.int .u8 ((f j).toNat : Int)] := by
  rw [List.range_succ, List.map_append, bys_app]; rfl

/-- A new block of bytes, as something that lies. -/
theorem Lies.fresh (w : World) (l : List UInt8) (t : TypeId) (fr : Nat × Nat) (cs : Array Value) (hcs : cs.toList = bys l) (g B : Nat) (hg : g = w.heap.size) (hB : g < B) : Lies (w.alloc (.cells cs t fr)) B (some ⟨g, 0, none⟩) (bys l) := by
  subst hg; rw [← hcs]; exact Lies.new w cs t fr _ hB
end
section
open Go.RowKit

/-- bytes.Clone: a row of the call's own with the same bytes (nil of nil). -/
theorem clone_any (A : Option Addr) (n c B : Nat) (xs : List Value) (w : World) (h : Lies w B A xs) (hn : n = xs.length) (h1 : ∀ u ∈ xs, u.oneCell' = true) (hbig : n ≤ 140737488355328) :
    Calls Tryz.prog 71 #[.slice A n c] w fun e w' => ∃ v', e = .returned v' ∧ w'.ownsRow w.heap.size 5 1 v' n xs ∧ Below w.heap.size w w' := by
  obtain ⟨i0, hi, hz0, hz1, hz2⟩ := info_parts u8info
  rcases A with _ | a
  · have hx : xs = [] := by
      rcases h with h | ⟨a, hA, _⟩
      · exact h
      · cases hA
    subst hx
    have hn0 : n = 0 := by simpa using hn
    subst hn0
    clear hn
    have q := fun w n c n' c' => Lib.run_eql_slice_nil (P := Tryz.prog) w 67 _ none n c n' c' Tryz.underlying67
    go_enter Tryz.func71, Tryz.ntmps71
    go_wp2
    go_ret
    exact ⟨_, rfl, World.ownsRow_nil _ _ _ _, Below.refl _ _⟩
  · have q := fun w n c n' c' => Lib.run_eql_slice_nil (P := Tryz.prog) w 67 _ (some a) n c n' c' Tryz.underlying67
    have hc : Hid (∀ j u, xs[j]? = some u → w.cell? (a.add j) = some u) := by
      rcases h with h | ⟨a', hA, _, hc⟩
      · intro j u hu; rw [h] at hu; simp at hu
      · cases hA; exact hc
    have Hn := hide hn
    have H1 := hide h1
    clear h hn h1
    go_enter Tryz.func71, Tryz.ntmps71
    go_wp2_with (at_builtin; (refine wpList_append_own _ rfl _ _ 67 rfl w.heap.size 5 i0 (.int .u8 0) 1 1 Tryz.underlying67 hi hz0 hz1 hz2 rfl (by decide) _ _ _ rfl (World.ownsRow_made w #[] 0 (Nat.le_refl _) (Nat.zero_le _) rfl) a n c xs rfl (by have := Hn.out; omega) ?qc2 H1.out ?qc4 ?qc5 ?qc6 ?_))
    case qc2 => intro j u hj; exact Lib.cell?_alloc_some _ (hc.out j u hj)
    case qc4 => unfold maxLen; omega
    case qc5 => omega
    case qc6 => simp
    intro v' w1 hown hgrow hnil
    go_wp2
    go_ret
    exact ⟨v', rfl, by simpa using hown, ((Below.refl _ w).alloc (Nat.le_refl _) _).grown hgrow (by simp) (by intro k hk; simp [Value.ownBlock] at hk; omega)⟩
end
section
/-- Bit k of a number. -/
def bitN (x k : Nat) : Nat := x / 2 ^ k % 2
theorem bitN_two (x k : Nat) : bitN x k = 0 ∨ bitN x k = 1 := by unfold bitN; omega
theorem bitN_test (x k : Nat) : (bitN x k == 1) = x.testBit k := by
  rw [Nat.testBit_eq_decide_div_mod_eq]; unfold bitN; rw [Bool.beq_eq_decide_eq]
theorem bitN_toNat (x k : Nat) : bitN x k = (x.testBit k).toNat := by rw [Nat.toNat_testBit]; rfl
/-- Bit i of bytes, the lowest of each byte first. -/
def bitAt (l : List UInt8) (i : Nat) : Nat := bitN (l.getD (i / 8) 0).toNat (i % 8)
theorem bitAt_two (l : List UInt8) (i : Nat) : bitAt l i = 0 ∨ bitAt l i = 1 := bitN_two _ _
theorem bitAt_of (l : List UInt8) (j k : Nat) (h : k < 8) : bitAt l (8 * j + k) = bitN (l.getD j 0).toNat k := by
  unfold bitAt; rw [show (8 * j + k) / 8 = j by omega, show (8 * j + k) % 8 = k by omega]

theorem byte_eq_of_bits (x y : UInt8) (h : ∀ k, k < 8 → bitN x.toNat k = bitN y.toNat k) : x = y := by
  apply UInt8.toNat_inj.1
  apply Nat.eq_of_testBit_eq
  intro i
  by_cases hi : i < 8
  · rw [← bitN_test, ← bitN_test, h i hi]
  · rw [Nat.testBit_lt_two_pow (Nat.lt_of_lt_of_le x.toNat_lt (Nat.pow_le_pow_right (n := 2) (by omega) (by omega : 8 ≤ i))), Nat.testBit_lt_two_pow (Nat.lt_of_lt_of_le y.toNat_lt (Nat.pow_le_pow_right (n := 2) (by omega) (by omega : 8 ≤ i)))]

theorem bytes_eq_of_bits (a b : List UInt8) (hl : a.length = b.length) (h : ∀ i, i < 8 * b.length → bitAt a i = bitAt b i) : a = b := by
  apply List.ext_getElem hl
  intro j h1 h2
  apply byte_eq_of_bits
  intro k hk
  have := h (8 * j + k) (by omega)
  rw [bitAt_of _ _ _ hk, bitAt_of _ _ _ hk] at this
  simpa [List.getD, List.getElem?_eq_getElem h1, List.getElem?_eq_getElem h2] using this

/-- How many of the first i bits are 0. -/
def zc (l : List UInt8) : Nat → Nat
  | 0 => 0
  | i + 1 => zc l i + (1 - bitAt l i)
theorem zc_le (l : List UInt8) : ∀ i, zc l i ≤ i
  | 0 => Nat.le_refl _
  | i + 1 => by have := zc_le l i; rw [zc]; omega
theorem zc_zero (l : List UInt8) : ∀ n, zc l n = 0 ↔ ∀ i, i < n → bitAt l i = 1
  | 0 => by simp [zc]
  | n + 1 => by
    rw [zc]
    have ih := zc_zero l n
    constructor
    · intro h i hi
      have h1 : zc l n = 0 := by omega
      rcases Nat.lt_or_ge i n with h2 | h2
      · exact ih.1 h1 i h2
      · obtain rfl : i = n := by omega
        have := bitAt_two l i; omega
    · intro h
      have h1 := ih.2 (fun i hi => h i (by omega))
      have h2 := h n (by omega)
      omega

theorem bits_255 (k : Nat) (hk : k < 8) : bitN 255 k = 1 := by
  rcases (by omega : k = 0 ∨ k = 1 ∨ k = 2 ∨ k = 3 ∨ k = 4 ∨ k = 5 ∨ k = 6 ∨ k = 7) with rfl | rfl | rfl | rfl | rfl | rfl | rfl | rfl <;> rfl
theorem zc_blank (l : List UInt8) : zc l (8 * l.length) = 0 ↔ ∀ j, j < l.length → l.getD j 0 = 255 := by
  rw [zc_zero]
  constructor
  · intro h j hj
    apply byte_eq_of_bits
    intro k hk
    have := h (8 * j + k) (by omega)
    rw [bitAt_of _ _ _ hk] at this
    rw [this, show (255 : UInt8).toNat = 255 from rfl, bits_255 k hk]
  · intro h i hi
    have h1 := h (i / 8) (by omega)
    unfold bitAt
    rw [h1, show (255 : UInt8).toNat = 255 from rfl, bits_255 _ (by omega)]

/-- a covers b: it is as long, and has all the bits of b that are 1. -/
def covB (a b : List UInt8) : Bool := decide (a.length = b.length ∧ ∀ i, i < 8 * b.length → bitAt b i ≤ bitAt a i)
theorem covB_iff (a b : List UInt8) : covB a b = true ↔ a.length = b.length ∧ ∀ i, i < 8 * b.length → bitAt b i ≤ bitAt a i := by simp [covB]
theorem zc_mono (a b : List UInt8) : ∀ n, (∀ i, i < n → bitAt b i ≤ bitAt a i) → zc a n ≤ zc b n ∧ (zc a n = zc b n → ∀ i, i < n → bitAt a i = bitAt b i)
  | 0, _ => ⟨Nat.le_refl _, fun _ i hi => by omega⟩
  | n + 1, h => by
    have ih := zc_mono a b n (fun i hi => h i (by omega))
    have h1 := h n (by omega)
    have h2 := bitAt_two a n
    have h3 := bitAt_two b n
    rw [zc, zc]
    refine ⟨by omega, fun he i hi => ?_⟩
    rcases Nat.lt_or_ge i n with h4 | h4
    · exact ih.2 (by omega) i h4
    · obtain rfl : i = n := by omega
      omega
/-- What covers bytes has no more bits that are 0; with as many it is the very bytes. -/
theorem cov_count (a b : List UInt8) (h : covB a b = true) : zc a (8 * a.length) < zc b (8 * b.length) ∨ a = b := by
  obtain ⟨hl, hc⟩ := (covB_iff a b).1 h
  have := zc_mono a b (8 * b.length) hc
  rw [hl]
  by_cases he : zc a (8 * b.length) = zc b (8 * b.length)
  · exact .inr (bytes_eq_of_bits a b hl (this.2 he))
  · exact .inl (by omega)

/-- The byte of a mask at a place. -/
def maskB (m : List UInt8) (p : Nat) : UInt8 := if m.length = 0 then 0 else m.getD (p % m.length) 0
/-- A byte of which just the mask's bits are done. -/
def mixB (is want d : UInt8) : UInt8 := (is &&& ~~~d) ||| (want &&& d)
theorem mixB_toNat (is want d : UInt8) : (mixB is want d).toNat = (is.toNat &&& (255 - d.toNat)) ||| (want.toNat &&& d.toNat) := by
  simp [mixB]
theorem not_test (d : UInt8) (k : Nat) (hk : k < 8) : (255 - d.toNat).testBit k = !d.toNat.testBit k := by
  have := Nat.testBit_two_pow_sub_succ d.toNat_lt k
  rw [show 2 ^ 8 - (d.toNat + 1) = 255 - d.toNat by omega] at this
  rw [this]; simp [hk]
theorem mixB_test (is want d : UInt8) (k : Nat) (hk : k < 8) : (mixB is want d).toNat.testBit k = if d.toNat.testBit k then want.toNat.testBit k else is.toNat.testBit k := by
  rw [mixB_toNat, Nat.testBit_or, Nat.testBit_and, Nat.testBit_and, not_test d k hk]
  cases d.toNat.testBit k <;> simp

/-- Is a bit in a mask? -/
def inMask (m : List UInt8) (i : Nat) : Bool := bitN (maskB m (i / 8)).toNat (i % 8) == 1
/-- What is programmed, byte by byte. -/
def progB (old b m : List UInt8) (p : Nat) : UInt8 := if p < b.length then mixB (old.getD p 0) (old.getD p 0 &&& b.getD p 0) (maskB m p) else old.getD p 0
def progL (old b m : List UInt8) : List UInt8 := (List.range old.length).map (progB old b m)
/-- What is erased, byte by byte, and bit by bit. -/
def erasB (old m : List UInt8) (p : Nat) : UInt8 := mixB (old.getD p 0) 255 (maskB m p)
def erasL (old m : List UInt8) : List UInt8 := (List.range old.length).map (erasB old m)
def erasF (old m : List UInt8) (i : Nat) : Bool := bitAt old i == 1 || inMask m i
theorem erasF_bit (old m : List UInt8) (j k : Nat) (hk : k < 8) : erasF old m (8 * j + k) = (erasB old m j).toNat.testBit k := by
  unfold erasF erasB
  rw [bitAt_of _ _ _ hk, bitN_test, show inMask m (8 * j + k) = (maskB m j).toNat.testBit k by
    unfold inMask; rw [show (8 * j + k) / 8 = j by omega, show (8 * j + k) % 8 = k by omega, bitN_test], mixB_test _ _ _ k hk]
  have : (255 : UInt8).toNat.testBit k = true := by rw [← bitN_test, show (255 : UInt8).toNat = 255 from rfl, bits_255 k hk]; rfl
  rw [this]
  cases (old.getD j 0).toNat.testBit k <;> cases (maskB m j).toNat.testBit k <;> rfl
theorem progL_len (old b m : List UInt8) : (progL old b m).length = old.length := by simp [progL]
theorem erasL_len (old m : List UInt8) : (erasL old m).length = old.length := by simp [erasL]
theorem range_getD (f : Nat → UInt8) (n j : Nat) (h : j < n) : ((List.range n).map f).getD j 0 = f j := by simp [List.getD, h]
theorem bit_of_test (x y : Nat) (k : Nat) (h : x.testBit k = true → y.testBit k = true) : bitN x k ≤ bitN y k := by
  rw [bitN_toNat, bitN_toNat]
  cases hx : x.testBit k
  · simp
  · rw [h hx]; exact Nat.le_refl _
/-- Whatever the mask: what is programmed of b on nothing but 1 covers b. -/
theorem prog_covers (o b m : List UInt8) (hl : o.length = b.length) (ho : ∀ j, j < b.length → o.getD j 0 = 255) : covB (progL o b m) b = true := by
  rw [covB_iff, progL_len]
  refine ⟨hl, fun i hi => ?_⟩
  have hk : i % 8 < 8 := by omega
  have hj : i / 8 < b.length := by omega
  rw [← Nat.div_add_mod i 8, bitAt_of _ _ _ hk, bitAt_of _ _ _ hk]
  unfold progL
  rw [range_getD _ _ _ (by omega), progB, if_pos hj, ho _ hj]
  apply bit_of_test
  rw [mixB_test _ _ _ _ hk, UInt8.toNat_and, Nat.testBit_and]
  have : (255 : UInt8).toNat.testBit (i % 8) = true := by rw [← bitN_test, show (255 : UInt8).toNat = 255 from rfl, bits_255 _ hk]; rfl
  rw [this]
  intro h
  rw [h]; simp
/-- Whatever the mask: what is erased covers what was. -/
theorem eras_covers (b m : List UInt8) : covB (erasL b m) b = true := by
  rw [covB_iff, erasL_len]
  refine ⟨rfl, fun i hi => ?_⟩
  have hk : i % 8 < 8 := by omega
  have hj : i / 8 < b.length := by omega
  rw [← Nat.div_add_mod i 8, bitAt_of _ _ _ hk, bitAt_of _ _ _ hk]
  unfold erasL
  rw [range_getD _ _ _ hj]
  apply bit_of_test
  rw [← erasF_bit b m _ _ hk]
  unfold erasF
  rw [bitAt_of _ _ _ hk, bitN_test]
  intro h
  rw [h]; rfl

/-- Bytes laid one after another over others. -/
def laid (f : Nat → UInt8) (l : List UInt8) (j : Nat) : List UInt8 := (List.range l.length).map fun p => if p < j then f p else l.getD p 0
theorem laid_zero (f : Nat → UInt8) (l : List UInt8) : laid f l 0 = l := by
  apply List.ext_getElem (by simp [laid])
  intro i h1 h2
  simp [laid, List.getD, List.getElem?_eq_getElem h2]
theorem laid_all (f : Nat → UInt8) (l : List UInt8) (j : Nat) (h : l.length ≤ j) : laid f l j = (List.range l.length).map f := by
  apply List.map_congr_left
  intro p hp
  rw [if_pos (by have := List.mem_range.1 hp; omega)]
theorem laid_len (f : Nat → UInt8) (l : List UInt8) (j : Nat) : (laid f l j).length = l.length := by simp [laid]
theorem laid_succ (f : Nat → UInt8) (l : List UInt8) (j : Nat) (_ : j < l.length) : laid f l (j + 1) = (laid f l j).set j (f j) := by
  apply List.ext_getElem (by simp [laid])
  intro i h1 h2
  rw [List.getElem_set]
  by_cases hij : j = i
  · subst hij; simp [laid]
  · rw [if_neg hij]
    simp only [laid, List.getElem_map, List.getElem_range]
    by_cases h3 : i < j
    · rw [if_pos (by omega), if_pos h3]
    · rw [if_neg (by omega), if_neg h3]
theorem laid_prog (old b m : List UInt8) (j : Nat) (h : min old.length b.length ≤ j) : laid (progB old b m) old j = progL old b m := by
  apply List.map_congr_left
  intro p hp
  have := List.mem_range.1 hp
  by_cases h1 : p < j
  · rw [if_pos h1]
  · rw [if_neg h1, progB, if_neg (by omega)]
theorem bits_mix (x y d : Nat) (hx : x < 256) (hy : y < 256) (hd : d < 256) : bits .or .u8 (bits .andNot .u8 (x : Int) (d : Int)) (bits .and .u8 (y : Int) (d : Int)) = (((x &&& (255 - d)) ||| (y &&& d) : Nat) : Int) := by
  have h1 : x &&& (255 - d) < 256 := Nat.lt_of_le_of_lt Nat.and_le_left hx
  have h2 : y &&& d < 256 := Nat.lt_of_le_of_lt Nat.and_le_left hy
  rw [u8_andNot_nat x d hx hd, u8_and_nat y d hy hd, u8_or_nat _ _ h1 h2]
theorem bits_not (x k : Nat) (hx : x < 256) (hk : k < 8) : bits .and .u8 (bits .xor .u8 (if IntKind.u8.signed = true then -1 else IntKind.u8.max) (x : Int) / 2 ^ k) 1 = ((1 - bitN x k : Nat) : Int) := by
  have e0 : (if IntKind.u8.signed = true then -1 else IntKind.u8.max) = ((255 : Nat) : Int) := by rfl
  have h1 : 255 ^^^ x < 256 := Nat.xor_lt_two_pow (n := 8) (by omega) hx
  have h2 : (255 ^^^ x) / 2 ^ k < 256 := Nat.lt_of_le_of_lt (Nat.div_le_self _ _) h1
  rw [e0, u8_xor_nat 255 x (by omega) hx, show (((255 ^^^ x : Nat) : Int) / 2 ^ k) = (((255 ^^^ x) / 2 ^ k : Nat) : Int) by simp, show (1 : Int) = ((1 : Nat) : Int) from rfl, u8_and_nat _ 1 h2 (by omega), nat_mask1]
  have e1 : (255 ^^^ x) / 2 ^ k % 2 = bitN (255 ^^^ x) k := rfl
  rw [e1, bitN_toNat, bitN_toNat, Nat.testBit_xor]
  have : (255 : Nat).testBit k = true := by rw [← bitN_test, bits_255 k hk]; rfl
  rw [this]
  cases x.testBit k <;> rfl
end
end Go.Proofs.YtigpplckddnghaaGreat
