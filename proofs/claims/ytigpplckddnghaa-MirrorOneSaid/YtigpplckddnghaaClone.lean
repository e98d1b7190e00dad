/-
  SIDES IN THEIR BOX; numbers as cells.
  CONTRACT of geom.Place; a page in its box.
  What the program knows of its bytes; bytes turned into strings; small laws that every walk's end wants.
  CONTRACTS of bytes.Clone.
-/
import Derived.Test.YtigpplckddnghaaGeoC
import Derived.OneCell
import Derived.WalkSmall
import Derived.Test.YtigpplckddnghaaWords
import Derived.Test.YtigpplckddnghaaProg
import Derived.Deep.AppendLies
import Derived.Deep.RegionLaw
import Derived.IntWalk
namespace Go.Proofs.Ytigpplckddnghaa
section
open Go.RowKit

/-- Numbers as cells. -/
def i64s (l : List Int) : List Value := l.map fun z => .int .i64 z
theorem i64s_len (l : List Int) : (i64s l).length = l.length := by simp [i64s]
theorem Lies.int {w : World} {B : Nat} {A : Option Addr} {l : List Int} {k : Nat} (h : Lies w B A (i64s l)) (hk : k < l.length) : ∃ a, A = some a ∧ a.block < B ∧ w.cell? (a.add k) = some (.int .i64 (l[k]'hk)) := by
  obtain ⟨a, hA, hb, hc⟩ := h.at_ (k := k) (by rw [i64s_len]; exact hk)
  exact ⟨a, hA, hb, hc.trans (by simp [i64s])⟩

/-- The sides in their box. -/
def Boxed (g : Gm) (k : Nat) (w : World) : Prop := ∃ fr, w.heap[k]? = some (.cells #[.int .i64 g.b, .int .i64 g.p, .int .i64 g.r] 23 fr)
theorem Boxed.below {g : Gm} {k B : Nat} {w w' : World} (h : Boxed g k w) (hb : Below B w w') (hk : k < B) : Boxed g k w' := by
  obtain ⟨fr, h⟩ := h
  exact ⟨fr, (hb.block k hk).trans h⟩
theorem Boxed.new (g : Gm) (w : World) : Boxed g w.heap.size (w.alloc (.cells #[.int .i64 g.b, .int .i64 g.p, .int .i64 g.r] 23)) := ⟨_, heap_alloc_new w _⟩
theorem Boxed.b {g : Gm} {k : Nat} {w : World} (h : Boxed g k w) : w.cell? ⟨k, 0, none⟩ = some (.int .i64 g.b) := by
  obtain ⟨fr, h⟩ := h; exact World.news_of_block h 0 _ rfl
theorem Boxed.p {g : Gm} {k : Nat} {w : World} (h : Boxed g k w) : w.cell? ⟨k, 1, none⟩ = some (.int .i64 g.p) := by
  obtain ⟨fr, h⟩ := h; exact World.news_of_block h 1 _ rfl
theorem Boxed.r {g : Gm} {k : Nat} {w : World} (h : Boxed g k w) : w.cell? ⟨k, 2, none⟩ = some (.int .i64 g.r) := by
  obtain ⟨fr, h⟩ := h; exact World.news_of_block h 2 _ rfl

theorem mul_within {y p : Int} (h1 : -100 ≤ y) (h2 : y ≤ 100) (h3 : 0 ≤ p) (h4 : p ≤ 32) : -3200 ≤ y * p ∧ y * p ≤ 3200 := by
  have a := Int.mul_le_mul_of_nonneg_right h1 h3
  have b := Int.mul_le_mul_of_nonneg_right h2 h3
  omega
end
section
open Go.RowKit

/-- Is there such a page? -/
def Gm.Has (g : Gm) (x y : Int) : Prop := 0 ≤ x ∧ x ≤ g.b - 1 ∧ 0 ≤ y ∧ y ≤ g.p - 1
instance (g : Gm) (x y : Int) : Decidable (g.Has x y) := by unfold Gm.Has; infer_instance
def Gm.place (g : Gm) (x y : Int) : Int := if g.Right ∧ g.Has x y then x * g.p + y else -1
theorem Gm.place_ok {g : Gm} {x y : Int} (h : g.Right) (h2 : g.Has x y) : g.place x y = x * g.p + y := if_pos ⟨h, h2⟩
theorem Gm.place_not {g : Gm} {x y : Int} (h : ¬ g.Right) : g.place x y = -1 := if_neg fun h2 => h h2.1
theorem Gm.place_none {g : Gm} {x y : Int} (h : ¬ g.Has x y) : g.place x y = -1 := if_neg fun h2 => h h2.2

/-- A page in its box. -/
def BoxedP (x y : Int) (k : Nat) (w : World) : Prop := w.heap[k]? = some (.cells #[.int .i64 x, .int .i64 y] 74 (0, 0))
theorem BoxedP.below {x y : Int} {k B : Nat} {w w' : World} (h : BoxedP x y k w) (hb : Below B w w') (hk : k < B) : BoxedP x y k w' := (hb.block k hk).trans h
theorem BoxedP.free {x y : Int} {k : Nat} {w : World} (h : BoxedP x y k w) (j : Nat) : w.frozen? ⟨k, j, none⟩ = false := frozen_of_row w k j _ _ h
theorem BoxedP.new (x y : Int) (w : World) : BoxedP x y w.heap.size (w.alloc (.cells #[.int .i64 x, .int .i64 y] 74)) := heap_alloc_new w _
theorem BoxedP.x {x y : Int} {k : Nat} {w : World} (h : BoxedP x y k w) : w.cell? ⟨k, 0, none⟩ = some (.int .i64 x) := by
  exact World.news_of_block h 0 _ rfl
theorem BoxedP.y {x y : Int} {k : Nat} {w : World} (h : BoxedP x y k w) : w.cell? ⟨k, 1, none⟩ = some (.int .i64 y) := by
  exact World.news_of_block h 1 _ rfl

set_option maxHeartbeats 2000000 in
theorem place_any (g : Gm) (x y : Int) (w : World) : Calls Try.prog 57 #[g.val, .agg #[.int .i64 x, .int .i64 y]] w fun e w' => e = .returned (.int .i64 (g.place x y)) ∧ Below w.heap.size w w' := by
  have Hc := hide (check_any g)
  have Hb0 := hide (((Below.refl w.heap.size w).alloc (Nat.le_refl _) (.cells #[.int .i64 g.b, .int .i64 g.p, .int .i64 g.r] 23)).alloc (by simp) (.cells #[.int .i64 x, .int .i64 y] 74))
  have Hx := hide ((Boxed.new g w).below ((Below.refl (w.heap.size + 1) (w.alloc (.cells #[.int .i64 g.b, .int .i64 g.p, .int .i64 g.r] 23))).alloc (by simp) (.cells #[.int .i64 x, .int .i64 y] 74)) (by omega))
  have Hy := hide (BoxedP.new x y (w.alloc (.cells #[.int .i64 g.b, .int .i64 g.p, .int .i64 g.r] 23)))
  rw [show (w.alloc (.cells #[.int .i64 g.b, .int .i64 g.p, .int .i64 g.r] 23)).heap.size = w.heap.size + 1 by simp] at Hy
  by_cases h : g.Right
  · rw [Gm.check_ok h] at Hc
    have hp1 := fun h2 => Gm.place_ok (x := x) (y := y) h h2
    have hp2 := fun h2 => Gm.place_none (g := g) (x := x) (y := y) h2
    unfold Gm.Has at hp1 hp2
    obtain ⟨h1, h2, h3, h4, _⟩ := h
    generalize g.place x y = z at *
    rcases g with ⟨b, p, r⟩
    unfold Gm.val at *
    simp only at *
    have f1 := within_any x 0 (b - 1)
    have f2 := within_any y 0 (p - 1)
    have e1 : wrap64 (b - 1) = b - 1 := gwr64 (by omega)
    have e2 : wrap64 (p - 1) = p - 1 := gwr64 (by omega)
    by_cases hx : 0 ≤ x ∧ x ≤ b - 1
    · rw [decide_eq_true hx] at f1
      by_cases hy : 0 ≤ y ∧ y ≤ p - 1
      · rw [decide_eq_true hy] at f2
        have Hz := hide (hp1 ⟨hx.1, hx.2, hy.1, hy.2⟩)
        have hm := mul_within (y := x) (p := p) (by omega) (by omega) (by omega) h4
        have e3 : wrap64 (x * p) = x * p := gwr64 (by omega)
        have e4 : wrap64 (x * p + y) = x * p + y := gwr64 (by omega)
        clear hp1 hp2 hx hy hm
        go_enter Try.func57, Try.ntmps57
        go_wp2_with fail
        (with_reducible refine (Hc.out _).mono ?_)
        rintro e w1 ⟨rfl, hb⟩
        have Hb := hide (Hb0.out.trans (hb.mono (by simp; omega)))
        have cb := (Hx.out.below hb (by simp; omega)).b
        have cp := (Hx.out.below hb (by simp; omega)).p
        have cx := (Hy.out.below hb (by simp)).x
        have cy := (Hy.out.below hb (by simp)).y
        try simp only at cb cp
        clear hb Hc Hx Hy Hb0
        go_wp2_with (first | (go_at_call 30; (with_reducible refine (f1 _).mono ?_); rintro e w2 ⟨rfl, rfl⟩; clear f1) | (go_at_call 30; (with_reducible refine (f2 _).mono ?_); rintro e w2 ⟨rfl, rfl⟩; clear f2))
        go_ret
        exact ⟨gret_int (by rw [Hz.out, e4]), Hb.out⟩
      · rw [decide_eq_false hy] at f2
        have Hz := hide (hp2 (fun h => hy ⟨h.2.2.1, h.2.2.2⟩))
        clear hp1 hp2 hx hy
        go_enter Try.func57, Try.ntmps57
        go_wp2_with fail
        (with_reducible refine (Hc.out _).mono ?_)
        rintro e w1 ⟨rfl, hb⟩
        have Hb := hide (Hb0.out.trans (hb.mono (by simp; omega)))
        have cb := (Hx.out.below hb (by simp; omega)).b
        have cp := (Hx.out.below hb (by simp; omega)).p
        have cx := (Hy.out.below hb (by simp)).x
        have cy := (Hy.out.below hb (by simp)).y
        try simp only at cb cp
        clear hb Hc Hx Hy Hb0
        go_wp2_with (first | (go_at_call 30; (with_reducible refine (f1 _).mono ?_); rintro e w2 ⟨rfl, rfl⟩; clear f1) | (go_at_call 30; (with_reducible refine (f2 _).mono ?_); rintro e w2 ⟨rfl, rfl⟩; clear f2))
        go_ret
        exact ⟨gret_int (by rw [Hz.out]), Hb.out⟩
    · rw [decide_eq_false hx] at f1
      have Hz := hide (hp2 (fun h => hx ⟨h.1, h.2.1⟩))
      clear hp1 hp2 hx
      go_enter Try.func57, Try.ntmps57
      go_wp2_with fail
      (with_reducible refine (Hc.out _).mono ?_)
      rintro e w1 ⟨rfl, hb⟩
      have Hb := hide (Hb0.out.trans (hb.mono (by simp; omega)))
      have cb := (Hx.out.below hb (by simp; omega)).b
      have cp := (Hx.out.below hb (by simp; omega)).p
      have cx := (Hy.out.below hb (by simp)).x
      have cy := (Hy.out.below hb (by simp)).y
      try simp only at cb cp
      clear hb Hc Hx Hy Hb0
      go_wp2_with (first | (go_at_call 30; (with_reducible refine (f1 _).mono ?_); rintro e w2 ⟨rfl, rfl⟩; clear f1))
      go_ret
      exact ⟨gret_int (by rw [Hz.out]), Hb.out⟩
  · rw [Gm.place_not h]
    rw [Gm.check_not h] at Hc
    clear h
    unfold Gm.val at *
    go_enter Try.func57, Try.ntmps57
    go_wp2_with fail
    (with_reducible refine (Hc.out _).mono ?_)
    rintro e w1 ⟨rfl, hb⟩
    have Hb := hide hb
    clear hb Hc
    go_wp2
    go_ret
    exact ⟨rfl, Hb0.out.trans (Hb.out.mono (by simp; omega))⟩
end
section
open Go.RowKit

theorem u8info : (Try.prog.info? 5).map (fun i => (i.zero, i.size, i.bytes)) = some (some (.int .u8 0), 1, 1) := by kernel_rfl

theorem strU8 {w : World} {B : Nat} {A : Option Addr} {l : List UInt8} {n : Nat} (c : Nat) (h : Lies w B A (bys l)) (hn : n = l.length) : (convert 46 9 (.slice A n c)).run Try.prog w = .ok (.string (str l)) w :=
  run_str 46 9 5 n c h hn Try.underlying46 Try.underlying5 Try.underlying9

theorem ret_int {k : IntKind} {a b : Int} (h : a = b) : Ending.returned (.int k a) = .returned (.int k b) := by rw [h]
theorem wr64 {n : Int} (h : -9223372036854775808 ≤ n ∧ n ≤ 9223372036854775807) : wrap64 n = n := by unfold wrap64; omega
theorem ret_bool {a b : Bool} (h : a = b) : Ending.returned (.bool a) = .returned (.bool b) := by rw [h]
/-- A new block of bytes, as something that lies. -/
theorem Lies.fresh (w : World) (l : List UInt8) (t : TypeId) (fr : Nat × Nat) (cs : Array Value) (hcs : cs.toList = bys l) (g B : Nat) (hg : g = w.heap.size) (hB : g < B) : Lies (w.alloc (.cells cs t fr)) B (some ⟨g, 0, none⟩) (bys l) := by
  subst hg; rw [← hcs]; exact Lies.new w cs t fr _ hB
end
section
open Go.RowKit

/-- bytes.Clone: a row of the call's own with the same bytes (nil of nil). -/
theorem clone_any (A : Option Addr) (n c B : Nat) (xs : List Value) (w : World) (h : Lies w B A xs) (hn : n = xs.length) (h1 : ∀ u ∈ xs, u.oneCell' = true) (hbig : n ≤ 140737488355328) :
    Calls Try.prog 31 #[.slice A n c] w fun e w' => ∃ v', e = .returned v' ∧ w'.ownsRow w.heap.size 5 1 v' n xs ∧ Below w.heap.size w w' := by
  obtain ⟨i0, hi, hz0, hz1, hz2⟩ := info_parts u8info
  rcases A with _ | a
  · have hx : xs = [] := by
      rcases h with h | ⟨a, hA, _⟩
      · exact h
      · cases hA
    subst hx
    have hn0 : n = 0 := by simpa using hn
    subst hn0
    clear hn
    have q := fun w n c n' c' => Lib.run_eql_slice_nil (P := Try.prog) w 46 _ none n c n' c' Try.underlying46
    go_enter Try.func31, Try.ntmps31
    go_wp2
    go_ret
    exact ⟨_, rfl, World.ownsRow_nil _ _ _ _, Below.refl _ _⟩
  · have q := fun w n c n' c' => Lib.run_eql_slice_nil (P := Try.prog) w 46 _ (some a) n c n' c' Try.underlying46
    have hc : Hid (∀ j u, xs[j]? = some u → w.cell? (a.add j) = some u) := by
      rcases h with h | ⟨a', hA, _, hc⟩
      · intro j u hu; rw [h] at hu; simp at hu
      · cases hA; exact hc
    have Hn := hide hn
    have H1 := hide h1
    clear h hn h1
    go_enter Try.func31, Try.ntmps31
    go_wp2_with (at_builtin; (refine wpList_append_own _ rfl _ _ 46 rfl w.heap.size 5 i0 (.int .u8 0) 1 1 Try.underlying46 hi hz0 hz1 hz2 rfl (by decide) _ _ _ rfl (World.ownsRow_made w #[] 0 (Nat.le_refl _) (Nat.zero_le _) rfl) a n c xs rfl (by have := Hn.out; omega) ?qc2 H1.out ?qc4 ?qc5 ?qc6 ?_))
    case qc2 => intro j u hj; exact Lib.cell?_alloc_some _ (hc.out j u hj)
    case qc4 => unfold maxLen; omega
    case qc5 => omega
    case qc6 => simp
    intro v' w1 hown hgrow hnil
    go_wp2
    go_ret
    exact ⟨v', rfl, by simpa using hown, ((Below.refl _ w).alloc (Nat.le_refl _) _).grown hgrow (by simp) (by intro k hk; simp [Value.ownBlock] at hk; omega)⟩
end
end Go.Proofs.Ytigpplckddnghaa
