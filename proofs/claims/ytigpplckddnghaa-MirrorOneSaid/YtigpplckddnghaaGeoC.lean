/-
  SIDES OF DEVICES, plain mathematics: which may be, how many of their blocks are bad, how many pages bytes need.
  CONTRACTS of package geom: within, Check; the reference's Right.
-/
import Derived.Test.YtigpplckddnghaaWords
import Derived.Test.YtigpplckddnghaaProg
import Derived.IntWalk
namespace Go.Proofs.Ytigpplckddnghaa
section
open Go.RowKit

/-- A device's sides. -/
structure Gm where
  b : Int
  p : Int
  r : Int
def Gm.cells (g : Gm) : List Value := [.int .i64 g.b, .int .i64 g.p, .int .i64 g.r]
def Gm.val (g : Gm) : Value := .agg #[.int .i64 g.b, .int .i64 g.p, .int .i64 g.r]
/-- May they be? -/
def Gm.Right (g : Gm) : Prop := 8 ≤ g.b ∧ g.b ≤ 34 ∧ 4 ≤ g.p ∧ g.p ≤ 32 ∧ 0 ≤ g.r ∧ g.r ≤ 8
instance (g : Gm) : Decidable g.Right := by unfold Gm.Right; infer_instance
/-- Check's answer. -/
def Gm.check (g : Gm) : Int := if g.Right then 0 else 3

theorem Gm.check_ok {g : Gm} (h : g.Right) : g.check = 0 := if_pos h
theorem Gm.check_not {g : Gm} (h : ¬ g.Right) : g.check = 3 := if_neg h

/-- Is block k marked behind the numbers l? -/
def mark (B : Int) (l : List Int) (k : Nat) : Bool := decide (2 ≤ k ∧ (k : Int) ≤ B - 1 ∧ (k : Int) ∈ l)
/-- The marks as cells. -/
def marks (B : Int) (l : List Int) : List Value := (List.range 34).map fun k => .bool (mark B l k)
end
section
open Go.RowKit

theorem gret_int {k : IntKind} {a b : Int} (h : a = b) : Ending.returned (.int k a) = .returned (.int k b) := by rw [h]
theorem within_any (z a b : Int) (w : World) : Calls Try.prog 30 #[.int .i64 z, .int .i64 a, .int .i64 b] w fun e w' => e = .returned (.bool (decide (a ≤ z ∧ z ≤ b))) ∧ w = w' := by
  by_cases h1 : a ≤ z
  · by_cases h2 : z ≤ b
    · rw [decide_eq_true (And.intro h1 h2)]
      go_enter Try.func30, Try.ntmps30
      go_wp2
      go_ret
      exact ⟨rfl, rfl⟩
    · rw [decide_eq_false (fun h => h2 h.2)]
      go_enter Try.func30, Try.ntmps30
      go_wp2
      go_ret
      exact ⟨rfl, rfl⟩
  · rw [decide_eq_false (fun h => h1 h.1)]
    go_enter Try.func30, Try.ntmps30
    go_wp2
    go_ret
    exact ⟨rfl, rfl⟩

theorem check_any (g : Gm) (w : World) : Calls Try.prog 16 #[g.val] w fun e w' => e = .returned (.int .i64 g.check) ∧ Below w.heap.size w w' := by
  rcases g with ⟨b, p, r⟩
  have Hb := hide (fun o => (Below.refl w.heap.size w).alloc (Nat.le_refl _) o)
  have f1 := within_any b 8 34
  have f2 := within_any p 4 32
  have f3 := within_any r 0 8
  unfold Gm.val
  simp only
  by_cases h1 : 8 ≤ b ∧ b ≤ 34
  · rw [decide_eq_true h1] at f1
    by_cases h2 : 4 ≤ p ∧ p ≤ 32
    · rw [decide_eq_true h2] at f2
      by_cases h3 : 0 ≤ r ∧ r ≤ 8
      · rw [decide_eq_true h3] at f3
        rw [Gm.check_ok (show Gm.Right ⟨b, p, r⟩ from ⟨h1.1, h1.2, h2.1, h2.2, h3.1, h3.2⟩)]
        clear h1 h2 h3
        go_enter Try.func16, Try.ntmps16
        go_wp2_with (first
          | (go_at_call 30; (with_reducible refine (f1 _).mono ?_); rintro e w1 ⟨rfl, rfl⟩; clear f1)
          | (go_at_call 30; (with_reducible refine (f2 _).mono ?_); rintro e w1 ⟨rfl, rfl⟩; clear f2)
          | (go_at_call 30; (with_reducible refine (f3 _).mono ?_); rintro e w1 ⟨rfl, rfl⟩; clear f3))
        go_ret
        exact ⟨rfl, Hb.out _⟩
      · rw [decide_eq_false h3] at f3
        rw [Gm.check_not (show ¬ Gm.Right ⟨b, p, r⟩ from fun h => h3 ⟨h.2.2.2.2.1, h.2.2.2.2.2⟩)]
        clear h1 h2 h3
        go_enter Try.func16, Try.ntmps16
        go_wp2_with (first
          | (go_at_call 30; (with_reducible refine (f1 _).mono ?_); rintro e w1 ⟨rfl, rfl⟩; clear f1)
          | (go_at_call 30; (with_reducible refine (f2 _).mono ?_); rintro e w1 ⟨rfl, rfl⟩; clear f2)
          | (go_at_call 30; (with_reducible refine (f3 _).mono ?_); rintro e w1 ⟨rfl, rfl⟩; clear f3))
        go_ret
        exact ⟨rfl, Hb.out _⟩
    · rw [decide_eq_false h2] at f2
      rw [Gm.check_not (show ¬ Gm.Right ⟨b, p, r⟩ from fun h => h2 ⟨h.2.2.1, h.2.2.2.1⟩)]
      clear h1 h2
      go_enter Try.func16, Try.ntmps16
      go_wp2_with (first
        | (go_at_call 30; (with_reducible refine (f1 _).mono ?_); rintro e w1 ⟨rfl, rfl⟩; clear f1)
        | (go_at_call 30; (with_reducible refine (f2 _).mono ?_); rintro e w1 ⟨rfl, rfl⟩; clear f2))
      go_ret
      exact ⟨rfl, Hb.out _⟩
  · rw [decide_eq_false h1] at f1
    rw [Gm.check_not (show ¬ Gm.Right ⟨b, p, r⟩ from fun h => h1 ⟨h.1, h.2.1⟩)]
    clear h1
    go_enter Try.func16, Try.ntmps16
    go_wp2_with (go_at_call 30; (with_reducible refine (f1 _).mono ?_); rintro e w1 ⟨rfl, rfl⟩; clear f1)
    go_ret
    exact ⟨rfl, Hb.out _⟩

theorem gwr64 {n : Int} (h : -9223372036854775808 ≤ n ∧ n ≤ 9223372036854775807) : wrap64 n = n := by unfold wrap64; omega
theorem right13_any (g : Gm) (w : World) : Calls Try.prog 5 #[g.val] w fun e w' => e = .returned (.bool (decide g.Right)) ∧ Below w.heap.size w w' := by
  rcases g with ⟨b, p, r⟩
  have Hb := hide (fun o => (Below.refl w.heap.size w).alloc (Nat.le_refl _) o)
  unfold Gm.val
  simp only
  by_cases h : Gm.Right ⟨b, p, r⟩
  · rw [decide_eq_true h]
    obtain ⟨h1, h2, h3, h4, h5, h6⟩ := h
    simp only at h1 h2 h3 h4 h5 h6
    go_enter Try.func5, Try.ntmps5
    go_wp2
    go_ret
    exact ⟨rfl, Hb.out _⟩
  · rw [decide_eq_false h]
    by_cases h1 : 8 ≤ b
    · by_cases h2 : b ≤ 34
      · by_cases h3 : 4 ≤ p
        · by_cases h4 : p ≤ 32
          · by_cases h5 : 0 ≤ r
            · have h6 : ¬ r ≤ 8 := fun h6 => h ⟨h1, h2, h3, h4, h5, h6⟩
              clear h
              go_enter Try.func5, Try.ntmps5
              go_wp2
              go_ret
              exact ⟨rfl, Hb.out _⟩
            · clear h
              go_enter Try.func5, Try.ntmps5
              go_wp2
              go_ret
              exact ⟨rfl, Hb.out _⟩
          · clear h
            go_enter Try.func5, Try.ntmps5
            go_wp2
            go_ret
            exact ⟨rfl, Hb.out _⟩
        · clear h
          go_enter Try.func5, Try.ntmps5
          go_wp2
          go_ret
          exact ⟨rfl, Hb.out _⟩
      · clear h
        go_enter Try.func5, Try.ntmps5
        go_wp2
        go_ret
        exact ⟨rfl, Hb.out _⟩
    · clear h
      go_enter Try.func5, Try.ntmps5
      go_wp2
      go_ret
      exact ⟨rfl, Hb.out _⟩
end
end Go.Proofs.Ytigpplckddnghaa
