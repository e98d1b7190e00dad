/-
  SIDES OF DEVICES, plain mathematics: which may be, how many of their blocks are bad, how many pages bytes need.
-/
import Derived.Test.YtppecnimpnlipaaWords
namespace Go.Proofs.Ytppecnimpnlipaa
open Go.RowKit

/-- A device's sides. -/
structure Gm where
  b : Int
  p : Int
  r : Int
def Gm.cells (g : Gm) : List Value := [.int .i64 g.b, .int .i64 g.p, .int .i64 g.r]
def Gm.val (g : Gm) : Value := .agg #[.int .i64 g.b, .int .i64 g.p, .int .i64 g.r]
/-- May they be? -/
def Gm.Right (g : Gm) : Prop := 8 ≤ g.b ∧ g.b ≤ 34 ∧ 4 ≤ g.p ∧ g.p ≤ 32 ∧ 0 ≤ g.r ∧ g.r ≤ 8
instance (g : Gm) : Decidable g.Right := by unfold Gm.Right; infer_instance
/-- Check's answer. -/
def Gm.check (g : Gm) : Int := if g.Right then 0 else 3

theorem Gm.check_ok {g : Gm} (h : g.Right) : g.check = 0 := if_pos h
theorem Gm.check_not {g : Gm} (h : ¬ g.Right) : g.check = 3 := if_neg h

/-- Is block k marked behind the numbers l? -/
def mark (B : Int) (l : List Int) (k : Nat) : Bool := decide (2 ≤ k ∧ (k : Int) ≤ B - 1 ∧ (k : Int) ∈ l)
/-- How many data blocks of B blocks are bad. -/
def badN (B : Int) (l : List Int) : Nat := ((List.range 34).filter (mark B l)).length

theorem mark_nil (B : Int) (k : Nat) : mark B [] k = false := by simp [mark]
theorem badN_nil (B : Int) : badN B [] = 0 := by
  unfold badN
  rw [List.filter_eq_nil_iff.2 (fun k _ => by rw [mark_nil]; decide)]
  rfl
theorem badN_le (B : Int) (l : List Int) : badN B l ≤ 34 := by
  unfold badN
  exact Nat.le_trans (List.length_filter_le _ _) (by simp)
theorem mark_snoc (B z : Int) (l : List Int) (k : Nat) : mark B (l ++ [z]) k = (mark B l k || decide (2 ≤ k ∧ (k : Int) ≤ B - 1 ∧ (k : Int) = z)) := by
  rw [Bool.eq_iff_iff]
  simp only [mark, Bool.or_eq_true, decide_eq_true_eq, List.mem_append, List.mem_singleton]
  constructor
  · rintro ⟨h1, h2, h3 | h3⟩
    · exact .inl ⟨h1, h2, h3⟩
    · exact .inr ⟨h1, h2, h3⟩
  · rintro (⟨h1, h2, h3⟩ | ⟨h1, h2, h3⟩)
    · exact ⟨h1, h2, .inl h3⟩
    · exact ⟨h1, h2, .inr h3⟩
theorem mark_old {B z : Int} {l : List Int} (h : ¬ (2 ≤ z ∧ z ≤ B - 1)) : mark B (l ++ [z]) = mark B l := by
  funext k
  rw [mark_snoc, decide_eq_false (by omega), Bool.or_false]
theorem mark_again {B : Int} {l : List Int} {k : Nat} (h : mark B l k = true) : mark B (l ++ [(k : Int)]) = mark B l := by
  funext j
  rw [mark_snoc]
  by_cases hj : j = k
  · subst hj; rw [h, Bool.true_or]
  · rw [decide_eq_false (by omega), Bool.or_false]
theorem mark_set {B : Int} {l : List Int} {k : Nat} (h2 : 2 ≤ k) (hB : (k : Int) ≤ B - 1) (j : Nat) : mark B (l ++ [(k : Int)]) j = if j = k then true else mark B l j := by
  rw [mark_snoc]
  by_cases hj : j = k
  · subst hj; rw [if_pos rfl, decide_eq_true ⟨h2, hB, rfl⟩, Bool.or_true]
  · rw [if_neg hj, decide_eq_false (by omega), Bool.or_false]
theorem filter_one (p q : Nat → Bool) (k : Nat) (hp : p k = false) (hq : ∀ j, q j = if j = k then true else p j) : ∀ n, ((List.range n).filter q).length = ((List.range n).filter p).length + if k < n then 1 else 0
  | 0 => by simp
  | n + 1 => by
    have ih := filter_one p q k hp hq n
    rw [List.range_succ, List.filter_append, List.filter_append, List.length_append, List.length_append, ih]
    have e := hq n
    by_cases hn : n = k
    · subst hn
      rw [if_pos rfl] at e
      simp [e, hp]
    · rw [if_neg hn] at e
      have : (List.filter q [n]).length = (List.filter p [n]).length := by simp [List.filter_cons, e]
      rw [this]
      by_cases h1 : k < n
      · rw [if_pos h1, if_pos (by omega)]; omega
      · rw [if_neg h1, if_neg (by omega)]; omega
theorem badN_old {B z : Int} {l : List Int} (h : ¬ (2 ≤ z ∧ z ≤ B - 1)) : badN B (l ++ [z]) = badN B l := by
  unfold badN; rw [mark_old h]
theorem badN_again {B : Int} {l : List Int} {k : Nat} (h : mark B l k = true) : badN B (l ++ [(k : Int)]) = badN B l := by
  unfold badN; rw [mark_again h]
theorem badN_new {B : Int} {l : List Int} {k : Nat} (hk : k < 34) (h2 : 2 ≤ k) (hB : (k : Int) ≤ B - 1) (h : mark B l k = false) : badN B (l ++ [(k : Int)]) = badN B l + 1 := by
  unfold badN
  rw [filter_one (mark B l) _ k h (mark_set h2 hB) 34, if_pos hk]

/-- The marks as cells. -/
def marks (B : Int) (l : List Int) : List Value := (List.range 34).map fun k => .bool (mark B l k)
theorem marks_len (B : Int) (l : List Int) : (marks B l).length = 34 := by simp [marks]
theorem marks_at {B : Int} {l : List Int} {k : Nat} (hk : k < 34) : (marks B l)[k]? = some (.bool (mark B l k)) := by
  simp [marks, hk]
theorem marks_set {B : Int} {l : List Int} {k : Nat} (h2 : 2 ≤ k) (hB : (k : Int) ≤ B - 1) : (marks B l).set k (.bool true) = marks B (l ++ [(k : Int)]) := by
  apply List.ext_getElem
  · rw [List.length_set, marks_len, marks_len]
  · intro j h1 h3
    simp only [marks, List.getElem_set, List.getElem_map, List.getElem_range, mark_set h2 hB]
    by_cases hj : k = j
    · rw [if_pos hj, if_pos hj.symm]
    · rw [if_neg hj, if_neg (fun h => hj h.symm)]

/-- How many pages n bytes need. -/
def pagesZ (n : Int) : Int := (max n 1 - 1) / 228 + 1
theorem pagesZ_max (n : Int) : max n 1 = if 1 ≤ n then n else 1 := by omega

/-- How many data blocks are good; how many logical pages there are; how many of them bundles may have. -/
def Gm.good (g : Gm) (l : List Int) : Int := if g.Right then g.b - 2 - badN g.b l else 0
def Gm.logical (g : Gm) (l : List Int) : Int := if g.Right then max ((g.good l - g.r - 2) * g.p - 16) 0 else 0
def Gm.budget (g : Gm) (l : List Int) : Int := max (g.logical l - 1) 0
end Go.Proofs.Ytppecnimpnlipaa
