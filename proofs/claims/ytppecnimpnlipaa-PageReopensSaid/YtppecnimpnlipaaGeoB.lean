/-
  SIDES IN THEIR BOX; numbers as cells.
-/
import Derived.Test.YtppecnimpnlipaaGeoC
import Derived.OneCell
import Derived.WalkSmall
namespace Go.Proofs.Ytppecnimpnlipaa
open Go.RowKit

/-- Numbers as cells. -/
def i64s (l : List Int) : List Value := l.map fun z => .int .i64 z
theorem i64s_len (l : List Int) : (i64s l).length = l.length := by simp [i64s]
theorem Lies.int {w : World} {B : Nat} {A : Option Addr} {l : List Int} {k : Nat} (h : Lies w B A (i64s l)) (hk : k < l.length) : ∃ a, A = some a ∧ a.block < B ∧ w.cell? (a.add k) = some (.int .i64 (l[k]'hk)) := by
  obtain ⟨a, hA, hb, hc⟩ := h.at_ (k := k) (by rw [i64s_len]; exact hk)
  exact ⟨a, hA, hb, hc.trans (by simp [i64s])⟩

/-- The sides in their box. -/
def Boxed (g : Gm) (k : Nat) (w : World) : Prop := ∃ fr, w.heap[k]? = some (.cells #[.int .i64 g.b, .int .i64 g.p, .int .i64 g.r] 23 fr)
theorem Boxed.below {g : Gm} {k B : Nat} {w w' : World} (h : Boxed g k w) (hb : Below B w w') (hk : k < B) : Boxed g k w' := by
  obtain ⟨fr, h⟩ := h
  exact ⟨fr, (hb.block k hk).trans h⟩
theorem Boxed.new (g : Gm) (w : World) : Boxed g w.heap.size (w.alloc (.cells #[.int .i64 g.b, .int .i64 g.p, .int .i64 g.r] 23)) := ⟨_, heap_alloc_new w _⟩
theorem Boxed.b {g : Gm} {k : Nat} {w : World} (h : Boxed g k w) : w.cell? ⟨k, 0, none⟩ = some (.int .i64 g.b) := by
  obtain ⟨fr, h⟩ := h; exact World.news_of_block h 0 _ rfl
theorem Boxed.p {g : Gm} {k : Nat} {w : World} (h : Boxed g k w) : w.cell? ⟨k, 1, none⟩ = some (.int .i64 g.p) := by
  obtain ⟨fr, h⟩ := h; exact World.news_of_block h 1 _ rfl
theorem Boxed.r {g : Gm} {k : Nat} {w : World} (h : Boxed g k w) : w.cell? ⟨k, 2, none⟩ = some (.int .i64 g.r) := by
  obtain ⟨fr, h⟩ := h; exact World.news_of_block h 2 _ rfl

theorem mul_within {y p : Int} (h1 : -100 ≤ y) (h2 : y ≤ 100) (h3 : 0 ≤ p) (h4 : p ≤ 32) : -3200 ≤ y * p ∧ y * p ≤ 3200 := by
  have a := Int.mul_le_mul_of_nonneg_right h1 h3
  have b := Int.mul_le_mul_of_nonneg_right h2 h3
  omega


end Go.Proofs.Ytppecnimpnlipaa
