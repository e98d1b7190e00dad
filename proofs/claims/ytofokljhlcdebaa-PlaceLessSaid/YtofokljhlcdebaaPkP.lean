/-
  LAYER 20, THE REFERENCE: Blocks. (By gen/PkP.gen.py.)
-/
import Derived.Test.YtofokljhlcdebaaPkC
import Derived.Test.YtofokljhlcdebaaElem
namespace Go.Proofs.Ytofokljhlcdebaa
open Go.RowKit
set_option maxRecDepth 8000

/-- What Blocks has found behind k of the places. -/
structure Bo (w0 : World) (L : List Pl2) (k : Nat) (O : List Int) (v : Value) (W : World) : Prop where
  own : W.ownsRow w0.heap.size 3 1 v O.length (nums .i64 O)
  bl : IsBl O (L.take k)
  len : O.length ≤ k
  below : Below w0.heap.size w0 W
theorem take_mem {L : List Pl2} {k : Nat} {x y : Int} (hx : L[k]? = some (x, y)) (z : Int) : z ∈ (L.take (k + 1)).map Prod.fst ↔ z ∈ (L.take k).map Prod.fst ∨ z = x := by
  obtain ⟨h, e⟩ := List.getElem?_eq_some_iff.1 hx
  rw [← List.take_append_getElem h, e, List.map_append, List.mem_append]
  simp
section
variable {w0 W W' : World} {L : List Pl2} {k : Nat} {O : List Int} {v : Value}
theorem Bo.later (h : Bo w0 L k O v W) (hb : Below W.heap.size W W') : Bo w0 L k O v W' := ⟨own_keepT h.own hb, h.bl, h.len, h.below.trans (hb.mono h.below.size)⟩
theorem Bo.skip {x y : Int} (h : Bo w0 L k O v W) (hx : L[k]? = some (x, y)) (hm : x ∈ O) : Bo w0 L (k + 1) O v W := by
  refine ⟨h.own, ⟨h.bl.1, fun z => ?_⟩, Nat.le_succ_of_le h.len, h.below⟩
  rw [take_mem hx, ← h.bl.2 z]
  constructor
  · exact .inl
  · rintro (h1 | rfl)
    · exact h1
    · exact hm
theorem Bo.more {W1 W2 W3 W4 W5 : World} {u1 u2 : Value} {A : Option Addr} {c j : Nat} {x y : Int} (h : Bo w0 L k O v W) (hx : L[k]? = some (x, y)) (hlo : ∀ t (ht : t < O.length), t < j → O[t] < x) (hhi : ∀ t (ht : t < O.length), j ≤ t → x < O[t]) (hj : j ≤ O.length)
    (hb1 : Below W.heap.size W W1) (hg2 : W1.grownBy W2 (some W.heap.size)) (hb3 : Below W2.heap.size W2 W3) (hu1 : ∀ g, u1.ownBlock = some g → W.heap.size ≤ g) (hg4 : W3.grownBy W4 u1.ownBlock)
    (hu2 : ∀ g, u2.ownBlock = some g → W.heap.size ≤ g) (hg5 : W4.grownBy W5 u2.ownBlock)
    (hown : W5.ownsRow W.heap.size 3 1 (.slice A (O.length + 1) c) (O.length + 1) (nums .i64 (O.take j) ++ [.int .i64 x] ++ nums .i64 (O.drop j))) :
    Bo w0 L (k + 1) (O.take j ++ [x] ++ O.drop j) (.slice A (O.length + 1) c) W5 := by
  have hs := h.below.size
  have b2 : Below W.heap.size W W2 := hb1.grown hg2 hb1.size (fun g e => by injection e with e; omega)
  have b4 : Below W.heap.size W W4 := (b2.trans (hb3.mono b2.size)).grown hg4 (Nat.le_trans b2.size hb3.size) hu1
  have b5 : Below W.heap.size W W5 := b4.grown hg5 b4.size hu2
  have hl : (O.take j ++ [x] ++ O.drop j).length = O.length + 1 := by simp; omega
  refine ⟨?_, ⟨?_, fun z => ?_⟩, by rw [hl]; exact Nat.succ_le_succ h.len, h.below.trans (b5.mono hs)⟩
  · rw [hl, show nums .i64 (O.take j ++ [x] ++ O.drop j) = nums .i64 (O.take j) ++ [.int .i64 x] ++ nums .i64 (O.drop j) by rw [nums_app, nums_app]; rfl]
    refine ⟨hown.1, ?_⟩
    rcases hown.2 with h0 | ⟨g, cap, cur, hv, hb, hr⟩
    · exact .inl h0
    · exact .inr ⟨g, cap, cur, hv, Nat.le_trans hs hb, hr⟩
  · have hp := h.bl.1
    rw [← List.take_append_drop j O, List.pairwise_append] at hp
    rw [List.append_assoc, List.pairwise_append]
    have hd : ∀ z ∈ O.drop j, x < z := fun z hz => by
      obtain ⟨t, ht, rfl⟩ := List.getElem_of_mem hz
      rw [List.getElem_drop]
      exact hhi _ _ (Nat.le_add_right _ _)
    have htk : ∀ z ∈ O.take j, z < x := fun z hz => by
      obtain ⟨t, ht, rfl⟩ := List.getElem_of_mem hz
      rw [List.getElem_take]
      rw [List.length_take] at ht
      exact hlo _ _ (by omega)
    refine ⟨hp.1, ?_, fun z hz z' hz' => ?_⟩
    · rw [List.singleton_append, List.pairwise_cons]
      exact ⟨hd, hp.2.1⟩
    · rcases List.mem_append.1 hz' with h1 | h1
      · rw [List.mem_singleton] at h1; exact h1 ▸ htk z hz
      · exact hp.2.2 z hz z' h1
  · rw [take_mem hx, ← h.bl.2 z]
    have e : z ∈ O ↔ z ∈ O.take j ∨ z ∈ O.drop j := by rw [← List.mem_append, List.take_append_drop]
    rw [e, List.mem_append, List.mem_append, List.mem_singleton]
    constructor
    · rintro ((h1 | h1) | h1)
      · exact .inl (.inl h1)
      · exact .inr h1
      · exact .inl (.inr h1)
    · rintro ((h1 | h1) | h1)
      · exact .inl (.inl h1)
      · exact .inr h1
      · exact .inl (.inr h1)
end
end Go.Proofs.Ytofokljhlcdebaa
