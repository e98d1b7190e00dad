/-
  A REGION THAT DRAWS ITS ORDER and makes one variable of a struct type: reads, calls that leave what was as it was, the variable's block, its store, in whatever order they may come. Nothing here speaks of one function.
-/
import Derived.Test.YtahipfmokbiklaaFree
import Derived.Test.YtahipfmokbiklaaWords
namespace Go.Proofs.Ytahipfmokbiklaa
open Go.RowKit

theorem setRow_belowV {B : Nat} {w W : World} (h : Below B w W) {g : Nat} (hg : B ≤ g) (cs : Array Value) : Below B w (W.setRow g cs) :=
  h.trans ⟨rfl, rfl, rfl, by simp [World.setRow], fun k hk => setRow_other _ _ _ _ (by omega)⟩
/-- The states: operation na makes the block, ns stores into it; slot sl holds its address. -/
def PhiV (na ns sl : Nat) (ty : TypeId) (z h : Array Value) (w0 : World) (L : Nat → Bool) (f : Nat → Value) (W : World) : Prop :=
  Below w0.heap.size w0 W ∧ (L ns = true → L na = true) ∧ (L na = true → ∃ g, f sl = .pointer (some ⟨g, 0, none⟩) ∧ w0.heap.size ≤ g ∧ W.heap[g]? = some (.cells (if L ns = true then h else z) ty (0, 0)))
section
variable {na ns sl n : Nat} {ty : TypeId} {z h : Array Value} {w0 W W' : World} {L : Nat → Bool} {f f' : Nat → Value}
theorem PhiV.loc {B T : List Nat} (ha : na ∈ B) (hs : ns ∈ B) (ht : sl ∈ T) : ∀ L M f g W, (∀ t ∈ T, f t = g t) → (∀ b ∈ B, L b = M b) → PhiV na ns sl ty z h w0 L f W → PhiV na ns sl ty z h w0 M g W := by
  intro L M f g W hf hL hΦ
  unfold PhiV at *
  rw [← hL na ha, ← hL ns hs, ← hf sl ht]
  exact hΦ
theorem PhiV.start : PhiV na ns sl ty z h w0 (fun _ => false) f w0.drew := ⟨(Below.refl _ _).drew, fun h => (Bool.false_ne_true h).elim, fun h => (Bool.false_ne_true h).elim⟩
theorem PhiV.call (hΦ : PhiV na ns sl ty z h w0 L f W) (hb : Below W.heap.size W W') (h1 : na ≠ n) (h2 : ns ≠ n) (hf : f' sl = f sl) : PhiV na ns sl ty z h w0 (Free.plus L n) f' W' := by
  obtain ⟨hB, hi, hg⟩ := hΦ
  unfold PhiV
  have e1 : Free.plus L n na = L na := by simp [Free.plus, h1]
  have e2 : Free.plus L n ns = L ns := by simp [Free.plus, h2]
  rw [e1, e2, hf]
  refine ⟨hB.trans (hb.mono hB.size), hi, fun hl => ?_⟩
  obtain ⟨g, h3, h4, h5⟩ := hg hl
  exact ⟨g, h3, h4, (hb.block g (Array.getElem?_eq_some_iff.1 h5).1).trans h5⟩
theorem PhiV.alloc (hΦ : PhiV na ns sl ty z h w0 L f W) (hl : L na = false) (hne : ns ≠ na) (hf : f' sl = .pointer (some ⟨W.heap.size, 0, none⟩)) : PhiV na ns sl ty z h w0 (Free.plus L na) f' (W.alloc (.cells z ty)) := by
  obtain ⟨hB, hi, hg⟩ := hΦ
  have e2 : Free.plus L na ns = L ns := by simp [Free.plus, hne]
  have e3 : L ns = false := by
    cases e : L ns with
    | false => rfl
    | true => rw [hi e] at hl; cases hl
  unfold PhiV
  rw [e2, e3]
  exact ⟨hB.alloc hB.size _, fun h => (Bool.false_ne_true h).elim, fun _ => ⟨W.heap.size, hf, hB.size, heap_alloc_new W _⟩⟩
theorem PhiV.box (hΦ : PhiV na ns sl ty z h w0 L f W) (ha : L na = true) (hl : L ns = false) : ∃ g, f sl = .pointer (some ⟨g, 0, none⟩) ∧ W.heap[g]? = some (.cells z ty (0, 0)) ∧ (na ≠ ns → PhiV na ns sl ty z h w0 (Free.plus L ns) f (W.setRow g h)) := by
  obtain ⟨hB, hi, hg⟩ := hΦ
  obtain ⟨g, h1, h2, h3⟩ := hg ha
  rw [hl, if_neg Bool.false_ne_true] at h3
  refine ⟨g, h1, h3, fun hne => ?_⟩
  have e1 : Free.plus L ns na = true := by simp [Free.plus, ha]
  have e2 : Free.plus L ns ns = true := by simp [Free.plus]
  unfold PhiV
  rw [e1, e2]
  exact ⟨setRow_belowV hB h2 _, fun _ => rfl, fun _ => ⟨g, h1, h2, setRow_heap _ _ _ _ _ _ h3⟩⟩
theorem PhiV.done (hΦ : PhiV na ns sl ty z h w0 L f W) (ha : L na = true) (hs : L ns = true) : ∃ g, f sl = .pointer (some ⟨g, 0, none⟩) ∧ w0.heap.size ≤ g ∧ W.heap[g]? = some (.cells h ty (0, 0)) ∧ Below w0.heap.size w0 W := by
  obtain ⟨hB, hi, hg⟩ := hΦ
  obtain ⟨g, h1, h2, h3⟩ := hg ha
  rw [if_pos hs] at h3
  exact ⟨g, h1, h2, h3, hB⟩
end
end Go.Proofs.Ytahipfmokbiklaa
