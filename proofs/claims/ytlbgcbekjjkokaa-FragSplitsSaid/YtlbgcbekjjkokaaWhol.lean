/-
  CONTRACTS: the function that frag.whole looks for a first fragment by.
-/
import Derived.Test.YtlbgcbekjjkokaaFcl
import Derived.Test.YtlbgcbekjjkokaaStra
namespace Go.Proofs.Ytlbgcbekjjkokaa
open Go.RowKit

theorem whole1_any (b : Bn) (w : World) : Calls Try.prog 39 #[b.val] w fun e w' => e = .returned (.bool (decide (b.p.off = 0))) ∧ Below w.heap.size w w' := by
  have HB := hide (fun o => (Below.refl w.heap.size w).alloc (Nat.le_refl _) o)
  have HD := hide (show ((b.p.off : Int) == 0) = decide (b.p.off = 0) by
    by_cases h : b.p.off = 0
    · rw [decide_eq_true h, h]; rfl
    · rw [decide_eq_false h]; exact beq_eq_false_iff_ne.2 (by omega))
  rcases b with ⟨⟨fl, crc, ⟨d0, d1, d2, d3⟩, ⟨s0, s1, s2, s3⟩, ⟨r0, r1, r2, r3⟩, time, seq, life, off, tot⟩, A, n, c, bs, ⟨ty, num, fl2, crc2, data⟩⟩
  simp only [Bn.val, Bn.cells]
  go_enter Try.func39, Try.ntmps39
  go_wp2
  go_ret
  exact ⟨by first | rfl | exact ret_bool HD.out, HB.out _⟩

/-- Cells put into an array, from a place on. -/
def putArr : Array Value → Nat → List Value → Array Value
  | cs, _, [] => cs
  | cs, o, v :: r => putArr (cs.setIfInBounds o v) (o + 1) r
theorem setRow_self (w : World) (g : Nat) (cs : Array Value) (t : TypeId) (fr : Nat × Nat) (hg : w.heap[g]? = some (.cells cs t fr)) : w.setRow g cs = w := by
  have hlt : g < w.heap.size := (Array.getElem?_eq_some_iff.1 hg).1
  have hv : w.heap[g] = .cells cs t fr := (Array.getElem?_eq_some_iff.1 hg).2
  unfold World.setRow
  cases w with
  | mk heap tape drawn os output =>
    congr 1
    apply Array.ext
    · simp
    · intro k h1 h2
      simp only [Array.getElem_modify]
      split
      · rename_i hk; subst hk; simp at hv; simp [hv]
      · rfl
theorem setCells_row (g : Nat) (t : TypeId) : ∀ (vs : List Value) (o : Nat) (w : World) (cs : Array Value), w.heap[g]? = some (.cells cs t (0, 0)) → w.setCells g o vs = w.setRow g (putArr cs o vs)
  | [], o, w, cs, hg => (setRow_self w g cs t (0, 0) hg).symm
  | v :: r, o, w, cs, hg => by
    rw [World.setCells, setCell_eq_setRow w g o cs t (0, 0) v hg, setCells_row g t r (o + 1) _ (cs.setIfInBounds o v) (setRow_heap w g cs _ t _ hg), setRow_setRow]
    rfl
/-- A whole struct into the midst of a block. -/
theorem wpl_store_part {P : Program} {ops : Array Oper} {rest : List Oper} {op : Oper} {a : Act} {Q : Exit → Act → World → Prop} {w : World} (hgd : op.guard = none) (ty : TypeId) (x y : Operand) (ho : op.op = .store ty x y) (g o : Nat) (t : TypeId) (old cells : Array Value)
    (hg : w.heap[g]? = some (.cells old t (0, 0))) (hx : a.eval x = .pointer (some ⟨g, o, none⟩)) (hy : a.eval y = .agg cells) (n : Nat) (hi : (P.info? ty).map (·.size) = some n) (hnew : cells.size = n) (hold : decide (o + n ≤ old.size) = true) (h1 : cells.toList.all (·.oneCell') = true)
    (h : wpList P ops Q rest (a.put op.dst undef) (w.setRow g (putArr old o cells.toList))) : wpList P ops Q (op :: rest) a w := by
  have hold' := of_decide_eq_true hold
  refine wpList_store_mid hgd ty x y ho g o cells hx hy (fun j hj => ⟨?_, ?_⟩) (by rw [hi, hnew]) (by rw [← Array.all_toList]; exact h1) ?_
  · simp [World.cell?, hg, show o + j < old.size by omega]
  · simp [World.frozen?, hg]
  · rw [setCells_row g t cells.toList o w old hg]; exact h

end Go.Proofs.Ytlbgcbekjjkokaa
