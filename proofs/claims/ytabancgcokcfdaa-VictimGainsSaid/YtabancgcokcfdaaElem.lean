/-
  ROWS OF STRUCTS as cells; loads of a whole element. Nothing here speaks of one function.
-/
import Derived.Test.YtabancgcokcfdaaBytes
import Derived.Deep.WholeRow
import Derived.Deep.MidRow
namespace Go.Proofs.Ytabancgcokcfdaa
open Go.RowKit

/-- A struct out of wherever it lies. -/
theorem wpl_load_addr {P : Program} {ops : Array Oper} {rest : List Oper} {op : Oper} {a : Act} {w : World} {Q : Exit → Act → World → Prop} (hgd : op.guard = none) (ty : TypeId) (x : Operand) (ho : op.op = .load ty x) (p : Addr) (cs : List Value) (hc : ∀ j v, cs[j]? = some v → w.cell? (p.add j) = some v)
    (hx : a.eval x = .pointer (some p)) (d : TypeDesc) (hu : P.underlying ty = some d) (hd : d.isRow = true) (n : Nat) (hi : (P.info? ty).map (·.size) = some n) (hn : cs.length = n)
    (h : wpList P ops Q rest (a.put op.dst (.agg cs.toArray)) w) : wpList P ops Q (op :: rest) a w := by
  have hl : (loadCells p cs.length).run P w = .ok cs.toArray w := run_loadCells_list (P := P) w p cs hc
  have hrun : (loadVar ty p).run P w = .ok (.agg cs.toArray) w := by
    cases hq : P.info? ty with
    | none => simp [hq] at hi
    | some i =>
      have hs : i.size = cs.length := by simp [hq] at hi; omega
      have hagg : (isAgg ty).run P w = .ok true w := by
        unfold isAgg
        rw [Sem.run_bind, run_underlying hu w]
        cases d <;> simp_all
      simp [loadVar, Sem.run_bind, hagg, sizeOf, typeInfo, hq, hs, hl]
  refine wpList_plain hgd fun K hK => ?_
  unfold Oper.wp execOp
  simp only [ho, hx, Instr.loadAt, Instr.sureAddr, Sem.run_bind, Sem.run_pure, Result.andThen_ok, hrun]
  exact hK _ _ h

theorem flat_at {α : Type} (f : α → List Value) (m : Nat) (hm : ∀ x, (f x).length = m) : ∀ (l : List α) (k : Nat) (hk : k < l.length) (j : Nat), j < m → (l.flatMap f)[k * m + j]? = (f l[k])[j]?
  | [], k, hk, j, hj => by simp at hk
  | x :: l, 0, hk, j, hj => by
    rw [List.flatMap_cons, Nat.zero_mul, Nat.zero_add, List.getElem?_append_left (by rw [hm]; exact hj)]
    rfl
  | x :: l, k + 1, hk, j, hj => by
    rw [List.flatMap_cons, List.getElem?_append_right (by rw [hm, Nat.add_mul]; omega), hm, show (k + 1) * m + j - m = k * m + j by rw [Nat.add_mul]; omega]
    exact flat_at f m hm l k (by simpa using hk) j hj
theorem flat_len {α : Type} (f : α → List Value) (m : Nat) (hm : ∀ x, (f x).length = m) : ∀ l : List α, (l.flatMap f).length = l.length * m
  | [] => by simp
  | x :: l => by rw [List.flatMap_cons, List.length_append, hm, flat_len f m hm l, List.length_cons, Nat.add_mul]; omega
theorem Addr.add_add' (a : Addr) (i j : Nat) : (a.add i).add j = a.add (i + j) := by
  unfold Addr.add
  by_cases h1 : i = 0 <;> by_cases h2 : j = 0 <;> simp [h1, h2, Nat.add_assoc]
theorem Lies.elem {w : World} {B : Nat} {A : Option Addr} {α : Type} {f : α → List Value} {m : Nat} (hm : ∀ x, (f x).length = m) {l : List α} (h : Lies w B A (l.flatMap f)) {k : Nat} (hk : k < l.length) (hm0 : 0 < m) :
    ∃ a, A = some a ∧ a.block < B ∧ ∀ j v, (f l[k])[j]? = some v → w.cell? ((a.add (k * m)).add j) = some v := by
  have hlen := flat_len f m hm l
  have hpos : 0 < (l.flatMap f).length := by rw [hlen]; exact Nat.mul_pos (by omega) hm0
  rcases h with h | ⟨a, hA, hb, hc⟩
  · rw [h] at hpos; simp at hpos
  · refine ⟨a, hA, hb, fun j v hv => ?_⟩
    have hj : j < m := by rw [← hm l[k]]; exact (List.getElem?_eq_some_iff.1 hv).1
    rw [Addr.add_add']
    exact hc _ _ (by rw [flat_at f m hm l k hk j hj]; exact hv)

end Go.Proofs.Ytabancgcokcfdaa
