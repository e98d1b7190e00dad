/-
  SLICES OF BUNDLES written out, and whole bundles loaded in a region that draws its order: laws for the walk.
-/
import Derived.Test.YtlbgcbekjjkokaaSpli
import Derived.Great.BuildSlice
import Derived.StillTailTactics
import Derived.StillTactics
namespace Go.Proofs.Ytlbgcbekjjkokaa
open Go.RowKit

theorem foldl_putAt (off : Nat) : ∀ (vs : List Value) (k : Nat) (cs : Array Value), (vs.zipIdx k).foldl (fun (c : Array Value) (x : Value × Nat) => c.setIfInBounds (off + x.2) x.1) cs = putArr cs (off + k) vs
  | [], _, _ => rfl
  | v :: r, k, cs => by
    rw [List.zipIdx_cons, List.foldl_cons]
    exact foldl_putAt off r (k + 1) _
theorem fold_cells (b : Bn) (i : Nat) (cs : List Value) (h : (i + 1) * 25 ≤ cs.length) : Array.foldl (fun (cs : Array Value) (x : Value × Nat) => match x with | (c, j) => cs.setIfInBounds (i * 25 + j) c) cs.toArray b.val.cells.zipIdx = (cs.take (i * 25) ++ (b.cells ++ cs.drop (i * 25 + 25))).toArray := by
  rw [show b.val.cells = b.cells.toArray from rfl, ← Array.foldl_toList, Array.toList_zipIdx]
  refine (foldl_putAt (i * 25) b.cells 0 cs.toArray).trans ?_
  rw [putArr_eq _ _ _ (by rw [Bn.cells_len]; omega), Bn.cells_len]
  rfl
theorem fill_step (b : Bn) (i : Nat) (cs : List Value) (rest : List (Nat × Value)) (h : (i + 1) * 25 ≤ cs.length) :
    Instr.fill (fun i => some (i * 25, 25)) cs.toArray ((i, b.val) :: rest) = Instr.fill (fun i => some (i * 25, 25)) (cs.take (i * 25) ++ (b.cells ++ cs.drop (i * 25 + 25))).toArray rest := by
  rw [← fold_cells b i cs h]
  have hs : b.val.cells.size = 25 := rfl
  have h2 : i * 25 + 25 ≤ cs.toArray.size := by rw [List.size_toArray]; omega
  generalize cs.toArray = ca at *
  rw [Instr.fill]
  simp only [hs]
  rw [if_neg (by simp; omega)]
theorem fill_bns : ∀ (ls : List Bn) (i : Nat) (cs : List Value), (i + ls.length) * 25 ≤ cs.length →
    Instr.fill (fun i => some (i * 25, 25)) cs.toArray ((ls.zipIdx i).map fun x => (x.2, Bn.val x.1)) = some (cs.take (i * 25) ++ (rowN ls ++ cs.drop ((i + ls.length) * 25))).toArray
  | [], i, cs, h => by
    show some cs.toArray = _
    simp [rowN]
  | b :: r, i, cs, h => by
    have h' : (i + (r.length + 1)) * 25 ≤ cs.length := h
    have h1 : (cs.take (i * 25)).length = i * 25 := by rw [List.length_take]; omega
    have h26 := Bn.cells_len b
    rw [List.zipIdx_cons, List.map_cons, fill_step b i cs _ (by omega)]
    rw [fill_bns r (i + 1) _ (by rw [List.length_append, List.length_append, h1, h26, List.length_drop]; omega)]
    have e2 : (cs.take (i * 25) ++ (b.cells ++ cs.drop (i * 25 + 25))).take ((i + 1) * 25) = cs.take (i * 25) ++ b.cells := by
      rw [← List.append_assoc, List.take_append_of_le_length (by rw [List.length_append, h1, h26]; omega), List.take_of_length_le (by rw [List.length_append, h1, h26]; omega)]
    have e3 : (cs.take (i * 25) ++ (b.cells ++ cs.drop (i * 25 + 25))).drop ((i + 1 + r.length) * 25) = cs.drop ((i + (r.length + 1)) * 25) := by
      rw [← List.append_assoc, List.drop_append, List.drop_of_length_le (by rw [List.length_append, h1, h26]; omega), List.nil_append, List.drop_drop]
      congr 1
      rw [List.length_append, h1, h26]
      omega
    rw [e2, e3, List.length_cons, show rowN (b :: r) = b.cells ++ rowN r from List.flatMap_cons, List.append_assoc, List.append_assoc]

set_option maxRecDepth 100000 in
theorem wpl_build_bns {ops : Array Oper} {rest : List Oper} {o : Oper} {a : Act} {w : World} {Q : Exit → Act → World → Prop} (hg : o.guard = none) (len : Nat) (parts : Array (Nat × Operand)) (ho : o.op = .buildSlice 36 len parts) (ls : List Bn) (hlen : len = ls.length) (hpos : 0 < len) (hsm : len ≤ 1000)
    (hp : (parts.map fun (i, x) => (i, a.eval x)).toList = (ls.zipIdx 0).map fun x => (x.2, Bn.val x.1))
    (h : wpList Try.prog ops Q rest (a.put o.dst (.slice (some ⟨w.heap.size, 0, none⟩) len len)) (w.alloc (.cells (rowN ls).toArray 33))) : wpList Try.prog ops Q (o :: rest) a w := by
  obtain ⟨i0, hi0, hz0, hzs, _⟩ := info_parts bninfo
  refine wpList_buildSlice hg 36 33 len parts ho _ i0 zBn.val Try.underlying36 hi0 hz0 (by rw [hzs]; omega) (by rw [hzs]; omega) ?_ h
  rw [hp, hzs]
  obtain ⟨zs, hzz⟩ : ∃ zs : List Value, zs.toArray = (Array.range (len * 25)).map (zBn.val.cells[· % zBn.val.cells.size]!) := ⟨_, Array.toArray_toList⟩
  have hzl : zs.length = len * 25 := by have := congrArg Array.size hzz; simpa using this
  rw [← hzz, fill_bns ls 0 zs (by rw [hzl, hlen]; omega)]
  congr 2
  rw [Nat.zero_mul, List.take_zero, List.nil_append, List.drop_of_length_le (by rw [hzl, hlen]; omega), List.append_nil]

set_option maxRecDepth 100000 in
theorem wp_build_bns {o : Oper} {a : Act} {w : World} {K : Act → World → Prop} {Q : Exit → Act → World → Prop} (len : Nat) (parts : Array (Nat × Operand)) (ho : o.op = .buildSlice 36 len parts) (ls : List Bn) (hlen : len = ls.length) (hpos : 0 < len) (hsm : len ≤ 1000)
    (hp : (parts.map fun (i, x) => (i, a.eval x)).toList = (ls.zipIdx 0).map fun x => (x.2, Bn.val x.1))
    (h : K (a.put o.dst (.slice (some ⟨w.heap.size, 0, none⟩) len len)) (w.alloc (.cells (rowN ls).toArray 33))) : o.wp Try.prog a w K Q := by
  obtain ⟨i0, hi0, hz0, hzs, _⟩ := info_parts bninfo
  refine wp_buildSlice 36 33 len parts ho _ i0 zBn.val Try.underlying36 hi0 hz0 (by rw [hzs]; omega) (by rw [hzs]; omega) ?_ h
  rw [hp, hzs]
  obtain ⟨zs, hzz⟩ : ∃ zs : List Value, zs.toArray = (Array.range (len * 25)).map (zBn.val.cells[· % zBn.val.cells.size]!) := ⟨_, Array.toArray_toList⟩
  have hzl : zs.length = len * 25 := by have := congrArg Array.size hzz; simpa using this
  rw [← hzz, fill_bns ls 0 zs (by rw [hzl, hlen]; omega)]
  congr 2
  rw [Nat.zero_mul, List.take_zero, List.nil_append, List.drop_of_length_le (by rw [hzl, hlen]; omega), List.append_nil]

/-- A whole struct loaded in the head of a region that draws. -/
theorem still_load_addr {P : Program} {ops : Array Oper} {rest : List Oper} {op : Oper} {a : Act} {w : World} {Q : Act → Prop} (hgd : op.guard = none) (ty : TypeId) (x : Operand) (ho : op.op = .load ty x) (p : Addr) (cs : List Value) (hc : ∀ j v, cs[j]? = some v → w.cell? (p.add j) = some v)
    (hx : a.eval x = .pointer (some p)) (d : TypeDesc) (hu : P.underlying ty = some d) (hd : d.isRow = true) (n : Nat) (hi : (P.info? ty).map (·.size) = some n) (hn : cs.length = n)
    (h : wpStill P ops w Q rest (a.put op.dst (.agg cs.toArray))) : wpStill P ops w Q (op :: rest) a := by
  have hl : (loadCells p cs.length).run P w = .ok cs.toArray w := run_loadCells_list (P := P) w p cs hc
  have hrun : (loadVar ty p).run P w = .ok (.agg cs.toArray) w := by
    cases hq : P.info? ty with
    | none => simp [hq] at hi
    | some i =>
      have hs : i.size = cs.length := by simp [hq] at hi; omega
      have hagg : (isAgg ty).run P w = .ok true w := by
        unfold isAgg
        rw [Sem.run_bind, run_underlying hu w]
        cases d <;> simp_all
      simp [loadVar, Sem.run_bind, hagg, sizeOf, typeInfo, hq, hs, hl]
  have hw : Region.wanted op (yielded ops a.tmps) = true := by simp [Region.wanted, hgd]
  unfold wpStill
  rw [if_pos hw]
  unfold Oper.still execOp
  simp only [ho, hx, Instr.loadAt, Instr.sureAddr, Sem.run_bind, Sem.run_pure, Result.andThen_ok, hrun]
  rw [Oper.stillUpon_value]
  exact h

end Go.Proofs.Ytlbgcbekjjkokaa
