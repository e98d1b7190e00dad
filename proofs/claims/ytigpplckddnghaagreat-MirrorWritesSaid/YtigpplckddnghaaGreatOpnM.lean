/-
  TABLES that came in, opened.
  ROWS OF TABLES that came in, opened.
-/
import Derived.Test.YtigpplckddnghaaGreatOpnN
import Derived.Test.YtigpplckddnghaaGreatFlow
import Derived.Test.YtigpplckddnghaaGreatTbD
import Derived.Deep.Slices
import Derived.Test.YtigpplckddnghaaGreatMrN
namespace Go.Proofs.YtigpplckddnghaaGreat
section
open Go.ChangeShapes Go.WideShapes Go.ChangeAt Go.RowKit Go.Joins Go.Deep

section
variable {H : Type} {enc : TypeId × Value → H} {W : World} {base : Nat} {held : Bool}

abbrev ReadsT (enc : TypeId × Value → H) (W : World) (base : Nat) (held : Bool) (t : TypeId) (cs : List Value) : Prop := ∃ fuel x, DataW.trod enc Tryz.prog W base (fun _ => true) held fuel t cs = some x
theorem reads_fieldsT {t : TypeId} {fs : Array Field} {cs : List Value} (ht : Tryz.prog.underlying t = some (.struct fs)) (h : ReadsT enc W base held t cs) :
    cs.length = Tryz.prog.cellsOf t ∧ ∀ (i : Nat) (f : Field), fs[i]? = some f → ReadsT enc W base held f.type ((cs.drop f.offset).take (Tryz.prog.cellsOf f.type)) := by
  obtain ⟨fuel, x, h⟩ := h
  obtain ⟨xs, n, _, _, hl, hxl, hf⟩ := DataW.trod_struct ht h
  refine ⟨hl, fun i f hi => ⟨n, xs[i]'(by rw [hxl]; exact (Array.getElem?_eq_some_iff.1 hi).1), ?_⟩⟩
  rw [hf i f hi, List.getElem?_eq_getElem]
theorem reads_intT {cs : List Value} (h : ReadsT enc W base held 3 cs) : ∃ z : Int, cs = [.int .i64 z] ∧ (-9223372036854775808 ≤ z ∧ z ≤ 9223372036854775807) := by
  obtain ⟨fuel, x, h⟩ := h
  obtain ⟨z, e, _, hw⟩ := DataW.trod_int Tryz.underlying3 h
  simp only [Lit.wf, Bool.and_eq_true, decide_eq_true_eq] at hw
  have h1 : IntKind.i64.min = -9223372036854775808 := by rfl
  have h2 : IntKind.i64.max = 9223372036854775807 := by rfl
  rw [h1, h2] at hw
  exact ⟨z, e, hw.1, hw.2⟩
theorem reads_rowsT {α : Type} {t e : TypeId} {m : Nat} (f : α → List Value) (hm0 : 0 < m) (hfl : ∀ x, (f x).length = m) (ht : Tryz.prog.underlying t = some (.slice e)) (hc : Tryz.prog.cellsOf e = m) {Pr : α → Prop} (he : ∀ cs, ReadsT enc W base held e cs → ∃ x : α, cs = f x ∧ Pr x) {cs : List Value} (h : ReadsT enc W base held t cs) :
    ∃ A n c, ∃ l : List α, cs = [.slice A n c] ∧ Lies W W.heap.size A (l.flatMap f) ∧ n = l.length ∧ n ≤ c ∧ c ≤ maxLen ∧ ∀ x ∈ l, Pr x := by
  obtain ⟨fuel, x, h⟩ := h
  rcases open_slice ht h with ⟨rfl, _⟩ | ⟨a, len, cap, k, n, D, Pl, rfl, _, hl, hcm, hk, _, hx⟩
  · exact ⟨none, 0, 0, [], rfl, .inl rfl, rfl, Nat.le_refl _, Nat.zero_le _, by simp⟩
  · simp only [if_true] at hk
    have each : ∀ i, i < len → ∃ x : α, Pr x ∧ ∀ j v, (f x)[j]? = some v → W.cell? ((a.add (i * m)).add j) = some v := by
      intro i hi
      obtain ⟨cs', h1, h2⟩ := hx i (by omega)
      rw [hc] at h1
      obtain ⟨_, hlen, hcell⟩ := World.cells?_some h1
      obtain ⟨x, rfl, hp⟩ := he cs' ⟨n, _, h2⟩
      refine ⟨x, hp, fun j v hv => ?_⟩
      rw [hcell j (by rw [← hlen]; exact (List.getElem?_eq_some_iff.1 hv).1), hv]
    by_cases h0 : len = 0
    · subst h0
      exact ⟨some a, 0, cap, [], rfl, .inl rfl, rfl, hl, hcm, by simp⟩
    · letI : Inhabited α := ⟨(each 0 (by omega)).choose⟩
      obtain ⟨g, hg⟩ := choose_lt each
      refine ⟨some a, len, cap, (List.range len).map g, rfl, lies_of a _ ?_, by simp, hl, hcm, fun x hx => ?_⟩
      · intro j u hu
        have hjl : j < len * m := by
          have := (List.getElem?_eq_some_iff.1 hu).1
          rw [flat_len f m hfl] at this
          simpa using this
        have hi : j / m < len := Nat.div_lt_of_lt_mul (by rw [Nat.mul_comm]; exact hjl)
        have hj : j = j / m * m + j % m := by rw [Nat.mul_comm]; exact (Nat.div_add_mod j m).symm
        rw [hj, flat_at f m hfl _ (j / m) (by simpa using hi) _ (Nat.mod_lt _ hm0)] at hu
        have := (hg (j / m) hi).2 (j % m) u (by simpa using hu)
        rwa [Addr.add_add', ← hj] at this
      · obtain ⟨i, hi, rfl⟩ := List.mem_map.1 hx
        exact (hg i (List.mem_range.1 hi)).1
theorem flat_oneT {α : Type} (g : α → Value) (l : List α) : l.flatMap (fun z => [g z]) = l.map g := by
  induction l with
  | nil => rfl
  | cons a l ih => rw [List.flatMap_cons, ih]; rfl
theorem cells_intT : Tryz.prog.cellsOf 3 = 1 := by kernel_rfl
theorem cells_u64T : Tryz.prog.cellsOf 22 = 1 := by kernel_rfl
theorem reads_u64T {cs : List Value} (h : ReadsT enc W base held 22 cs) : ∃ z : Nat, cs = [.int .u64 (z : Int)] ∧ z < 18446744073709551616 := by
  obtain ⟨fuel, x, h⟩ := h
  obtain ⟨z, e, _, hw⟩ := DataW.trod_int Tryz.underlying22 h
  simp only [Lit.wf, Bool.and_eq_true, decide_eq_true_eq] at hw
  have h1 : IntKind.u64.min = 0 := by rfl
  have h2 : IntKind.u64.max = 18446744073709551615 := by rfl
  rw [h1, h2] at hw
  obtain ⟨n, rfl⟩ := Int.eq_ofNat_of_zero_le hw.1
  exact ⟨n, e, by omega⟩
theorem cells_intsT : Tryz.prog.cellsOf 23 = 1 := by kernel_rfl
theorem cells_u64sT : Tryz.prog.cellsOf 24 = 1 := by kernel_rfl
theorem cells_tableT : Tryz.prog.cellsOf 26 = 4 := by kernel_rfl
end
end
section
open Go.ChangeShapes Go.WideShapes Go.ChangeAt Go.RowKit Go.Joins Go.Deep
section
variable {H : Type} {enc : TypeId × Value → H} {W : World} {base : Nat} {held : Bool}
theorem reads_intsL {cs : List Value} (h : ReadsT enc W base held 23 cs) : ∃ A n c, ∃ l : List Int, cs = [.slice A n c] ∧ Lies W W.heap.size A (nums .i64 l) ∧ n = l.length ∧ n ≤ c ∧ c ≤ maxLen := by
  obtain ⟨A, n, c, l, e, hl, hn, hc, hm, _⟩ := reads_rowsT (fun z : Int => [.int .i64 z]) (by decide) (fun _ => rfl) Tryz.underlying23 cells_intT (Pr := fun _ => True) (fun cs h => by obtain ⟨z, e, _⟩ := reads_intT h; exact ⟨z, e, trivial⟩) h
  exact ⟨A, n, c, l, e, by rw [flat_oneT] at hl; exact hl, hn, hc, hm⟩
theorem reads_u64sL {cs : List Value} (h : ReadsT enc W base held 24 cs) : ∃ A n c, ∃ l : List Int, cs = [.slice A n c] ∧ Lies W W.heap.size A (nums .u64 l) ∧ n = l.length ∧ n ≤ c ∧ c ≤ maxLen ∧ ∀ y ∈ l, 0 ≤ y ∧ y < 18446744073709551616 := by
  obtain ⟨A, n, c, l, e, hl, hn, hc, hm, hp⟩ := reads_rowsT (fun z : Int => [.int .u64 z]) (by decide) (fun _ => rfl) Tryz.underlying24 cells_u64T (Pr := fun z => 0 ≤ z ∧ z < 18446744073709551616) (fun cs h => by obtain ⟨z, e, h1⟩ := reads_u64T h; exact ⟨(z : Int), e, by omega, by omega⟩) h
  exact ⟨A, n, c, l, e, by rw [flat_oneT] at hl; exact hl, hn, hc, hm, hp⟩
set_option maxRecDepth 100000 in
theorem reads_tableL {cs : List Value} (h : ReadsT enc W base held 26 cs) : ∃ x : Tl, x.cells = cs ∧ x.Ok W W.heap.size ∧ x.Long := by
  obtain ⟨hl, hf⟩ := reads_fieldsT Tryz.underlying26 h
  rw [cells_tableT] at hl
  have f0 : ReadsT enc W base held 22 ((cs.drop 0).take (Tryz.prog.cellsOf 22)) := hf 0 _ rfl
  have f1 : ReadsT enc W base held 23 ((cs.drop 1).take (Tryz.prog.cellsOf 23)) := hf 1 _ rfl
  have f2 : ReadsT enc W base held 23 ((cs.drop 2).take (Tryz.prog.cellsOf 23)) := hf 2 _ rfl
  have f3 : ReadsT enc W base held 24 ((cs.drop 3).take (Tryz.prog.cellsOf 24)) := hf 3 _ rfl
  simp only [cells_u64T, cells_intsT, cells_u64sT] at f0 f1 f2 f3
  match cs, hl with
  | [v0, v1, v2, v3], _ =>
    obtain ⟨a, e0, ha⟩ := reads_u64T f0
    obtain ⟨A1, n1, c1, l1, e1, L1, hn1, hc1, hm1⟩ := reads_intsL f1
    obtain ⟨A2, n2, c2, l2, e2, L2, hn2, hc2, hm2⟩ := reads_intsL f2
    obtain ⟨A3, n3, c3, l3, e3, L3, hn3, hc3, hm3, hp⟩ := reads_u64sL f3
    simp at e0 e1 e2 e3
    have M : maxLen = 9223372036854775807 := rfl
    exact ⟨⟨⟨a, l1, l2, l3⟩, A1, A2, A3, c1, c2, c3⟩, by rw [e0, e1, e2, e3, hn1, hn2, hn3]; rfl, ⟨L1, L2, L3, by show l1.length ≤ c1; omega, by show l2.length ≤ c2; omega, by show l3.length ≤ c3; omega, fun y hy => (hp y hy).1, ha, fun y hy => (hp y hy).2⟩, ⟨by show l1.length ≤ _; omega, by show l2.length ≤ _; omega, by show l3.length ≤ _; omega⟩⟩
theorem open_tables {fuel : Nat} {cs : List Value} {x : DataW H × List MemPlace} (h : DataW.trod enc Tryz.prog W base (fun _ => true) held fuel 44 cs = some x) : ∃ A n c, ∃ l : List Tl, cs = [.slice A n c] ∧ Lies W W.heap.size A (rowT l) ∧ n = l.length ∧ n ≤ c ∧ c ≤ maxLen ∧ ∀ x ∈ l, x.Ok W W.heap.size ∧ x.Long :=
  reads_rowsT Tl.cells (by decide) Tl.cells_len Tryz.underlying44 cells_tableT (fun cs h => by obtain ⟨x, e, hx⟩ := reads_tableL h; exact ⟨x, e.symm, hx⟩) ⟨fuel, x, h⟩
end
end
end Go.Proofs.YtigpplckddnghaaGreat
