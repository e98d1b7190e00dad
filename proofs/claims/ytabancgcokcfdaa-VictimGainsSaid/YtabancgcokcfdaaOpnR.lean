/-
  ROWS that came in, opened: numbers; finds.
-/
import Derived.Test.YtabancgcokcfdaaOpen
import Derived.Test.YtabancgcokcfdaaElem
import Derived.Test.YtabancgcokcfdaaTbM
import Derived.Deep.Slices
namespace Go.Proofs.Ytabancgcokcfdaa
open Go.ChangeShapes Go.WideShapes Go.ChangeAt Go.RowKit Go.Joins Go.Deep

section
variable {H : Type} {enc : TypeId × Value → H} {W : World} {base : Nat} {held : Bool}

abbrev ReadsR (enc : TypeId × Value → H) (W : World) (base : Nat) (held : Bool) (t : TypeId) (cs : List Value) : Prop := ∃ fuel x, DataW.trod enc Try.prog W base (fun _ => true) held fuel t cs = some x
theorem reads_fieldsR {t : TypeId} {fs : Array Field} {cs : List Value} (ht : Try.prog.underlying t = some (.struct fs)) (h : ReadsR enc W base held t cs) :
    cs.length = Try.prog.cellsOf t ∧ ∀ (i : Nat) (f : Field), fs[i]? = some f → ReadsR enc W base held f.type ((cs.drop f.offset).take (Try.prog.cellsOf f.type)) := by
  obtain ⟨fuel, x, h⟩ := h
  obtain ⟨xs, n, _, _, hl, hxl, hf⟩ := DataW.trod_struct ht h
  refine ⟨hl, fun i f hi => ⟨n, xs[i]'(by rw [hxl]; exact (Array.getElem?_eq_some_iff.1 hi).1), ?_⟩⟩
  rw [hf i f hi, List.getElem?_eq_getElem]
theorem reads_intR {cs : List Value} (h : ReadsR enc W base held 3 cs) : ∃ z : Int, cs = [.int .i64 z] ∧ (-9223372036854775808 ≤ z ∧ z ≤ 9223372036854775807) := by
  obtain ⟨fuel, x, h⟩ := h
  obtain ⟨z, e, _, hw⟩ := DataW.trod_int Try.underlying3 h
  simp only [Lit.wf, Bool.and_eq_true, decide_eq_true_eq] at hw
  have h1 : IntKind.i64.min = -9223372036854775808 := by rfl
  have h2 : IntKind.i64.max = 9223372036854775807 := by rfl
  rw [h1, h2] at hw
  exact ⟨z, e, hw.1, hw.2⟩
theorem reads_rowsR {α : Type} {t e : TypeId} {m : Nat} (f : α → List Value) (hm0 : 0 < m) (hfl : ∀ x, (f x).length = m) (ht : Try.prog.underlying t = some (.slice e)) (hc : Try.prog.cellsOf e = m) {Pr : α → Prop} (he : ∀ cs, ReadsR enc W base held e cs → ∃ x : α, cs = f x ∧ Pr x) {cs : List Value} (h : ReadsR enc W base held t cs) :
    ∃ A n c, ∃ l : List α, cs = [.slice A n c] ∧ Lies W W.heap.size A (l.flatMap f) ∧ n = l.length ∧ n ≤ c ∧ c ≤ maxLen ∧ ∀ x ∈ l, Pr x := by
  obtain ⟨fuel, x, h⟩ := h
  rcases open_slice ht h with ⟨rfl, _⟩ | ⟨a, len, cap, k, n, D, Pl, rfl, _, hl, hcm, hk, _, hx⟩
  · exact ⟨none, 0, 0, [], rfl, .inl rfl, rfl, Nat.le_refl _, Nat.zero_le _, by simp⟩
  · simp only [if_true] at hk
    have each : ∀ i, i < len → ∃ x : α, Pr x ∧ ∀ j v, (f x)[j]? = some v → W.cell? ((a.add (i * m)).add j) = some v := by
      intro i hi
      obtain ⟨cs', h1, h2⟩ := hx i (by omega)
      rw [hc] at h1
      obtain ⟨_, hlen, hcell⟩ := World.cells?_some h1
      obtain ⟨x, rfl, hp⟩ := he cs' ⟨n, _, h2⟩
      refine ⟨x, hp, fun j v hv => ?_⟩
      rw [hcell j (by rw [← hlen]; exact (List.getElem?_eq_some_iff.1 hv).1), hv]
    by_cases h0 : len = 0
    · subst h0
      exact ⟨some a, 0, cap, [], rfl, .inl rfl, rfl, hl, hcm, by simp⟩
    · letI : Inhabited α := ⟨(each 0 (by omega)).choose⟩
      obtain ⟨g, hg⟩ := choose_lt each
      refine ⟨some a, len, cap, (List.range len).map g, rfl, lies_of a _ ?_, by simp, hl, hcm, fun x hx => ?_⟩
      · intro j u hu
        have hjl : j < len * m := by
          have := (List.getElem?_eq_some_iff.1 hu).1
          rw [flat_len f m hfl] at this
          simpa using this
        have hi : j / m < len := Nat.div_lt_of_lt_mul (by rw [Nat.mul_comm]; exact hjl)
        have hj : j = j / m * m + j % m := by rw [Nat.mul_comm]; exact (Nat.div_add_mod j m).symm
        rw [hj, flat_at f m hfl _ (j / m) (by simpa using hi) _ (Nat.mod_lt _ hm0)] at hu
        have := (hg (j / m) hi).2 (j % m) u (by simpa using hu)
        rwa [Addr.add_add', ← hj] at this
      · obtain ⟨i, hi, rfl⟩ := List.mem_map.1 hx
        exact (hg i (List.mem_range.1 hi)).1
theorem flat_oneR {α : Type} (g : α → Value) (l : List α) : l.flatMap (fun z => [g z]) = l.map g := by
  induction l with
  | nil => rfl
  | cons a l ih => rw [List.flatMap_cons, ih]; rfl
theorem cells_intR : Try.prog.cellsOf 3 = 1 := by kernel_rfl
theorem open_intsR {fuel : Nat} {cs : List Value} {x : DataW H × List MemPlace} (h : DataW.trod enc Try.prog W base (fun _ => true) held fuel 22 cs = some x) : ∃ A n c, ∃ l : List Int, cs = [.slice A n c] ∧ Lies W W.heap.size A (nums .i64 l) ∧ n = l.length ∧ n ≤ c ∧ c ≤ maxLen ∧ ∀ z ∈ l, -9223372036854775808 ≤ z ∧ z ≤ 9223372036854775807 := by
  obtain ⟨A, n, c, l, e, hl, hn, hc, hm, hp⟩ := reads_rowsR (Pr := fun z : Int => -9223372036854775808 ≤ z ∧ z ≤ 9223372036854775807) (fun z : Int => [Value.int .i64 z]) (m := 1) (by omega) (fun _ => rfl) Try.underlying22 cells_intR (fun cs h => reads_intR h) ⟨fuel, x, h⟩
  rw [flat_oneR] at hl
  exact ⟨A, n, c, l, e, hl, hn, hc, hm, hp⟩
end
end Go.Proofs.Ytabancgcokcfdaa
