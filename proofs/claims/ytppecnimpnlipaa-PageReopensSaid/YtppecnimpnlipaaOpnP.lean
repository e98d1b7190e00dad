/-
  WHAT COMES IN TO THE PAGE STATEMENTS, opened: heads, rows of masks.
-/
import Derived.Test.YtppecnimpnlipaaOpen
import Derived.Test.YtppecnimpnlipaaPgV
import Derived.Deep.Slices
namespace Go.Proofs.Ytppecnimpnlipaa
open Go.ChangeShapes Go.WideShapes Go.ChangeAt Go.RowKit Go.Joins Go.Deep

section
variable {H : Type} {enc : TypeId × Value → H} {W : World} {base : Nat} {held : Bool}

abbrev ReadsP (enc : TypeId × Value → H) (W : World) (base : Nat) (held : Bool) (t : TypeId) (cs : List Value) : Prop := ∃ fuel x, DataW.trod enc Try.prog W base (fun _ => true) held fuel t cs = some x
theorem reads_fieldsP {t : TypeId} {fs : Array Field} {cs : List Value} (ht : Try.prog.underlying t = some (.struct fs)) (h : ReadsP enc W base held t cs) :
    cs.length = Try.prog.cellsOf t ∧ ∀ (i : Nat) (f : Field), fs[i]? = some f → ReadsP enc W base held f.type ((cs.drop f.offset).take (Try.prog.cellsOf f.type)) := by
  obtain ⟨fuel, x, h⟩ := h
  obtain ⟨xs, n, _, _, hl, hxl, hf⟩ := DataW.trod_struct ht h
  refine ⟨hl, fun i f hi => ⟨n, xs[i]'(by rw [hxl]; exact (Array.getElem?_eq_some_iff.1 hi).1), ?_⟩⟩
  rw [hf i f hi, List.getElem?_eq_getElem]
theorem reads_intP {cs : List Value} (h : ReadsP enc W base held 3 cs) : ∃ z : Int, cs = [.int .i64 z] ∧ (-9223372036854775808 ≤ z ∧ z ≤ 9223372036854775807) := by
  obtain ⟨fuel, x, h⟩ := h
  obtain ⟨z, e, _, hw⟩ := DataW.trod_int Try.underlying3 h
  simp only [Lit.wf, Bool.and_eq_true, decide_eq_true_eq] at hw
  have h1 : IntKind.i64.min = -9223372036854775808 := by rfl
  have h2 : IntKind.i64.max = 9223372036854775807 := by rfl
  rw [h1, h2] at hw
  exact ⟨z, e, hw.1, hw.2⟩
theorem reads_u8sP {cs : List Value} (h : ReadsP enc W base held 40 cs) : ∃ A n c, ∃ l : List UInt8, cs = [.slice A n c] ∧ Lies W W.heap.size A (bys l) ∧ n = l.length ∧ n ≤ c := by
  obtain ⟨fuel, x, h⟩ := h
  obtain ⟨A, m, c, l, e, hl, hm, hmc, _⟩ := open_u8s Try.underlying40 Try.underlying5 (by kernel_rfl) h
  exact ⟨A, m, c, l, e, hl, hm, hmc⟩
theorem reads_rowsP {α : Type} {t e : TypeId} {m : Nat} (f : α → List Value) (hm0 : 0 < m) (hfl : ∀ x, (f x).length = m) (ht : Try.prog.underlying t = some (.slice e)) (hc : Try.prog.cellsOf e = m) {Pr : α → Prop} (he : ∀ cs, ReadsP enc W base held e cs → ∃ x : α, cs = f x ∧ Pr x) {cs : List Value} (h : ReadsP enc W base held t cs) :
    ∃ A n c, ∃ l : List α, cs = [.slice A n c] ∧ Lies W W.heap.size A (l.flatMap f) ∧ n = l.length ∧ n ≤ c ∧ c ≤ maxLen ∧ ∀ x ∈ l, Pr x := by
  obtain ⟨fuel, x, h⟩ := h
  rcases open_slice ht h with ⟨rfl, _⟩ | ⟨a, len, cap, k, n, D, Pl, rfl, _, hl, hcm, hk, _, hx⟩
  · exact ⟨none, 0, 0, [], rfl, .inl rfl, rfl, Nat.le_refl _, Nat.zero_le _, by simp⟩
  · simp only [if_true] at hk
    have each : ∀ i, i < len → ∃ x : α, Pr x ∧ ∀ j v, (f x)[j]? = some v → W.cell? ((a.add (i * m)).add j) = some v := by
      intro i hi
      obtain ⟨cs', h1, h2⟩ := hx i (by omega)
      rw [hc] at h1
      obtain ⟨_, hlen, hcell⟩ := World.cells?_some h1
      obtain ⟨x, rfl, hp⟩ := he cs' ⟨n, _, h2⟩
      refine ⟨x, hp, fun j v hv => ?_⟩
      rw [hcell j (by rw [← hlen]; exact (List.getElem?_eq_some_iff.1 hv).1), hv]
    by_cases h0 : len = 0
    · subst h0
      exact ⟨some a, 0, cap, [], rfl, .inl rfl, rfl, hl, hcm, by simp⟩
    · letI : Inhabited α := ⟨(each 0 (by omega)).choose⟩
      obtain ⟨g, hg⟩ := choose_lt each
      refine ⟨some a, len, cap, (List.range len).map g, rfl, lies_of a _ ?_, by simp, hl, hcm, fun x hx => ?_⟩
      · intro j u hu
        have hjl : j < len * m := by
          have := (List.getElem?_eq_some_iff.1 hu).1
          rw [flat_len f m hfl] at this
          simpa using this
        have hi : j / m < len := Nat.div_lt_of_lt_mul (by rw [Nat.mul_comm]; exact hjl)
        have hj : j = j / m * m + j % m := by rw [Nat.mul_comm]; exact (Nat.div_add_mod j m).symm
        rw [hj, flat_at f m hfl _ (j / m) (by simpa using hi) _ (Nat.mod_lt _ hm0)] at hu
        have := (hg (j / m) hi).2 (j % m) u (by simpa using hu)
        rwa [Addr.add_add', ← hj] at this
      · obtain ⟨i, hi, rfl⟩ := List.mem_map.1 hx
        exact (hg i (List.mem_range.1 hi)).1
theorem flat_oneP {α : Type} (g : α → Value) (l : List α) : l.flatMap (fun z => [g z]) = l.map g := by
  induction l with
  | nil => rfl
  | cons a l ih => rw [List.flatMap_cons, ih]; rfl
theorem cells_intP : Try.prog.cellsOf 3 = 1 := by kernel_rfl
theorem cells_u64P : Try.prog.cellsOf 55 = 1 := by kernel_rfl
theorem cells_u8sP : Try.prog.cellsOf 40 = 1 := by kernel_rfl
theorem cells_headP : Try.prog.cellsOf 57 = 7 := by kernel_rfl
theorem reads_u64P {cs : List Value} (h : ReadsP enc W base held 55 cs) : ∃ z : Nat, cs = [.int .u64 (z : Int)] ∧ z < 18446744073709551616 := by
  obtain ⟨fuel, x, h⟩ := h
  obtain ⟨z, e, _, hw⟩ := DataW.trod_int Try.underlying55 h
  simp only [Lit.wf, Bool.and_eq_true, decide_eq_true_eq] at hw
  have h1 : IntKind.u64.min = 0 := by rfl
  have h2 : IntKind.u64.max = 18446744073709551615 := by rfl
  rw [h1, h2] at hw
  obtain ⟨n, rfl⟩ := Int.eq_ofNat_of_zero_le hw.1
  exact ⟨n, e, by omega⟩
set_option maxRecDepth 100000 in
/-- A head that came in. -/
theorem reads_headP {cs : List Value} (h : ReadsP enc W base held 57 cs) : ∃ q : Hd, cs = q.cells := by
  obtain ⟨hl, hf⟩ := reads_fieldsP Try.underlying57 h
  rw [cells_headP] at hl
  have f0 : ReadsP enc W base held 3 ((cs.drop 0).take (Try.prog.cellsOf 3)) := hf 0 _ rfl
  have f1 : ReadsP enc W base held 3 ((cs.drop 1).take (Try.prog.cellsOf 3)) := hf 1 _ rfl
  have f2 : ReadsP enc W base held 3 ((cs.drop 2).take (Try.prog.cellsOf 3)) := hf 2 _ rfl
  have f3 : ReadsP enc W base held 55 ((cs.drop 3).take (Try.prog.cellsOf 55)) := hf 3 _ rfl
  have f4 : ReadsP enc W base held 55 ((cs.drop 4).take (Try.prog.cellsOf 55)) := hf 4 _ rfl
  have f5 : ReadsP enc W base held 3 ((cs.drop 5).take (Try.prog.cellsOf 3)) := hf 5 _ rfl
  have f6 : ReadsP enc W base held 3 ((cs.drop 6).take (Try.prog.cellsOf 3)) := hf 6 _ rfl
  simp only [cells_intP, cells_u64P] at f0 f1 f2 f3 f4 f5 f6
  match cs, hl with
  | [v0, v1, v2, v3, v4, v5, v6], _ =>
    obtain ⟨a, e0, _⟩ := reads_intP f0
    obtain ⟨b, e1, _⟩ := reads_intP f1
    obtain ⟨c, e2, _⟩ := reads_intP f2
    obtain ⟨d, e3, _⟩ := reads_u64P f3
    obtain ⟨e, e4, _⟩ := reads_u64P f4
    obtain ⟨f, e5, _⟩ := reads_intP f5
    obtain ⟨g, e6, _⟩ := reads_intP f6
    simp at e0 e1 e2 e3 e4 e5 e6
    exact ⟨⟨a, b, c, d, e, f, g⟩, by rw [e0, e1, e2, e3, e4, e5, e6]; rfl⟩
theorem open_headP {fuel : Nat} {cs : List Value} {x : DataW H × List MemPlace} (h : DataW.trod enc Try.prog W base (fun _ => true) held fuel 57 cs = some x) : ∃ q : Hd, cs = q.cells := reads_headP ⟨fuel, x, h⟩
theorem open_masksP {fuel : Nat} {cs : List Value} {x : DataW H × List MemPlace} (h : DataW.trod enc Try.prog W base (fun _ => true) held fuel 70 cs = some x) :
    ∃ A n c, ∃ l : List Sl, cs = [.slice A n c] ∧ Lies W W.heap.size A (l.flatMap Sl.cells) ∧ n = l.length ∧ n ≤ c ∧ c ≤ maxLen ∧ ∀ y ∈ l, y.Ok W W.heap.size :=
  reads_rowsP Sl.cells (m := 1) (by omega) Sl.cells_len Try.underlying70 cells_u8sP (fun cs h => by
    obtain ⟨A, n, c, l, e, h1, h2, h3⟩ := reads_u8sP h
    exact ⟨⟨A, n, c, l⟩, e, h1, h2, h3⟩) ⟨fuel, x, h⟩
theorem str_of (s : ByteArray) : s = str s.data.toList := by
  apply ByteArray.ext
  simp [str]
end
end Go.Proofs.Ytppecnimpnlipaa
