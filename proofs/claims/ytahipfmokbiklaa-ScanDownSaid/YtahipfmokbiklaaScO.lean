/-
  WHAT COMES IN TO THE PAGE STATEMENTS, opened: heads, rows of masks.
  ROWS OF PAGES TO BE LAID, opened.
-/
import Derived.Test.YtahipfmokbiklaaOpnN
import Derived.Test.YtahipfmokbiklaaPgF
import Derived.Deep.Slices
import Derived.Test.YtahipfmokbiklaaScL
namespace Go.Proofs.Ytahipfmokbiklaa
section
open Go.ChangeShapes Go.WideShapes Go.ChangeAt Go.RowKit Go.Joins Go.Deep

section
variable {H : Type} {enc : TypeId × Value → H} {W : World} {base : Nat} {held : Bool}

abbrev ReadsP (enc : TypeId × Value → H) (W : World) (base : Nat) (held : Bool) (t : TypeId) (cs : List Value) : Prop := ∃ fuel x, DataW.trod enc Try.prog W base (fun _ => true) held fuel t cs = some x
theorem reads_fieldsP {t : TypeId} {fs : Array Field} {cs : List Value} (ht : Try.prog.underlying t = some (.struct fs)) (h : ReadsP enc W base held t cs) :
    cs.length = Try.prog.cellsOf t ∧ ∀ (i : Nat) (f : Field), fs[i]? = some f → ReadsP enc W base held f.type ((cs.drop f.offset).take (Try.prog.cellsOf f.type)) := by
  obtain ⟨fuel, x, h⟩ := h
  obtain ⟨xs, n, _, _, hl, hxl, hf⟩ := DataW.trod_struct ht h
  refine ⟨hl, fun i f hi => ⟨n, xs[i]'(by rw [hxl]; exact (Array.getElem?_eq_some_iff.1 hi).1), ?_⟩⟩
  rw [hf i f hi, List.getElem?_eq_getElem]
theorem reads_intP {cs : List Value} (h : ReadsP enc W base held 3 cs) : ∃ z : Int, cs = [.int .i64 z] ∧ (-9223372036854775808 ≤ z ∧ z ≤ 9223372036854775807) := by
  obtain ⟨fuel, x, h⟩ := h
  obtain ⟨z, e, _, hw⟩ := DataW.trod_int Try.underlying3 h
  simp only [Lit.wf, Bool.and_eq_true, decide_eq_true_eq] at hw
  have h1 : IntKind.i64.min = -9223372036854775808 := by rfl
  have h2 : IntKind.i64.max = 9223372036854775807 := by rfl
  rw [h1, h2] at hw
  exact ⟨z, e, hw.1, hw.2⟩
theorem reads_rowsP {α : Type} {t e : TypeId} {m : Nat} (f : α → List Value) (hm0 : 0 < m) (hfl : ∀ x, (f x).length = m) (ht : Try.prog.underlying t = some (.slice e)) (hc : Try.prog.cellsOf e = m) {Pr : α → Prop} (he : ∀ cs, ReadsP enc W base held e cs → ∃ x : α, cs = f x ∧ Pr x) {cs : List Value} (h : ReadsP enc W base held t cs) :
    ∃ A n c, ∃ l : List α, cs = [.slice A n c] ∧ Lies W W.heap.size A (l.flatMap f) ∧ n = l.length ∧ n ≤ c ∧ c ≤ maxLen ∧ ∀ x ∈ l, Pr x := by
  obtain ⟨fuel, x, h⟩ := h
  rcases open_slice ht h with ⟨rfl, _⟩ | ⟨a, len, cap, k, n, D, Pl, rfl, _, hl, hcm, hk, _, hx⟩
  · exact ⟨none, 0, 0, [], rfl, .inl rfl, rfl, Nat.le_refl _, Nat.zero_le _, by simp⟩
  · simp only [if_true] at hk
    have each : ∀ i, i < len → ∃ x : α, Pr x ∧ ∀ j v, (f x)[j]? = some v → W.cell? ((a.add (i * m)).add j) = some v := by
      intro i hi
      obtain ⟨cs', h1, h2⟩ := hx i (by omega)
      rw [hc] at h1
      obtain ⟨_, hlen, hcell⟩ := World.cells?_some h1
      obtain ⟨x, rfl, hp⟩ := he cs' ⟨n, _, h2⟩
      refine ⟨x, hp, fun j v hv => ?_⟩
      rw [hcell j (by rw [← hlen]; exact (List.getElem?_eq_some_iff.1 hv).1), hv]
    by_cases h0 : len = 0
    · subst h0
      exact ⟨some a, 0, cap, [], rfl, .inl rfl, rfl, hl, hcm, by simp⟩
    · letI : Inhabited α := ⟨(each 0 (by omega)).choose⟩
      obtain ⟨g, hg⟩ := choose_lt each
      refine ⟨some a, len, cap, (List.range len).map g, rfl, lies_of a _ ?_, by simp, hl, hcm, fun x hx => ?_⟩
      · intro j u hu
        have hjl : j < len * m := by
          have := (List.getElem?_eq_some_iff.1 hu).1
          rw [flat_len f m hfl] at this
          simpa using this
        have hi : j / m < len := Nat.div_lt_of_lt_mul (by rw [Nat.mul_comm]; exact hjl)
        have hj : j = j / m * m + j % m := by rw [Nat.mul_comm]; exact (Nat.div_add_mod j m).symm
        rw [hj, flat_at f m hfl _ (j / m) (by simpa using hi) _ (Nat.mod_lt _ hm0)] at hu
        have := (hg (j / m) hi).2 (j % m) u (by simpa using hu)
        rwa [Addr.add_add', ← hj] at this
      · obtain ⟨i, hi, rfl⟩ := List.mem_map.1 hx
        exact (hg i (List.mem_range.1 hi)).1
theorem cells_intP : Try.prog.cellsOf 3 = 1 := by kernel_rfl
theorem cells_u64P : Try.prog.cellsOf 40 = 1 := by kernel_rfl
theorem cells_headP : Try.prog.cellsOf 42 = 7 := by kernel_rfl
theorem reads_u64P {cs : List Value} (h : ReadsP enc W base held 40 cs) : ∃ z : Nat, cs = [.int .u64 (z : Int)] ∧ z < 18446744073709551616 := by
  obtain ⟨fuel, x, h⟩ := h
  obtain ⟨z, e, _, hw⟩ := DataW.trod_int Try.underlying40 h
  simp only [Lit.wf, Bool.and_eq_true, decide_eq_true_eq] at hw
  have h1 : IntKind.u64.min = 0 := by rfl
  have h2 : IntKind.u64.max = 18446744073709551615 := by rfl
  rw [h1, h2] at hw
  obtain ⟨n, rfl⟩ := Int.eq_ofNat_of_zero_le hw.1
  exact ⟨n, e, by omega⟩
set_option maxRecDepth 100000 in
/-- A head that came in. -/
theorem reads_headP {cs : List Value} (h : ReadsP enc W base held 42 cs) : ∃ q : Hd, cs = q.cells := by
  obtain ⟨hl, hf⟩ := reads_fieldsP Try.underlying42 h
  rw [cells_headP] at hl
  have f0 : ReadsP enc W base held 3 ((cs.drop 0).take (Try.prog.cellsOf 3)) := hf 0 _ rfl
  have f1 : ReadsP enc W base held 3 ((cs.drop 1).take (Try.prog.cellsOf 3)) := hf 1 _ rfl
  have f2 : ReadsP enc W base held 3 ((cs.drop 2).take (Try.prog.cellsOf 3)) := hf 2 _ rfl
  have f3 : ReadsP enc W base held 40 ((cs.drop 3).take (Try.prog.cellsOf 40)) := hf 3 _ rfl
  have f4 : ReadsP enc W base held 40 ((cs.drop 4).take (Try.prog.cellsOf 40)) := hf 4 _ rfl
  have f5 : ReadsP enc W base held 3 ((cs.drop 5).take (Try.prog.cellsOf 3)) := hf 5 _ rfl
  have f6 : ReadsP enc W base held 3 ((cs.drop 6).take (Try.prog.cellsOf 3)) := hf 6 _ rfl
  simp only [cells_intP, cells_u64P] at f0 f1 f2 f3 f4 f5 f6
  match cs, hl with
  | [v0, v1, v2, v3, v4, v5, v6], _ =>
    obtain ⟨a, e0, _⟩ := reads_intP f0
    obtain ⟨b, e1, _⟩ := reads_intP f1
    obtain ⟨c, e2, _⟩ := reads_intP f2
    obtain ⟨d, e3, _⟩ := reads_u64P f3
    obtain ⟨e, e4, _⟩ := reads_u64P f4
    obtain ⟨f, e5, _⟩ := reads_intP f5
    obtain ⟨g, e6, _⟩ := reads_intP f6
    simp at e0 e1 e2 e3 e4 e5 e6
    exact ⟨⟨a, b, c, d, e, f, g⟩, by rw [e0, e1, e2, e3, e4, e5, e6]; rfl⟩
theorem str_of (s : ByteArray) : s = str s.data.toList := by
  apply ByteArray.ext
  simp [str]
end
end
section
open Go.ChangeShapes Go.WideShapes Go.ChangeAt Go.RowKit Go.Joins Go.Deep

section
variable {H : Type} {enc : TypeId × Value → H} {W : World} {base : Nat} {held : Bool}
theorem cells_lay : Try.prog.cellsOf 75 = 10 := by kernel_rfl
theorem cells_strS : Try.prog.cellsOf 9 = 1 := by kernel_rfl
theorem cells_boolS : Try.prog.cellsOf 4 = 1 := by kernel_rfl
theorem reads_strS {cs : List Value} (h : ReadsP enc W base held 9 cs) : ∃ s : List UInt8, cs = [.string (str s)] := by
  obtain ⟨fuel, x, h⟩ := h
  obtain ⟨s, e, _, _⟩ := DataW.trod_string Try.underlying9 h
  exact ⟨s.data.toList, by rw [← str_of]; exact e⟩
theorem reads_boolS {cs : List Value} (h : ReadsP enc W base held 4 cs) : ∃ b : Bool, cs = [.bool b] := by
  obtain ⟨fuel, x, h⟩ := h
  obtain ⟨b, e, _⟩ := DataW.trod_bool Try.underlying4 h
  exact ⟨b, e⟩
set_option maxRecDepth 100000 in
theorem reads_lay {cs : List Value} (h : ReadsP enc W base held 75 cs) : ∃ a : Ly, cs = a.cells ∧ True := by
  obtain ⟨hl, hf⟩ := reads_fieldsP Try.underlying75 h
  rw [cells_lay] at hl
  have f0 : ReadsP enc W base held 3 ((cs.drop 0).take (Try.prog.cellsOf 3)) := hf 0 _ rfl
  have f1 : ReadsP enc W base held 42 ((cs.drop 1).take (Try.prog.cellsOf 42)) := hf 1 _ rfl
  have f2 : ReadsP enc W base held 9 ((cs.drop 8).take (Try.prog.cellsOf 9)) := hf 2 _ rfl
  have f3 : ReadsP enc W base held 4 ((cs.drop 9).take (Try.prog.cellsOf 4)) := hf 3 _ rfl
  simp only [cells_intP, cells_headP, cells_strS, cells_boolS] at f0 f1 f2 f3
  match cs, hl with
  | [v0, v1, v2, v3, v4, v5, v6, v7, v8, v9], _ =>
    obtain ⟨x, e0, _⟩ := reads_intP f0
    obtain ⟨q, e1⟩ := reads_headP f1
    obtain ⟨s, e2⟩ := reads_strS f2
    obtain ⟨b, e3⟩ := reads_boolS f3
    simp [Hd.cells] at e0 e1 e2 e3
    obtain ⟨a1, a2, a3, a4, a5, a6, a7⟩ := e1
    exact ⟨⟨x, q, s, b⟩, by rw [e0, a1, a2, a3, a4, a5, a6, a7, e2, e3]; rfl, trivial⟩
theorem open_lays {fuel : Nat} {cs : List Value} {x : DataW H × List MemPlace} (h : DataW.trod enc Try.prog W base (fun _ => true) held fuel 28 cs = some x) :
    ∃ A n c, ∃ l : List Ly, cs = [.slice A n c] ∧ Lies W W.heap.size A (l.flatMap Ly.cells) ∧ n = l.length := by
  obtain ⟨A, n, c, l, e, h1, h2, _⟩ := reads_rowsP Ly.cells (m := 10) (by omega) Ly.cells_len Try.underlying28 cells_lay (fun cs h => reads_lay h) ⟨fuel, x, h⟩
  exact ⟨A, n, c, l, e, h1, h2⟩
theorem reads_intsL {cs : List Value} (h : Reads enc W base held 24 cs) : ∃ A n c, ∃ l : List Int, cs = [.slice A n c] ∧ Lies W W.heap.size A (i64s l) ∧ n = l.length ∧ n ≤ maxLen := by
  obtain ⟨A, n, c, l, e, hl, hn, h1, h2, _⟩ := reads_rows (Pr := fun _ => True) (fun z : Int => [Value.int .i64 z]) (m := 1) (by omega) (fun _ => rfl) Try.underlying24 cells_int (fun cs h => by obtain ⟨z, e, _⟩ := reads_int h; exact ⟨z, e, trivial⟩) h
  rw [flat_one] at hl
  exact ⟨A, n, c, l, e, hl, hn, Nat.le_trans h1 h2⟩
set_option maxRecDepth 100000 in
theorem open_planL {fuel : Nat} {cs : List Value} {x : DataW H × List MemPlace} (h : DataW.trod enc Try.prog W base (fun _ => true) held fuel 27 cs = some x) : ∃ q : Pn, cs = q.cells ∧ q.Ok W W.heap.size ∧ q.n1 ≤ maxLen := by
  obtain ⟨hl, hf⟩ := reads_fields Try.underlying27 ⟨fuel, x, h⟩
  rw [cells_plan] at hl
  have f0 : Reads enc W base held 23 ((cs.drop 0).take (Try.prog.cellsOf 23)) := hf 0 _ rfl
  have f1 : Reads enc W base held 24 ((cs.drop 3).take (Try.prog.cellsOf 24)) := hf 1 _ rfl
  have f2 : Reads enc W base held 25 ((cs.drop 4).take (Try.prog.cellsOf 25)) := hf 2 _ rfl
  simp only [cells_geom, cells_ints, cells_faults] at f0 f1 f2
  obtain ⟨u, xx, g0⟩ := f0
  obtain ⟨b, p, r, e0⟩ := open_geom g0
  obtain ⟨A1, n1, c1, bl, e1, hL1, hn1, hm1⟩ := reads_intsL f1
  obtain ⟨A2, n2, c2, fl, e2, hL2, hn2, _, _, hok⟩ := reads_rows Flt.cells (m := 3) (by omega) Flt.cells_len Try.underlying25 cells_fault (fun cs h => reads_fault h) f2
  match cs, hl with
  | [v0, v1, v2, v3, v4], _ =>
    simp at e0 e1 e2
    obtain ⟨a1, a2, a3⟩ := e0
    exact ⟨⟨⟨b, p, r⟩, A1, n1, c1, bl, A2, n2, c2, fl⟩, by rw [a1, a2, a3, e1, e2]; rfl, ⟨hL1, hn1, hL2, hn2, hok⟩, hm1⟩
end
end
end Go.Proofs.Ytahipfmokbiklaa
