/-
  THE LAST STEP OF A LAW, for every law alike: the call has returned true, and below the old heap nothing has turned: so all that came in reads as it did.
  ARGUMENTS OPENED into this verifier's words: a slice that came in lies somewhere, as a list.
  SIDES AND PAGES that came in, opened.
  PLANS AND CALLS that came in, opened.
-/
import Derived.Test.YtahipfmokbiklaaWords
import Derived.Test.YtahipfmokbiklaaRows
import Derived.ProofKit
import Derived.Deep.SlicePairs
import Derived.Lib.SmallJoins
import Derived.Test.YtahipfmokbiklaaDev6
import Derived.Deep.Slices
namespace Go.Proofs.Ytahipfmokbiklaa
section
open Go.ChangeShapes Go.WideShapes Go.ChangeAt Go.RowKit Go.Joins Go.Deep

theorem Try.own : ownKnob Try.prog.godebug = none := by kernel_rfl
theorem Try.laidOut : laidOutB Try.prog = true := by kernel_rfl

/-- All arguments at once, carried behind the call. -/
theorem args_stay {H : Type} {enc : TypeId × Value → H} {P : Program} {W W' : World} (hl : laidOutB P = true) (hb : Below W.heap.size W W') :
    ∀ (ts : List TypeId) (vs : List Value) (ds : List (DataW H)) (p : List MemPlace), (ts.all fun t => P.readableRec t && decide (t < P.types.size)) = true →
      DataW.TrodAll enc P W 0 (fun _ => true) true ts vs ds p → (∀ x ∈ p, x.block < W.heap.size) → DataW.TrodAll enc P W' 0 (fun b => decide (b < W.heap.size)) true ts vs ds p
  | [], [], [], _, _, h, _ => h
  | t :: ts, v :: vs, d :: ds, _, hr, h, hlt => by
    obtain ⟨p, q, h1, h2, rfl⟩ := h
    simp only [List.all_cons, Bool.and_eq_true, decide_eq_true_eq] at hr
    refine ⟨p, q, Below.trod hl hr.1.1 hr.1.2 h1 hb (fun x hx => hlt x (List.mem_append_left _ hx)), ?_, rfl⟩
    exact args_stay hl hb ts vs ds q (by simpa using hr.2) h2 (fun x hx => hlt x (List.mem_append_right _ hx))
  | [], [], _ :: _, _, _, h, _ => h.elim
  | [], _ :: _, _, _, _, h, _ => by cases h
  | _ :: _, [], _, _, _, h, _ => by cases h
  | _ :: _, _ :: _, [], _, _, h, _ => by cases h

theorem law_post {H : Type} {enc : TypeId × Value → H} {P : Program} {f : Func} {s : ChangeSpec} {W W' : World} {args : Array Value} {ds gs : List (DataW H)} {before : List MemPlace} {tb : TypeId} {fresh : Bool}
    (hl : laidOutB P = true) (hr : (f.params.toList.all fun t => P.readableRec t && decide (t < P.types.size)) = true) (hres : f.resultTypes = #[tb]) (htb : P.underlying tb = some .bool) (hv : s.vars = [])
    (hfn : s.fn H (ds ++ gs) = { results := [.lit (.bool true)], args := ds }) (hW : DataW.Whole enc P f.params.toList s.vars false W args.toList ds gs before) (hb : Below W.heap.size W W') :
    s.post enc P f false fresh false false W args (.bool true) W' := by
  have hlt := hW.lt
  have hW0 := hW
  obtain ⟨p, q, h1, h2, rfl, _, _⟩ := hW0
  rw [hv] at h2
  obtain ⟨rfl, rfl⟩ := trodVars_none h2
  refine ⟨ds, [], p ++ [], [], p, [], hW, ?_, ?_, ?_, hb.frame _, fun h => by cases h⟩
  · rw [hfn, hres]
    exact ⟨[], [], shut_bool htb true, rfl, rfl⟩
  · rw [hfn]
    exact args_stay hl hb _ _ _ _ hr h1 (fun x hx => hlt x (by simpa using hx))
  · rw [hfn, hv]; rfl
end
section
open Go.ChangeShapes Go.WideShapes Go.ChangeAt Go.RowKit Go.Joins Go.Deep

section
variable {H : Type} {enc : TypeId × Value → H} {P : Program} {W : World} {base : Nat} {held : Bool}

theorem lies_of (a : Addr) (xs : List Value) (h : ∀ j u, xs[j]? = some u → W.cell? (a.add j) = some u) : Lies W W.heap.size (some a) xs := by
  rcases xs with _ | ⟨x, xs⟩
  · exact .inl rfl
  · refine .inr ⟨a, rfl, ?_, h⟩
    have := World.block_lt_of_cell? W _ (h 0 x rfl)
    have e : (a.add 0).block = a.block := by unfold Addr.add; split <;> rfl
    rwa [e] at this

/-- A slice among the arguments is its one cell. -/
theorem slice_of_cells {t e : TypeId} {v : Value} {A : Option Addr} {n c : Nat} {r : Reach} {b : Nat} (hv : Value.okWide P W r b t v) (ht : P.underlying t = some (.slice e)) (h : v.cells.toList = [.slice A n c]) : v = .slice A n c := by
  obtain ⟨a, l, k, hv'⟩ := okWide_slice ht hv
  subst hv'
  simpa [Value.cells] using h

theorem u8_of (z : Int) (h : (Lit.int .u8 z).wf = true) : z = ((UInt8.ofNat z.toNat).toNat : Int) := by
  simp only [Lit.wf, Bool.and_eq_true, decide_eq_true_eq] at h
  have h1 : IntKind.u8.min = 0 := by rfl
  have h2 : IntKind.u8.max = 255 := by rfl
  rw [h1, h2] at h
  simp
  omega

theorem open_u8s {t e : TypeId} {fuel : Nat} {cs : List Value} {x : DataW H × List MemPlace} (ht : P.underlying t = some (.slice e)) (he : P.underlying e = some (.int .u8)) (hc : P.cellsOf e = 1)
    (h : DataW.trod enc P W base (fun _ => true) held fuel t cs = some x) :
    ∃ A n c l, cs = [.slice A n c] ∧ Lies W W.heap.size A (bys l) ∧ n = l.length ∧ n ≤ c ∧ c ≤ maxLen := by
  rcases open_ints ht he hc h with ⟨rfl, _⟩ | ⟨a, len, cap, zs, rfl, _, hl, hm, hz, _, hcell, hwf⟩
  · exact ⟨none, 0, 0, [], rfl, .inl rfl, rfl, Nat.le_refl _, Nat.zero_le _⟩
  · simp only [if_true] at hz
    refine ⟨some a, len, cap, (zs.take len).map fun z => UInt8.ofNat z.toNat, rfl, lies_of a _ ?_, by simp; omega, hl, hm⟩
    intro j u hu
    simp only [bys, List.map_map, List.getElem?_map] at hu
    by_cases hj : j < len
    · rw [List.getElem?_take, if_pos hj, List.getElem?_eq_getElem (by omega)] at hu
      simp only [Option.map_some, Function.comp, Option.some.injEq] at hu
      rw [hcell j (by omega), ← hu, ← u8_of _ (hwf _ (List.getElem_mem (by omega)))]
      simp [List.getD, List.getElem?_eq_getElem (show j < zs.length by omega)]
    · rw [List.getElem?_take, if_neg hj] at hu; cases hu

end
end
section
open Go.ChangeShapes Go.WideShapes Go.ChangeAt Go.RowKit Go.Joins Go.Deep

section
variable {H : Type} {enc : TypeId × Value → H} {W : World} {base : Nat} {held : Bool}
theorem cells_int : Try.prog.cellsOf 3 = 1 := by kernel_rfl
theorem cells_geom : Try.prog.cellsOf 23 = 3 := by kernel_rfl
theorem cells_place : Try.prog.cellsOf 46 = 2 := by kernel_rfl
theorem one_int {fuel : Nat} {cs : List Value} {x : DataW H × List MemPlace} (h : DataW.trod enc Try.prog W base (fun _ => true) held fuel 3 cs = some x) : ∃ z : Int, cs = [.int .i64 z] := by
  obtain ⟨z, e, _⟩ := DataW.trod_int Try.underlying3 h
  exact ⟨z, e⟩
set_option maxRecDepth 100000 in
/-- Sides that came in are three numbers. -/
theorem open_geom {fuel : Nat} {cs : List Value} {x : DataW H × List MemPlace} (h : DataW.trod enc Try.prog W base (fun _ => true) held fuel 23 cs = some x) : ∃ b p r : Int, cs = [.int .i64 b, .int .i64 p, .int .i64 r] := by
  obtain ⟨xs, n, _, _, hl, hxl, hf⟩ := DataW.trod_struct Try.underlying23 h
  rw [cells_geom] at hl
  have f0 : DataW.trod enc Try.prog W base (fun _ => true) held n 3 ((cs.drop 0).take (Try.prog.cellsOf 3)) = xs[0]? := hf 0 _ rfl
  have f1 : DataW.trod enc Try.prog W base (fun _ => true) held n 3 ((cs.drop 1).take (Try.prog.cellsOf 3)) = xs[1]? := hf 1 _ rfl
  have f2 : DataW.trod enc Try.prog W base (fun _ => true) held n 3 ((cs.drop 2).take (Try.prog.cellsOf 3)) = xs[2]? := hf 2 _ rfl
  rw [List.getElem?_eq_getElem (by rw [hxl]; decide)] at f0 f1 f2
  obtain ⟨b, e0⟩ := one_int f0
  obtain ⟨p, e1⟩ := one_int f1
  obtain ⟨r, e2⟩ := one_int f2
  simp only [cells_int] at e0 e1 e2
  match cs, hl with
  | [v0, v1, v2], _ =>
    simp at e0 e1 e2
    exact ⟨b, p, r, by rw [e0, e1, e2]⟩
set_option maxRecDepth 100000 in
/-- A page that came in is two numbers. -/
theorem open_place {fuel : Nat} {cs : List Value} {x : DataW H × List MemPlace} (h : DataW.trod enc Try.prog W base (fun _ => true) held fuel 46 cs = some x) : ∃ x y : Int, cs = [.int .i64 x, .int .i64 y] := by
  obtain ⟨xs, n, _, _, hl, hxl, hf⟩ := DataW.trod_struct Try.underlying46 h
  rw [cells_place] at hl
  have f0 : DataW.trod enc Try.prog W base (fun _ => true) held n 3 ((cs.drop 0).take (Try.prog.cellsOf 3)) = xs[0]? := hf 0 _ rfl
  have f1 : DataW.trod enc Try.prog W base (fun _ => true) held n 3 ((cs.drop 1).take (Try.prog.cellsOf 3)) = xs[1]? := hf 1 _ rfl
  rw [List.getElem?_eq_getElem (by rw [hxl]; decide)] at f0 f1
  obtain ⟨b, e0⟩ := one_int f0
  obtain ⟨p, e1⟩ := one_int f1
  simp only [cells_int] at e0 e1
  match cs, hl with
  | [v0, v1], _ =>
    simp at e0 e1
    exact ⟨b, p, by rw [e0, e1]⟩
end
end
section
open Go.ChangeShapes Go.WideShapes Go.ChangeAt Go.RowKit Go.Joins Go.Deep

section
variable {H : Type} {enc : TypeId × Value → H} {W : World} {base : Nat} {held : Bool}

abbrev Reads (enc : TypeId × Value → H) (W : World) (base : Nat) (held : Bool) (t : TypeId) (cs : List Value) : Prop := ∃ fuel x, DataW.trod enc Try.prog W base (fun _ => true) held fuel t cs = some x
theorem reads_fields {t : TypeId} {fs : Array Field} {cs : List Value} (ht : Try.prog.underlying t = some (.struct fs)) (h : Reads enc W base held t cs) :
    cs.length = Try.prog.cellsOf t ∧ ∀ (i : Nat) (f : Field), fs[i]? = some f → Reads enc W base held f.type ((cs.drop f.offset).take (Try.prog.cellsOf f.type)) := by
  obtain ⟨fuel, x, h⟩ := h
  obtain ⟨xs, n, _, _, hl, hxl, hf⟩ := DataW.trod_struct ht h
  refine ⟨hl, fun i f hi => ⟨n, xs[i]'(by rw [hxl]; exact (Array.getElem?_eq_some_iff.1 hi).1), ?_⟩⟩
  rw [hf i f hi, List.getElem?_eq_getElem]
theorem reads_int {cs : List Value} (h : Reads enc W base held 3 cs) : ∃ z : Int, cs = [.int .i64 z] ∧ i64s_ok z := by
  obtain ⟨fuel, x, h⟩ := h
  obtain ⟨z, e, _, hw⟩ := DataW.trod_int Try.underlying3 h
  simp only [Lit.wf, Bool.and_eq_true, decide_eq_true_eq] at hw
  have h1 : IntKind.i64.min = -9223372036854775808 := by rfl
  have h2 : IntKind.i64.max = 9223372036854775807 := by rfl
  rw [h1, h2] at hw
  exact ⟨z, e, hw.1, hw.2⟩
theorem reads_u8s {cs : List Value} (h : Reads enc W base held 65 cs) : ∃ A n c, ∃ l : List UInt8, cs = [.slice A n c] ∧ Lies W W.heap.size A (bys l) ∧ n = l.length ∧ n ≤ c := by
  obtain ⟨fuel, x, h⟩ := h
  obtain ⟨A, m, c, l, e, hl, hm, hmc, _⟩ := open_u8s Try.underlying65 Try.underlying5 (by kernel_rfl) h
  exact ⟨A, m, c, l, e, hl, hm, hmc⟩
theorem cells_fault : Try.prog.cellsOf 67 = 3 := by kernel_rfl
theorem cells_plan : Try.prog.cellsOf 27 = 5 := by kernel_rfl
theorem cells_u8s : Try.prog.cellsOf 65 = 1 := by kernel_rfl
theorem cells_ints : Try.prog.cellsOf 24 = 1 := by kernel_rfl
theorem cells_faults : Try.prog.cellsOf 25 = 1 := by kernel_rfl
theorem reads_rows {α : Type} {t e : TypeId} {m : Nat} (f : α → List Value) (hm0 : 0 < m) (hfl : ∀ x, (f x).length = m) (ht : Try.prog.underlying t = some (.slice e)) (hc : Try.prog.cellsOf e = m) {Pr : α → Prop} (he : ∀ cs, Reads enc W base held e cs → ∃ x : α, cs = f x ∧ Pr x) {cs : List Value} (h : Reads enc W base held t cs) :
    ∃ A n c, ∃ l : List α, cs = [.slice A n c] ∧ Lies W W.heap.size A (l.flatMap f) ∧ n = l.length ∧ n ≤ c ∧ c ≤ maxLen ∧ ∀ x ∈ l, Pr x := by
  obtain ⟨fuel, x, h⟩ := h
  rcases open_slice ht h with ⟨rfl, _⟩ | ⟨a, len, cap, k, n, D, Pl, rfl, _, hl, hcm, hk, _, hx⟩
  · exact ⟨none, 0, 0, [], rfl, .inl rfl, rfl, Nat.le_refl _, Nat.zero_le _, by simp⟩
  · simp only [if_true] at hk
    have each : ∀ i, i < len → ∃ x : α, Pr x ∧ ∀ j v, (f x)[j]? = some v → W.cell? ((a.add (i * m)).add j) = some v := by
      intro i hi
      obtain ⟨cs', h1, h2⟩ := hx i (by omega)
      rw [hc] at h1
      obtain ⟨_, hlen, hcell⟩ := World.cells?_some h1
      obtain ⟨x, rfl, hp⟩ := he cs' ⟨n, _, h2⟩
      refine ⟨x, hp, fun j v hv => ?_⟩
      rw [hcell j (by rw [← hlen]; exact (List.getElem?_eq_some_iff.1 hv).1), hv]
    by_cases h0 : len = 0
    · subst h0
      exact ⟨some a, 0, cap, [], rfl, .inl rfl, rfl, hl, hcm, by simp⟩
    · letI : Inhabited α := ⟨(each 0 (by omega)).choose⟩
      obtain ⟨g, hg⟩ := choose_lt each
      refine ⟨some a, len, cap, (List.range len).map g, rfl, lies_of a _ ?_, by simp, hl, hcm, fun x hx => ?_⟩
      · intro j u hu
        have hjl : j < len * m := by
          have := (List.getElem?_eq_some_iff.1 hu).1
          rw [flat_len f m hfl] at this
          simpa using this
        have hi : j / m < len := Nat.div_lt_of_lt_mul (by rw [Nat.mul_comm]; exact hjl)
        have hj : j = j / m * m + j % m := by rw [Nat.mul_comm]; exact (Nat.div_add_mod j m).symm
        rw [hj, flat_at f m hfl _ (j / m) (by simpa using hi) _ (Nat.mod_lt _ hm0)] at hu
        have := (hg (j / m) hi).2 (j % m) u (by simpa using hu)
        rwa [Addr.add_add', ← hj] at this
      · obtain ⟨i, hi, rfl⟩ := List.mem_map.1 hx
        exact (hg i (List.mem_range.1 hi)).1
theorem flat_one {α : Type} (g : α → Value) (l : List α) : l.flatMap (fun z => [g z]) = l.map g := by
  induction l with
  | nil => rfl
  | cons a l ih => rw [List.flatMap_cons, ih]; rfl
theorem reads_ints {cs : List Value} (h : Reads enc W base held 24 cs) : ∃ A n c, ∃ l : List Int, cs = [.slice A n c] ∧ Lies W W.heap.size A (i64s l) ∧ n = l.length := by
  obtain ⟨A, n, c, l, e, hl, hn, _⟩ := reads_rows (Pr := fun _ => True) (fun z : Int => [Value.int .i64 z]) (m := 1) (by omega) (fun _ => rfl) Try.underlying24 cells_int (fun cs h => by obtain ⟨z, e, _⟩ := reads_int h; exact ⟨z, e, trivial⟩) h
  rw [flat_one] at hl
  exact ⟨A, n, c, l, e, hl, hn⟩
set_option maxRecDepth 100000 in
theorem reads_fault {cs : List Value} (h : Reads enc W base held 67 cs) : ∃ f : Flt, cs = f.cells ∧ f.Ok W W.heap.size := by
  obtain ⟨hl, hf⟩ := reads_fields Try.underlying67 h
  rw [cells_fault] at hl
  have f0 : Reads enc W base held 3 ((cs.drop 0).take (Try.prog.cellsOf 3)) := hf 0 _ rfl
  have f1 : Reads enc W base held 3 ((cs.drop 1).take (Try.prog.cellsOf 3)) := hf 1 _ rfl
  have f2 : Reads enc W base held 65 ((cs.drop 2).take (Try.prog.cellsOf 65)) := hf 2 _ rfl
  simp only [cells_int, cells_u8s] at f0 f1 f2
  match cs, hl with
  | [v0, v1, v2], _ =>
    obtain ⟨a, e0, ha⟩ := reads_int f0
    obtain ⟨b, e1, _⟩ := reads_int f1
    obtain ⟨A, n, c, l, e2, hL, hn, hnc⟩ := reads_u8s f2
    simp at e0 e1 e2
    exact ⟨⟨a, b, A, n, c, l⟩, by rw [e0, e1, e2]; rfl, hL, hn, hnc, ha⟩
set_option maxRecDepth 100000 in
theorem reads_plan {cs : List Value} (h : Reads enc W base held 27 cs) : ∃ q : Pn, cs = q.cells ∧ q.Ok W W.heap.size := by
  obtain ⟨hl, hf⟩ := reads_fields Try.underlying27 h
  rw [cells_plan] at hl
  have f0 : Reads enc W base held 23 ((cs.drop 0).take (Try.prog.cellsOf 23)) := hf 0 _ rfl
  have f1 : Reads enc W base held 24 ((cs.drop 3).take (Try.prog.cellsOf 24)) := hf 1 _ rfl
  have f2 : Reads enc W base held 25 ((cs.drop 4).take (Try.prog.cellsOf 25)) := hf 2 _ rfl
  simp only [cells_geom, cells_ints, cells_faults] at f0 f1 f2
  obtain ⟨u, xx, g0⟩ := f0
  obtain ⟨b, p, r, e0⟩ := open_geom g0
  obtain ⟨A1, n1, c1, bl, e1, hL1, hn1⟩ := reads_ints f1
  obtain ⟨A2, n2, c2, fl, e2, hL2, hn2, _, _, hok⟩ := reads_rows Flt.cells (m := 3) (by omega) Flt.cells_len Try.underlying25 cells_fault (fun cs h => reads_fault h) f2
  match cs, hl with
  | [v0, v1, v2, v3, v4], _ =>
    simp at e0 e1 e2
    obtain ⟨a1, a2, a3⟩ := e0
    exact ⟨⟨⟨b, p, r⟩, A1, n1, c1, bl, A2, n2, c2, fl⟩, by rw [a1, a2, a3, e1, e2]; rfl, hL1, hn1, hL2, hn2, hok⟩
theorem open_plan {fuel : Nat} {cs : List Value} {x : DataW H × List MemPlace} (h : DataW.trod enc Try.prog W base (fun _ => true) held fuel 27 cs = some x) : ∃ q : Pn, cs = q.cells ∧ q.Ok W W.heap.size :=
  reads_plan ⟨fuel, x, h⟩
end
end
end Go.Proofs.Ytahipfmokbiklaa
