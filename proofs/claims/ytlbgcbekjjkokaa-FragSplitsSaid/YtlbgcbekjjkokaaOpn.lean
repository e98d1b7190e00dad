/-
  BUNDLES THAT CAME IN, OPENED into this verifier's words.
-/
import Derived.Test.YtlbgcbekjjkokaaOpen
import Derived.Test.YtlbgcbekjjkokaaJLaw
import Derived.Deep.Slices
namespace Go.Proofs.Ytlbgcbekjjkokaa
open Go.ChangeShapes Go.WideShapes Go.ChangeAt Go.RowKit Go.Joins Go.Deep

section
variable {H : Type} {enc : TypeId × Value → H} {W : World} {base : Nat} {held : Bool}

abbrev Reads (enc : TypeId × Value → H) (W : World) (base : Nat) (held : Bool) (t : TypeId) (cs : List Value) : Prop := ∃ fuel x, DataW.trod enc Try.prog W base (fun _ => true) held fuel t cs = some x
theorem reads_fields {t : TypeId} {fs : Array Field} {cs : List Value} (ht : Try.prog.underlying t = some (.struct fs)) (h : Reads enc W base held t cs) :
    cs.length = Try.prog.cellsOf t ∧ ∀ (i : Nat) (f : Field), fs[i]? = some f → Reads enc W base held f.type ((cs.drop f.offset).take (Try.prog.cellsOf f.type)) := by
  obtain ⟨fuel, x, h⟩ := h
  obtain ⟨xs, n, _, _, hl, hxl, hf⟩ := DataW.trod_struct ht h
  refine ⟨hl, fun i f hi => ⟨n, xs[i]'(by rw [hxl]; exact (Array.getElem?_eq_some_iff.1 hi).1), ?_⟩⟩
  rw [hf i f hi, List.getElem?_eq_getElem]
theorem reads_u64 {cs : List Value} (h : Reads enc W base held 22 cs) : ∃ n : Nat, cs = [.int .u64 (n : Int)] ∧ n < 18446744073709551616 := by
  obtain ⟨fuel, x, h⟩ := h
  obtain ⟨z, e, _, hw⟩ := DataW.trod_int Try.underlying22 h
  simp only [Lit.wf, Bool.and_eq_true, decide_eq_true_eq] at hw
  have h1 : IntKind.u64.min = 0 := by rfl
  have h2 : IntKind.u64.max = 18446744073709551615 := by rfl
  rw [h1, h2] at hw
  exact ⟨z.toNat, by rw [e, Int.toNat_of_nonneg hw.1], by omega⟩
theorem reads_int {cs : List Value} (h : Reads enc W base held 3 cs) : ∃ z : Int, cs = [.int .i64 z] ∧ -9223372036854775808 ≤ z ∧ z ≤ 9223372036854775807 := by
  obtain ⟨fuel, x, h⟩ := h
  obtain ⟨z, e, _, hw⟩ := DataW.trod_int Try.underlying3 h
  simp only [Lit.wf, Bool.and_eq_true, decide_eq_true_eq] at hw
  have h1 : IntKind.i64.min = -9223372036854775808 := by rfl
  have h2 : IntKind.i64.max = 9223372036854775807 := by rfl
  rw [h1, h2] at hw
  exact ⟨z, e, hw.1, hw.2⟩
theorem reads_str {cs : List Value} (h : Reads enc W base held 9 cs) : ∃ s : ByteArray, cs = [.string s] := by
  obtain ⟨fuel, x, h⟩ := h
  obtain ⟨s, e, _, _⟩ := DataW.trod_string Try.underlying9 h
  exact ⟨s, e⟩
theorem c22 : Try.prog.cellsOf 22 = 1 := by kernel_rfl
theorem c3 : Try.prog.cellsOf 3 = 1 := by kernel_rfl
theorem c9 : Try.prog.cellsOf 9 = 1 := by kernel_rfl
theorem c24' : Try.prog.cellsOf 24 = 4 := by kernel_rfl
theorem c26 : Try.prog.cellsOf 26 = 2 := by kernel_rfl
theorem c28 : Try.prog.cellsOf 28 = 19 := by kernel_rfl
theorem c29 : Try.prog.cellsOf 29 = 1 := by kernel_rfl
theorem c31 : Try.prog.cellsOf 31 = 5 := by kernel_rfl
theorem c33 : Try.prog.cellsOf 33 = 25 := by kernel_rfl
theorem take_drop_at {cs : List Value} {k : Nat} {v : Value} (h : (cs.drop k).take 1 = [v]) : cs[k]? = some v := by
  have h1 := congrArg (fun l => l[0]?) h
  simpa [List.getElem?_take, List.getElem?_drop] using h1

set_option maxRecDepth 100000 in
theorem reads_nm {cs : List Value} (h : Reads enc W base held 24 cs) : ∃ e : Nm, cs = e.cells := by
  obtain ⟨hl, hf⟩ := reads_fields Try.underlying24 h
  rw [c24'] at hl
  have f0 : Reads enc W base held 3 ((cs.drop 0).take (Try.prog.cellsOf 3)) := hf 0 _ rfl
  have f1 : Reads enc W base held 9 ((cs.drop 1).take (Try.prog.cellsOf 9)) := hf 1 _ rfl
  have f2 : Reads enc W base held 22 ((cs.drop 2).take (Try.prog.cellsOf 22)) := hf 2 _ rfl
  have f3 : Reads enc W base held 22 ((cs.drop 3).take (Try.prog.cellsOf 22)) := hf 3 _ rfl
  simp only [c3, c9, c22] at f0 f1 f2 f3
  match cs, hl with
  | [v0, v1, v2, v3], _ =>
    obtain ⟨z, e0, _⟩ := reads_int f0
    obtain ⟨s, e1⟩ := reads_str f1
    obtain ⟨n, e2, _⟩ := reads_u64 f2
    obtain ⟨m, e3, _⟩ := reads_u64 f3
    simp at e0 e1 e2 e3
    exact ⟨⟨z, s, n, m⟩, by rw [e0, e1, e2, e3]; rfl⟩
set_option maxRecDepth 100000 in
theorem reads_bk {cs : List Value} (h : Reads enc W base held 31 cs) : ∃ b : Bk, cs = b.cells := by
  obtain ⟨hl, hf⟩ := reads_fields Try.underlying31 h
  rw [c31] at hl
  have f0 : Reads enc W base held 22 ((cs.drop 0).take (Try.prog.cellsOf 22)) := hf 0 _ rfl
  have f1 : Reads enc W base held 22 ((cs.drop 1).take (Try.prog.cellsOf 22)) := hf 1 _ rfl
  have f2 : Reads enc W base held 22 ((cs.drop 2).take (Try.prog.cellsOf 22)) := hf 2 _ rfl
  have f3 : Reads enc W base held 3 ((cs.drop 3).take (Try.prog.cellsOf 3)) := hf 3 _ rfl
  have f4 : Reads enc W base held 9 ((cs.drop 4).take (Try.prog.cellsOf 9)) := hf 4 _ rfl
  simp only [c3, c9, c22] at f0 f1 f2 f3 f4
  match cs, hl with
  | [v0, v1, v2, v3, v4], _ =>
    obtain ⟨a, e0, _⟩ := reads_u64 f0
    obtain ⟨b, e1, _⟩ := reads_u64 f1
    obtain ⟨c, e2, _⟩ := reads_u64 f2
    obtain ⟨d, e3, _⟩ := reads_int f3
    obtain ⟨e, e4⟩ := reads_str f4
    simp at e0 e1 e2 e3 e4
    exact ⟨⟨a, b, c, d, e⟩, by rw [e0, e1, e2, e3, e4]; rfl⟩
theorem split_at {α : Type} (l : List α) (a b : Nat) : (l.drop a).take b ++ l.drop (a + b) = l.drop a := by
  rw [← List.drop_drop]; exact List.take_append_drop b (l.drop a)
set_option maxRecDepth 100000 in
theorem reads_pr {cs : List Value} (h : Reads enc W base held 28 cs) : ∃ p : Pr, cs = p.cells ∧ p.fl < 18446744073709551616 ∧ p.off < 18446744073709551616 ∧ p.tot < 18446744073709551616 := by
  obtain ⟨hl, hf⟩ := reads_fields Try.underlying28 h
  rw [c28] at hl
  have f0 : Reads enc W base held 22 ((cs.drop 0).take (Try.prog.cellsOf 22)) := hf 0 _ rfl
  have f1 : Reads enc W base held 3 ((cs.drop 1).take (Try.prog.cellsOf 3)) := hf 1 _ rfl
  have f2 : Reads enc W base held 24 ((cs.drop 2).take (Try.prog.cellsOf 24)) := hf 2 _ rfl
  have f3 : Reads enc W base held 24 ((cs.drop 6).take (Try.prog.cellsOf 24)) := hf 3 _ rfl
  have f4 : Reads enc W base held 24 ((cs.drop 10).take (Try.prog.cellsOf 24)) := hf 4 _ rfl
  have f5 : Reads enc W base held 26 ((cs.drop 14).take (Try.prog.cellsOf 26)) := hf 5 _ rfl
  have f6 : Reads enc W base held 22 ((cs.drop 16).take (Try.prog.cellsOf 22)) := hf 6 _ rfl
  have f7 : Reads enc W base held 22 ((cs.drop 17).take (Try.prog.cellsOf 22)) := hf 7 _ rfl
  have f8 : Reads enc W base held 22 ((cs.drop 18).take (Try.prog.cellsOf 22)) := hf 8 _ rfl
  obtain ⟨g5l, g5⟩ := reads_fields Try.underlying26 f5
  rw [c26] at f5
  have f50 : Reads enc W base held 22 ((((cs.drop 14).take 2).drop 0).take (Try.prog.cellsOf 22)) := by have h := g5 0 _ rfl; rw [c26] at h; exact h
  have f51 : Reads enc W base held 22 ((((cs.drop 14).take 2).drop 1).take (Try.prog.cellsOf 22)) := by have h := g5 1 _ rfl; rw [c26] at h; exact h
  simp only [c3, c22, c24', c26] at f0 f1 f2 f3 f4 f50 f51 f6 f7 f8
  obtain ⟨fl, e0, hfl⟩ := reads_u64 f0
  obtain ⟨crc, e1, _⟩ := reads_int f1
  obtain ⟨dst, e2⟩ := reads_nm f2
  obtain ⟨src, e3⟩ := reads_nm f3
  obtain ⟨rep, e4⟩ := reads_nm f4
  obtain ⟨time, e50, _⟩ := reads_u64 f50
  obtain ⟨seq, e51, _⟩ := reads_u64 f51
  obtain ⟨life, e6, _⟩ := reads_u64 f6
  obtain ⟨off, e7, hoff⟩ := reads_u64 f7
  obtain ⟨tot, e8, htot⟩ := reads_u64 f8
  refine ⟨⟨fl, crc, dst, src, rep, time, seq, life, off, tot⟩, ?_, hfl, hoff, htot⟩
  match cs, hl with
  | [v0, v1, v2, v3, v4, v5, v6, v7, v8, v9, v10, v11, v12, v13, v14, v15, v16, v17, v18], _ =>
    simp [Nm.cells] at e0 e1 e2 e3 e4 e50 e51 e6 e7 e8
    obtain ⟨a1, a2, a3, a4⟩ := e2
    obtain ⟨b1, b2, b3, b4⟩ := e3
    obtain ⟨d1, d2, d3, d4⟩ := e4
    subst e0 e1 a1 a2 a3 a4 b1 b2 b3 b4 d1 d2 d3 d4 e50 e51 e6 e7 e8
    rfl
theorem reads_rows {α : Type} {t e : TypeId} {m : Nat} (f : α → List Value) (hm0 : 0 < m) (hfl : ∀ x, (f x).length = m) (ht : Try.prog.underlying t = some (.slice e)) (hc : Try.prog.cellsOf e = m) {Pr : α → Prop} (he : ∀ cs, Reads enc W base held e cs → ∃ x : α, cs = f x ∧ Pr x) {cs : List Value} (h : Reads enc W base held t cs) :
    ∃ A n c, ∃ l : List α, cs = [.slice A n c] ∧ Lies W W.heap.size A (l.flatMap f) ∧ n = l.length ∧ n ≤ c ∧ c ≤ maxLen ∧ ∀ x ∈ l, Pr x := by
  obtain ⟨fuel, x, h⟩ := h
  rcases open_slice ht h with ⟨rfl, _⟩ | ⟨a, len, cap, k, n, D, Pl, rfl, _, hl, hcm, hk, _, hx⟩
  · exact ⟨none, 0, 0, [], rfl, .inl rfl, rfl, Nat.le_refl _, Nat.zero_le _, by simp⟩
  · simp only [if_true] at hk
    have each : ∀ i, i < len → ∃ x : α, Pr x ∧ ∀ j v, (f x)[j]? = some v → W.cell? ((a.add (i * m)).add j) = some v := by
      intro i hi
      obtain ⟨cs', h1, h2⟩ := hx i (by omega)
      rw [hc] at h1
      obtain ⟨_, hlen, hcell⟩ := World.cells?_some h1
      obtain ⟨x, rfl, hp⟩ := he cs' ⟨n, _, h2⟩
      refine ⟨x, hp, fun j v hv => ?_⟩
      rw [hcell j (by rw [← hlen]; exact (List.getElem?_eq_some_iff.1 hv).1), hv]
    by_cases h0 : len = 0
    · subst h0
      exact ⟨some a, 0, cap, [], rfl, .inl rfl, rfl, hl, hcm, by simp⟩
    · letI : Inhabited α := ⟨(each 0 (by omega)).choose⟩
      obtain ⟨g, hg⟩ := choose_lt each
      refine ⟨some a, len, cap, (List.range len).map g, rfl, lies_of a _ ?_, by simp, hl, hcm, fun x hx => ?_⟩
      · intro j u hu
        have hjl : j < len * m := by
          have := (List.getElem?_eq_some_iff.1 hu).1
          rw [flat_len f m hfl] at this
          simpa using this
        have hi : j / m < len := Nat.div_lt_of_lt_mul (by rw [Nat.mul_comm]; exact hjl)
        have hj : j = j / m * m + j % m := by rw [Nat.mul_comm]; exact (Nat.div_add_mod j m).symm
        rw [hj, flat_at f m hfl _ (j / m) (by simpa using hi) _ (Nat.mod_lt _ hm0)] at hu
        have := (hg (j / m) hi).2 (j % m) u (by simpa using hu)
        rwa [Addr.add_add', ← hj] at this
      · obtain ⟨i, hi, rfl⟩ := List.mem_map.1 hx
        exact (hg i (List.mem_range.1 hi)).1
set_option maxRecDepth 100000 in
theorem reads_bn {cs : List Value} (h : Reads enc W base held 33 cs) : ∃ b : Bn, cs = b.cells ∧ b.Raw W W.heap.size := by
  obtain ⟨hl, hf⟩ := reads_fields Try.underlying33 h
  rw [c33] at hl
  have f0 : Reads enc W base held 28 ((cs.drop 0).take (Try.prog.cellsOf 28)) := hf 0 _ rfl
  have f1 : Reads enc W base held 29 ((cs.drop 19).take (Try.prog.cellsOf 29)) := hf 1 _ rfl
  have f2 : Reads enc W base held 31 ((cs.drop 20).take (Try.prog.cellsOf 31)) := hf 2 _ rfl
  simp only [c28, c29, c31] at f0 f1 f2
  obtain ⟨p, e0, hfl, hoff, htot⟩ := reads_pr f0
  obtain ⟨A, n, c, bs, e1, hL, hn, hnc, hcm, _⟩ := reads_rows (Pr := fun _ => True) Bk.cells (m := 5) (by omega) Bk.cells_len Try.underlying29 c31 (fun cs h => by obtain ⟨b, hb⟩ := reads_bk h; exact ⟨b, hb, trivial⟩) f1
  obtain ⟨pay, e2⟩ := reads_bk f2
  refine ⟨⟨p, A, n, c, bs, pay⟩, ?_, ⟨hL, hn, hnc, hcm, hfl, hoff, htot⟩⟩
  have h1 : cs = (cs.drop 0).take 19 ++ ((cs.drop 19).take 1 ++ (cs.drop 20).take 5) := by
    match cs, hl with
    | [v0, v1, v2, v3, v4, v5, v6, v7, v8, v9, v10, v11, v12, v13, v14, v15, v16, v17, v18, v19, v20, v21, v22, v23, v24], _ => rfl
  rw [h1, e0, e1, e2]
  rfl
theorem open_bns {fuel : Nat} {cs : List Value} {x : DataW H × List MemPlace} (h : DataW.trod enc Try.prog W base (fun _ => true) held fuel 36 cs = some x) :
    ∃ A n c, ∃ l : List Bn, cs = [.slice A n c] ∧ Lies W W.heap.size A (l.flatMap Bn.cells) ∧ n = l.length ∧ n ≤ c ∧ c ≤ maxLen ∧ ∀ b ∈ l, b.Raw W W.heap.size :=
  reads_rows Bn.cells (m := 25) (by omega) Bn.cells_len Try.underlying36 c33 (fun cs h => reads_bn h) ⟨fuel, x, h⟩
end

/-- The law, whatever comes in. -/
theorem fragJoins_any (A : Option Addr) (n c B : Nat) (l : List Bn) (w : World) (h : Lies w B A (l.flatMap Bn.cells)) (hraw : ∀ b ∈ l, b.Raw w B) (hn : n = l.length) (hnc : n ≤ c) (hB : B ≤ w.heap.size) :
    Calls Try.prog 4 #[.slice A n c] w fun e w' => e = .returned (.bool true) ∧ Below w.heap.size w w' := by
  by_cases h12 : 12 < n
  · have ht : (l.take 12).flatMap Bn.cells = (l.flatMap Bn.cells).take (12 * 25) := by
      have e : l.flatMap Bn.cells = (l.take 12).flatMap Bn.cells ++ (l.drop 12).flatMap Bn.cells := by rw [← List.flatMap_append, List.take_append_drop]
      have hlen : ((l.take 12).flatMap Bn.cells).length = 12 * 25 := by rw [flat_len _ 25 Bn.cells_len, List.length_take]; omega
      rw [e]
      exact (List.take_left' hlen).symm
    exact fragJoins_few A 12 c B (l.take 12) w (by rw [ht]; exact h.take _) (fun b hb => hraw b (List.mem_of_mem_take hb)) (by rw [List.length_take]; omega) hB (Nat.le_refl _) n (.inl ⟨h12, rfl, by omega⟩)
  · exact fragJoins_few A n c B l w h hraw hn hB (by omega) n (.inr rfl)

end Go.Proofs.Ytlbgcbekjjkokaa
