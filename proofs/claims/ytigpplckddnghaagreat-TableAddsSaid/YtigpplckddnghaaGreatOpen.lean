/-
  ARGUMENTS OPENED into this verifier's words: a slice that came in lies somewhere, as a list.
-/
import Derived.Test.YtigpplckddnghaaGreatLaw
namespace Go.Proofs.YtigpplckddnghaaGreat
open Go.ChangeShapes Go.WideShapes Go.ChangeAt Go.RowKit Go.Joins Go.Deep

section
variable {H : Type} {enc : TypeId × Value → H} {P : Program} {W : World} {base : Nat} {held : Bool}

theorem lies_of (a : Addr) (xs : List Value) (h : ∀ j u, xs[j]? = some u → W.cell? (a.add j) = some u) : Lies W W.heap.size (some a) xs := by
  rcases xs with _ | ⟨x, xs⟩
  · exact .inl rfl
  · refine .inr ⟨a, rfl, ?_, h⟩
    have := World.block_lt_of_cell? W _ (h 0 x rfl)
    have e : (a.add 0).block = a.block := by unfold Addr.add; split <;> rfl
    rwa [e] at this

/-- A slice among the arguments is its one cell. -/
theorem slice_of_cells {t e : TypeId} {v : Value} {A : Option Addr} {n c : Nat} {r : Reach} {b : Nat} (hv : Value.okWide P W r b t v) (ht : P.underlying t = some (.slice e)) (h : v.cells.toList = [.slice A n c]) : v = .slice A n c := by
  obtain ⟨a, l, k, hv'⟩ := okWide_slice ht hv
  subst hv'
  simpa [Value.cells] using h

theorem u8_of (z : Int) (h : (Lit.int .u8 z).wf = true) : z = ((UInt8.ofNat z.toNat).toNat : Int) := by
  simp only [Lit.wf, Bool.and_eq_true, decide_eq_true_eq] at h
  have h1 : IntKind.u8.min = 0 := by rfl
  have h2 : IntKind.u8.max = 255 := by rfl
  rw [h1, h2] at h
  simp
  omega

theorem open_u8s {t e : TypeId} {fuel : Nat} {cs : List Value} {x : DataW H × List MemPlace} (ht : P.underlying t = some (.slice e)) (he : P.underlying e = some (.int .u8)) (hc : P.cellsOf e = 1)
    (h : DataW.trod enc P W base (fun _ => true) held fuel t cs = some x) :
    ∃ A n c l, cs = [.slice A n c] ∧ Lies W W.heap.size A (bys l) ∧ n = l.length ∧ n ≤ c ∧ c ≤ maxLen := by
  rcases open_ints ht he hc h with ⟨rfl, _⟩ | ⟨a, len, cap, zs, rfl, _, hl, hm, hz, _, hcell, hwf⟩
  · exact ⟨none, 0, 0, [], rfl, .inl rfl, rfl, Nat.le_refl _, Nat.zero_le _⟩
  · simp only [if_true] at hz
    refine ⟨some a, len, cap, (zs.take len).map fun z => UInt8.ofNat z.toNat, rfl, lies_of a _ ?_, by simp; omega, hl, hm⟩
    intro j u hu
    simp only [bys, List.map_map, List.getElem?_map] at hu
    by_cases hj : j < len
    · rw [List.getElem?_take, if_pos hj, List.getElem?_eq_getElem (by omega)] at hu
      simp only [Option.map_some, Function.comp, Option.some.injEq] at hu
      rw [hcell j (by omega), ← hu, ← u8_of _ (hwf _ (List.getElem_mem (by omega)))]
      simp [List.getD, List.getElem?_eq_getElem (show j < zs.length by omega)]
    · rw [List.getElem?_take, if_neg hj] at hu; cases hu

theorem open_u64s {t e : TypeId} {fuel : Nat} {cs : List Value} {x : DataW H × List MemPlace} (ht : P.underlying t = some (.slice e)) (he : P.underlying e = some (.int .u64)) (hc : P.cellsOf e = 1)
    (h : DataW.trod enc P W base (fun _ => true) held fuel t cs = some x) :
    ∃ A n c, ∃ l : List Nat, cs = [.slice A n c] ∧ Lies W W.heap.size A (u64s l) ∧ n = l.length ∧ n ≤ c ∧ c ≤ maxLen ∧ ∀ k, l.getD k 0 < 18446744073709551616 := by
  rcases open_ints ht he hc h with ⟨rfl, _⟩ | ⟨a, len, cap, zs, rfl, _, hl, hm, hz, _, hcell, hwf⟩
  · exact ⟨none, 0, 0, [], rfl, .inl rfl, rfl, Nat.le_refl _, Nat.zero_le _, fun k => by simp⟩
  · simp only [if_true] at hz
    have hb : ∀ z ∈ zs, 0 ≤ z ∧ z < 18446744073709551616 := by
      intro z hz
      have h := hwf z hz
      simp only [Lit.wf, Bool.and_eq_true, decide_eq_true_eq] at h
      have h1 : IntKind.u64.min = 0 := by rfl
      have h2 : IntKind.u64.max = 18446744073709551615 := by rfl
      rw [h1, h2] at h
      omega
    refine ⟨some a, len, cap, (zs.take len).map Int.toNat, rfl, lies_of a _ ?_, by simp; omega, hl, hm, ?_⟩
    · intro j u hu
      simp only [u64s, List.map_map, List.getElem?_map] at hu
      by_cases hj : j < len
      · rw [List.getElem?_take, if_pos hj, List.getElem?_eq_getElem (by omega)] at hu
        simp only [Option.map_some, Function.comp, Option.some.injEq] at hu
        rw [hcell j (by omega), ← hu, Int.toNat_of_nonneg (hb _ (List.getElem_mem (by omega))).1]
        simp [List.getD, List.getElem?_eq_getElem (show j < zs.length by omega)]
      · rw [List.getElem?_take, if_neg hj] at hu; cases hu
    · intro k
      rw [List.getD_eq_getElem?_getD, List.getElem?_map, List.getElem?_take]
      by_cases hk : k < len
      · rw [if_pos hk, List.getElem?_eq_getElem (by omega)]
        have := hb _ (List.getElem_mem (by omega : k < zs.length))
        simp
        omega
      · rw [if_neg hk]; simp

theorem pairCells_get : ∀ (l : List (Int × Int)) (j : Nat) (u : Value), (pairCells l)[j]? = some u →
    ∃ i, i < l.length ∧ ((j = i * 2 ∧ u = .int .i64 (l.getD i (0, 0)).1) ∨ (j = i * 2 + 1 ∧ u = .int .i64 (l.getD i (0, 0)).2))
  | [], j, u, h => by simp [pairCells] at h
  | q :: l, 0, u, h => ⟨0, by simp, .inl ⟨rfl, by simp [pairCells] at h; simp [← h]⟩⟩
  | q :: l, 1, u, h => ⟨0, by simp, .inr ⟨rfl, by simp [pairCells] at h; simp [← h]⟩⟩
  | q :: l, j + 2, u, h => by
    have h' : (pairCells l)[j]? = some u := by simpa [pairCells] using h
    obtain ⟨i, hi, hu⟩ := pairCells_get l j u h'
    refine ⟨i + 1, by simpa using hi, ?_⟩
    rcases hu with ⟨rfl, rfl⟩ | ⟨rfl, rfl⟩
    · exact .inl ⟨by omega, by simp⟩
    · exact .inr ⟨by omega, by simp⟩

theorem open_i64_pairs {t e : TypeId} {f0 f1 : Field} {fuel : Nat} {cs : List Value} {x : DataW H × List MemPlace} (ht : P.underlying t = some (.slice e)) (he : P.underlying e = some (.struct #[f0, f1]))
    (ce : P.cellsOf e = 2) (o0 : f0.offset = 0) (o1 : f1.offset = 1) (c0 : P.cellsOf f0.type = 1) (c1 : P.cellsOf f1.type = 1) (k0 : P.underlying f0.type = some (.int .i64)) (k1 : P.underlying f1.type = some (.int .i64))
    (h : DataW.trod enc P W base (fun _ => true) held fuel t cs = some x) :
    ∃ A n c, ∃ l : List (Int × Int), cs = [.slice A n c] ∧ Lies W W.heap.size A (pairCells l) ∧ n = l.length ∧ n ≤ c ∧ c ≤ maxLen ∧
      ∀ k, (-9223372036854775808 ≤ (l.getD k (0, 0)).1 ∧ (l.getD k (0, 0)).1 ≤ 9223372036854775807) ∧ (-9223372036854775808 ≤ (l.getD k (0, 0)).2 ∧ (l.getD k (0, 0)).2 ≤ 9223372036854775807) := by
  rcases open_slice_pairs ht he ce o0 o1 c0 c1 h with ⟨rfl, _⟩ | ⟨a, len, cap, m, n, V0, V1, D0, D1, P0, P1, rfl, _, hl, hm, hmm, _, hcell⟩
  · exact ⟨none, 0, 0, [], rfl, .inl rfl, rfl, Nat.le_refl _, Nat.zero_le _, fun k => by simp⟩
  · simp only [if_true] at hmm
    have hv : ∀ i, i < len → ∃ q : Int × Int, V0 i = .int .i64 q.1 ∧ V1 i = .int .i64 q.2 ∧ (Lit.int .i64 q.1).wf = true ∧ (Lit.int .i64 q.2).wf = true := by
      intro i hi
      obtain ⟨_, _, h0, h1⟩ := hcell i (by omega)
      obtain ⟨n0, e0, _, w0⟩ := DataW.trod_int k0 h0
      obtain ⟨n1, e1, _, w1⟩ := DataW.trod_int k1 h1
      injection e0 with e0 _
      injection e1 with e1 _
      exact ⟨(n0, n1), e0, e1, w0, w1⟩
    let F : Nat → Int × Int := fun i => if hi : i < len then Classical.choose (hv i hi) else (0, 0)
    have hF : ∀ i, i < len → V0 i = .int .i64 (F i).1 ∧ V1 i = .int .i64 (F i).2 ∧ (Lit.int .i64 (F i).1).wf = true ∧ (Lit.int .i64 (F i).2).wf = true := by
      intro i hi
      have := Classical.choose_spec (hv i hi)
      simpa [F, hi] using this
    have hget : ∀ i, i < len → ((List.range len).map F).getD i (0, 0) = F i := by
      intro i hi
      simp [List.getD, hi]
    refine ⟨some a, len, cap, (List.range len).map F, rfl, lies_of a _ ?_, by simp, hl, hm, ?_⟩
    · intro j u hu
      obtain ⟨i, hi, hq⟩ := pairCells_get _ j u hu
      have hi' : i < len := by simpa using hi
      obtain ⟨hc0, hc1, _, _⟩ := hcell i (by omega)
      obtain ⟨e0, e1, _, _⟩ := hF i hi'
      rcases hq with ⟨rfl, rfl⟩ | ⟨rfl, rfl⟩
      · rw [hc0, e0, hget i hi']
      · rw [hc1, e1, hget i hi']
    · intro k
      by_cases hk : k < len
      · rw [hget k hk]
        obtain ⟨_, _, w0, w1⟩ := hF k hk
        simp only [Lit.wf, Bool.and_eq_true, decide_eq_true_eq] at w0 w1
        have h1 : IntKind.i64.min = -9223372036854775808 := by rfl
        have h2 : IntKind.i64.max = 9223372036854775807 := by rfl
        rw [h1, h2] at w0 w1
        exact ⟨w0, w1⟩
      · have : ((List.range len).map F).getD k (0, 0) = (0, 0) := by simp [List.getD, hk]
        rw [this]
        simp
end
end Go.Proofs.YtigpplckddnghaaGreat
