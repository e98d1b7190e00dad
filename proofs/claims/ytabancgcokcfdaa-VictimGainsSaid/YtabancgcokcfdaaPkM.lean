/-
  LAYER 20, mathematics: which copies are kept; the program's one walk over the blocks and the document's 'as long as a block can be freed, the least one is' come to the same.
-/
import Derived.Test.YtabancgcokcfdaaWords
namespace Go.Proofs.Ytabancgcokcfdaa
open Go.RowKit

abbrev Pl2 := Int × Int
/-- The blocks of places, rising, each once. -/
def IsBl (B : List Int) (L : List Pl2) : Prop := B.Pairwise (· < ·) ∧ ∀ x, x ∈ B ↔ x ∈ L.map Prod.fst
/-- Is a place a copy in another block that is used, and not bad? -/
def okP (bad : List Int) (L : List Pl2) (b : Int) (p : Pl2) : Bool := decide (p.1 ≠ b) && decide (p.1 ∈ L.map Prod.fst) && !decide (p.1 ∈ bad)
def canP (vs : List (List Pl2)) (bad : List Int) (L : List Pl2) (b : Int) : Bool := !decide (b ∈ bad) && (L.zip vs).all fun q => !decide (q.1.1 = b) || q.2.any (okP bad L b)
def newP (bad : List Int) (L : List Pl2) (b : Int) (q : Pl2 × List Pl2) : Pl2 := if q.1.1 = b then (q.2.find? (okP bad L b)).getD q.1 else q.1
def freeP (vs : List (List Pl2)) (bad : List Int) (L : List Pl2) (b : Int) : List Pl2 := (L.zip vs).map (newP bad L b)
/-- One walk over the blocks. -/
def runP (vs : List (List Pl2)) (bad : List Int) : List Int → List Pl2 → List Pl2
  | [], L => L
  | b :: r, L => runP vs bad r (if canP vs bad L b = true then freeP vs bad L b else L)

theorem asc_same20 : ∀ {a b : List Int}, a.Pairwise (· < ·) → b.Pairwise (· < ·) → (∀ x, x ∈ a ↔ x ∈ b) → a = b
  | [], [], _, _, _ => rfl
  | [], y :: b, _, _, h => by have := (h y).2 (List.mem_cons_self ..); cases this
  | x :: a, [], _, _, h => by have := (h x).1 (List.mem_cons_self ..); cases this
  | x :: a, y :: b, ha, hb, h => by
    rw [List.pairwise_cons] at ha hb
    have exy : x = y := by
      have h1 := (h x).1 (List.mem_cons_self ..)
      have h2 := (h y).2 (List.mem_cons_self ..)
      rcases List.mem_cons.1 h1 with e | h1
      · exact e
      · rcases List.mem_cons.1 h2 with e | h2
        · exact e.symm
        · have := hb.1 x h1; have := ha.1 y h2; omega
    subst exy
    refine congrArg (x :: ·) (asc_same20 ha.2 hb.2 fun z => ?_)
    have hz := h z
    rw [List.mem_cons, List.mem_cons] at hz
    constructor
    · intro m
      rcases hz.1 (.inr m) with e | m2
      · have := ha.1 z m; omega
      · exact m2
    · intro m
      rcases hz.2 (.inr m) with e | m2
      · have := hb.1 z m; omega
      · exact m2
theorem IsBl.same {B B' : List Int} {L : List Pl2} (h : IsBl B L) (h' : IsBl B' L) : B = B' := asc_same20 h.1 h'.1 fun x => (h.2 x).trans (h'.2 x).symm

section
variable {vs : List (List Pl2)} {bad : List Int} {L : List Pl2} {b : Int}
theorem freeP_len (hl : L.length = vs.length) : (freeP vs bad L b).length = L.length := by
  unfold freeP
  rw [List.length_map, List.length_zip, ← hl, Nat.min_self]
theorem freeP_at (hl : L.length = vs.length) (i : Nat) (hi : i < L.length) : (freeP vs bad L b)[i]'(by rw [freeP_len hl]; exact hi) = newP bad L b (L[i], vs[i]'(by rw [← hl]; exact hi)) := by
  unfold freeP
  rw [List.getElem_map, List.getElem_zip]
theorem canP_at (h : canP vs bad L b = true) (hl : L.length = vs.length) (i : Nat) (hi : i < L.length) (hb : L[i].1 = b) : (vs[i]'(by rw [← hl]; exact hi)).any (okP bad L b) = true := by
  unfold canP at h
  rw [Bool.and_eq_true, List.all_eq_true] at h
  have := h.2 (L[i], vs[i]'(by rw [← hl]; exact hi)) (by
    rw [List.mem_iff_getElem]
    exact ⟨i, by rw [List.length_zip, ← hl, Nat.min_self]; exact hi, by rw [List.getElem_zip]⟩)
  simpa [hb] using this
theorem newP_other {q : Pl2 × List Pl2} (h : q.1.1 ≠ b) : newP bad L b q = q.1 := by unfold newP; rw [if_neg h]
theorem newP_same {q : Pl2 × List Pl2} (h : q.1.1 = b) (ha : q.2.any (okP bad L b) = true) : newP bad L b q ∈ q.2 ∧ okP bad L b (newP bad L b q) = true := by
  unfold newP
  rw [if_pos h]
  cases hf : q.2.find? (okP bad L b) with
  | none =>
    rw [List.find?_eq_none] at hf
    obtain ⟨x, hx, hp⟩ := List.any_eq_true.1 ha
    exact absurd hp (hf x hx)
  | some x => exact ⟨List.mem_of_find?_eq_some hf, List.find?_some hf⟩
theorem okP_iff {p : Pl2} : okP bad L b p = true ↔ p.1 ≠ b ∧ p.1 ∈ L.map Prod.fst ∧ ¬ p.1 ∈ bad := by
  unfold okP
  simp [and_assoc]
theorem mem_map_at {x : Int} {M : List Pl2} : x ∈ M.map Prod.fst ↔ ∃ (i : Nat) (hi : i < M.length), M[i].1 = x := by
  rw [List.mem_map]
  constructor
  · rintro ⟨q, hq, e⟩
    obtain ⟨i, hi, rfl⟩ := List.getElem_of_mem hq
    exact ⟨i, hi, e⟩
  · rintro ⟨i, hi, e⟩
    exact ⟨M[i], List.getElem_mem hi, e⟩
/-- The blocks that are used, behind a block was freed. -/
theorem freeP_blocks (hl : L.length = vs.length) (hc : canP vs bad L b = true) (x : Int) : x ∈ (freeP vs bad L b).map Prod.fst ↔ x ∈ L.map Prod.fst ∧ x ≠ b := by
  constructor
  · intro h
    obtain ⟨i, hi, e⟩ := mem_map_at.1 h
    have hi' : i < L.length := by rw [freeP_len hl] at hi; exact hi
    rw [freeP_at hl i hi'] at e
    by_cases hb : L[i].1 = b
    · have h2 := (newP_same (q := (L[i], vs[i]'(by rw [← hl]; exact hi'))) hb (canP_at hc hl i hi' hb)).2
      rw [okP_iff, e] at h2
      exact ⟨h2.2.1, h2.1⟩
    · rw [newP_other hb] at e
      exact ⟨e ▸ List.mem_map.2 ⟨L[i], List.getElem_mem hi', rfl⟩, e ▸ hb⟩
  · rintro ⟨h, hx⟩
    obtain ⟨i, hi, e⟩ := mem_map_at.1 h
    refine mem_map_at.2 ⟨i, by rw [freeP_len hl]; exact hi, ?_⟩
    rw [freeP_at hl i hi, newP_other (by show L[i].1 ≠ b; rw [e]; exact hx)]
    exact e
/-- A block that can't be freed never can be later on. -/
theorem freeP_never (hl : L.length = vs.length) (hc : canP vs bad L b = true) {x : Int} (hx : x ≠ b) (hn : canP vs bad L x = false) : canP vs bad (freeP vs bad L b) x = false := by
  cases hcx : canP vs bad (freeP vs bad L b) x with
  | false => rfl
  | true =>
    rw [← hn]
    symm
    have hbad : ¬ x ∈ bad := by
      unfold canP at hcx
      rw [Bool.and_eq_true] at hcx
      simpa using hcx.1
    unfold canP
    rw [Bool.and_eq_true, List.all_eq_true]
    refine ⟨by simpa using hbad, fun q hq => ?_⟩
    obtain ⟨i, hi, rfl⟩ := List.getElem_of_mem hq
    have hi' : i < L.length := by rw [List.length_zip, ← hl, Nat.min_self] at hi; exact hi
    rw [List.getElem_zip]
    by_cases e : L[i].1 = x
    · have h3 := canP_at hcx (by rw [freeP_len hl]; exact hl) i (by rw [freeP_len hl]; exact hi') (by rw [freeP_at hl i hi', newP_other (by show L[i].1 ≠ b; rw [e]; exact hx)]; exact e)
      obtain ⟨p, hp, hok⟩ := List.any_eq_true.1 h3
      rw [okP_iff] at hok
      have h4 := (freeP_blocks hl hc p.1).1 hok.2.1
      have : (vs[i]'(by rw [← hl]; exact hi')).any (okP bad L x) = true := List.any_eq_true.2 ⟨p, hp, okP_iff.2 ⟨hok.1, h4.1, hok.2.2⟩⟩
      simp [this]
    · simp [e]
theorem runP_none : ∀ (r : List Int) (L : List Pl2), (∀ x ∈ r, canP vs bad L x = false) → runP vs bad r L = L
  | [], _, _ => rfl
  | b :: r, L, h => by
    unfold runP
    rw [if_neg (by rw [h b (List.mem_cons_self ..)]; decide)]
    exact runP_none r L (fun x hx => h x (List.mem_cons_of_mem _ hx))
theorem runP_app : ∀ (r s : List Int) (L : List Pl2), runP vs bad (r ++ s) L = runP vs bad s (runP vs bad r L)
  | [], _, _ => rfl
  | b :: r, s, L => by
    rw [List.cons_append]
    exact runP_app r s (if canP vs bad L b = true then freeP vs bad L b else L)
end
/-- Where the document's play stands: so many blocks can't be freed, these are left, and this comes out. -/
structure Play (vs : List (List Pl2)) (bad : List Int) (R : List Pl2) (L : List Pl2) (sk rest : List Int) : Prop where
  len : L.length = vs.length
  bl : IsBl (sk ++ rest) L
  skip : ∀ x ∈ sk, canP vs bad L x = false
  out : runP vs bad rest L = R
section
variable {vs : List (List Pl2)} {bad : List Int} {R L : List Pl2} {sk rest : List Int}
/-- None of them can be freed: this is it. -/
theorem Play.stop (h : Play vs bad R L sk rest) (hn : ∀ x ∈ sk ++ rest, canP vs bad L x = false) : L = R := by
  rw [← h.out]
  exact (runP_none rest L fun x hx => hn x (List.mem_append_right _ hx)).symm
/-- The first one that can be freed, at k, is. -/
theorem Play.next (h : Play vs bad R L sk rest) {k : Nat} (hk : k < (sk ++ rest).length) (hf : ∀ j (hj : j < k), canP vs bad L ((sk ++ rest)[j]'(Nat.lt_trans hj hk)) = false) (hc : canP vs bad L (sk ++ rest)[k] = true) :
    ∃ sk' rest', Play vs bad R (freeP vs bad L (sk ++ rest)[k]) sk' rest' ∧ rest'.length < rest.length := by
  have hks : sk.length ≤ k := by
    refine Nat.le_of_not_lt fun hlt => ?_
    have e : (sk ++ rest)[k] = sk[k] := List.getElem_append_left hlt
    rw [e, h.skip _ (List.getElem_mem hlt)] at hc
    cases hc
  have hkr : k - sk.length < rest.length := by rw [List.length_append] at hk; omega
  have e : (sk ++ rest)[k] = rest[k - sk.length] := List.getElem_append_right hks
  generalize hm : k - sk.length = m at *
  have hrest : rest = rest.take m ++ rest[m] :: rest.drop (m + 1) := by rw [← List.drop_eq_getElem_cons hkr, List.take_append_drop]
  have hskip : ∀ x ∈ rest.take m, canP vs bad L x = false := by
    intro x hx
    obtain ⟨j, hj, rfl⟩ := List.getElem_of_mem hx
    have hj2 : j < m := by rw [List.length_take] at hj; omega
    have := hf (sk.length + j) (by omega)
    rw [List.getElem_append_right (by omega)] at this
    rw [List.getElem_take]
    simpa using this
  rw [e] at hc ⊢
  generalize hb : rest[m] = b at *
  have hpw := h.bl.1
  rw [hrest, ← List.append_assoc] at hpw
  have hne : ∀ x, x ∈ sk ++ rest.take m ∨ x ∈ rest.drop (m + 1) → x ≠ b := by
    rintro x (hx | hx)
    · have := (List.pairwise_append.1 hpw).2.2 x hx b (List.mem_cons_self ..)
      omega
    · have := (List.pairwise_cons.1 (List.pairwise_append.1 hpw).2.1).1 x hx
      omega
  refine ⟨sk ++ rest.take m, rest.drop (m + 1), ⟨?_, ⟨?_, fun x => ?_⟩, fun x hx => ?_, ?_⟩, ?_⟩
  · rw [freeP_len h.len]; exact h.len
  · exact List.Pairwise.sublist ((List.Sublist.refl _).append (List.sublist_cons_self _ _)) hpw
  · rw [freeP_blocks h.len hc, ← h.bl.2 x]
    have hx9 : x ∈ sk ++ rest ↔ x ∈ sk ++ rest.take m ∨ x = b ∨ x ∈ rest.drop (m + 1) := by
      rw [show sk ++ rest = (sk ++ rest.take m) ++ b :: rest.drop (m + 1) by rw [List.append_assoc, ← hrest], List.mem_append, List.mem_cons]
    rw [hx9, List.mem_append (s := sk ++ rest.take m)]
    constructor
    · intro hx
      exact ⟨by rcases hx with hx | hx; exact .inl hx; exact .inr (.inr hx), hne x hx⟩
    · rintro ⟨hx | hx | hx, h2⟩
      · exact .inl hx
      · exact absurd hx h2
      · exact .inr hx
  · refine freeP_never h.len hc (hne x (.inl hx)) ?_
    rcases List.mem_append.1 hx with hx | hx
    · exact h.skip x hx
    · exact hskip x hx
  · have ho := h.out
    rw [hrest, runP_app, runP_none _ _ hskip] at ho
    unfold runP at ho
    rw [if_pos hc] at ho
    exact ho
  · rw [List.length_drop]; omega
end
end Go.Proofs.Ytabancgcokcfdaa
