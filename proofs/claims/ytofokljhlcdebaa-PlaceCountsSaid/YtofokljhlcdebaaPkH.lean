/-
  LAYER 20: a block is freed: as mathematics, and where it is written.
-/
import Derived.Test.YtofokljhlcdebaaPkG
import Derived.Laws.OwnMore
import Derived.Laws.IdiomCopy
namespace Go.Proofs.Ytofokljhlcdebaa
open Go.RowKit
set_option maxRecDepth 8000

/-- Just these blocks were touched. -/
structure Tq (T : Nat → Prop) (w w' : World) : Prop where
  os : w'.os = w.os
  tape : w'.tape = w.tape
  output : w'.output = w.output
  size : w.heap.size ≤ w'.heap.size
  block : ∀ k, k < w.heap.size → ¬ T k → w'.heap[k]? = w.heap[k]?
section
variable {T : Nat → Prop} {w W W' : World}
theorem Tq.refl (T : Nat → Prop) (w : World) : Tq T w w := ⟨rfl, rfl, rfl, Nat.le_refl _, fun _ _ _ => rfl⟩
theorem Tq.below (h : Tq T w W) (hb : Below W.heap.size W W') : Tq T w W' :=
  ⟨hb.os.trans h.os, hb.tape.trans h.tape, hb.output.trans h.output, Nat.le_trans h.size hb.size, fun k hk ht => (hb.block k (Nat.lt_of_lt_of_le hk h.size)).trans (h.block k hk ht)⟩
theorem Tq.grown {row : Option Nat} (h : Tq T w W) (hg : W.grownBy W' row) (hr : ∀ r, row = some r → T r ∨ w.heap.size ≤ r) : Tq T w W' :=
  ⟨hg.os.trans h.os, hg.tape.trans h.tape, hg.output.trans h.output, Nat.le_trans h.size hg.size, fun k hk ht => (hg.block k (Nat.lt_of_lt_of_le hk h.size) (fun e => by
    rcases hr k e.symm with h1 | h1
    · exact ht h1
    · omega)).trans (h.block k hk ht)⟩
theorem Tq.under {B : Nat} {a : World} (h : Tq T w W) (hT : ∀ j, T j → B ≤ j) (hb : Below B a w) (hB : B ≤ w.heap.size) : Below B a W :=
  ⟨h.os.trans hb.os, h.tape.trans hb.tape, h.output.trans hb.output, Nat.le_trans hb.size h.size, fun k hk => (h.block k (Nat.lt_of_lt_of_le hk hB) (fun ht => by have := hT k ht; omega)).trans (hb.block k hk)⟩
/-- One play behind another. -/
theorem Tq.trans {T' : Nat → Prop} (h : Tq T w W) (h' : Tq T' W W') (hT : ∀ j, T' j → T j ∨ w.heap.size ≤ j) : Tq T w W' :=
  ⟨h'.os.trans h.os, h'.tape.trans h.tape, h'.output.trans h.output, Nat.le_trans h.size h'.size, fun k hk ht => (h'.block k (Nat.lt_of_lt_of_le hk h.size) (fun e => by
    rcases hT k e with h1 | h1
    · exact ht h1
    · omega)).trans (h.block k hk ht)⟩
end
theorem rowQ_set : ∀ (L : List Pl2) (i : Nat) (x y : Int), ((rowQ L).set (i * 2) (.int .i64 x)).set (i * 2 + 1) (.int .i64 y) = rowQ (L.set i (x, y))
  | [], i, x, y => rfl
  | q :: L, 0, x, y => by
    show ((plc q ++ rowQ L).set 0 _).set 1 _ = plc (x, y) ++ rowQ L
    rfl
  | q :: L, i + 1, x, y => by
    have ih := rowQ_set L i x y
    have e : (i + 1) * 2 = i * 2 + 1 + 1 := by omega
    show ((plc q ++ rowQ L).set ((i + 1) * 2) _).set ((i + 1) * 2 + 1) _ = plc q ++ rowQ (L.set i (x, y))
    rw [e, ← ih]
    rfl
/-- A place written into a row of places. -/
theorem row_set {W : World} {base g n c i : Nat} {L : List Pl2} {x y : Int} (h : W.ownsRow base 30 2 (.slice (some ⟨g, 0, none⟩) n c) n (rowQ L)) :
    (W.setCells g (i * 2) [.int .i64 x, .int .i64 y]).ownsRow base 30 2 (.slice (some ⟨g, 0, none⟩) n c) n (rowQ (L.set i (x, y))) ∧ W.grownBy (W.setCells g (i * 2) [.int .i64 x, .int .i64 y]) (some g) := by
  obtain ⟨h1, g1⟩ := h.stored (i * 2) (.int .i64 x)
  obtain ⟨h2, g2⟩ := h1.stored (i * 2 + 1) (.int .i64 y)
  rw [rowQ_set] at h2
  exact ⟨h2, ⟨g2.os.trans g1.os, g2.tape.trans g1.tape, g2.output.trans g1.output, Nat.le_trans g1.size g2.size, fun k hk hne => (g2.block k (Nat.lt_of_lt_of_le hk g1.size) hne).trans (g1.block k hk hne)⟩⟩
theorem row_there {W : World} {base g n c i : Nat} {L : List Pl2} (h : W.ownsRow base 30 2 (.slice (some ⟨g, 0, none⟩) n c) n (rowQ L)) (hi : i < n) : W.there g (i * 2) 2 := by
  rcases h.2 with ⟨hv, _⟩ | ⟨g2, cap, cur, hv, _, hg, h1, _, h3, _⟩
  · cases hv
  · injection hv with e1 _ e3
    injection e1 with e1
    injection e1 with e1
    subst e1 e3
    intro j hj
    have hlt : i * 2 + j < cur.size := by rw [h3]; omega
    exact ⟨by simp [World.cell?, hg, hlt], by simp [World.frozen?, hg]⟩

/-- Where freeing stands behind k of the places. -/
structure Fr (vs : List (List Pl2)) (bad : List Int) (L : List Pl2) (F : Int → List Int) (b : Int) (k : Nat) (Lk : List Pl2) (Fk : Int → List Int) : Prop where
  len : Lk.length = L.length
  at_ : ∀ (i : Nat) (h : i < L.length), Lk[i]'(by rw [len]; exact h) = if (i : Int) ∈ (F b).take k then tgtP vs bad L b (i : Int) else L[i]
  same : Fk b = F b
  uses : ∀ x, x ≠ b → (Fk x).Nodup ∧ ∀ z, z ∈ Fk x ↔ ∃ (i : Nat) (h : i < Lk.length), z = (i : Int) ∧ Lk[i].1 = x
section
variable {vs : List (List Pl2)} {bad : List Int} {L Lk : List Pl2} {F Fk : Int → List Int} {b : Int} {k : Nat}
theorem Fr.start (h : UsesB F L) : Fr vs bad L F b 0 L F := ⟨rfl, fun i hi => by simp, rfl, fun x _ => h x⟩
theorem Fr.next {j : Nat} (h : Fr vs bad L F b k Lk Fk) (hu : UsesB F L) (hk : (F b)[k]? = some (j : Int)) (hne : (tgtP vs bad L b (j : Int)).1 ≠ b) :
    Fr vs bad L F b (k + 1) (Lk.set j (tgtP vs bad L b (j : Int))) (fun x => if x = (tgtP vs bad L b (j : Int)).1 then Fk (tgtP vs bad L b (j : Int)).1 ++ [(j : Int)] else Fk x) := by
  obtain ⟨hkl, hkj⟩ := List.getElem?_eq_some_iff.1 hk
  have ht : (F b).take (k + 1) = (F b).take k ++ [(j : Int)] := by rw [← List.take_append_getElem hkl, hkj]
  have hnd := (hu b).1
  have hnew : ¬ (j : Int) ∈ (F b).take k := by
    intro hm
    have h2 : ((F b).take (k + 1)).Nodup := hnd.sublist (List.take_sublist _ _)
    rw [ht, List.nodup_append] at h2
    exact h2.2.2 _ hm _ (List.mem_singleton.2 rfl) rfl
  obtain ⟨j', hj, ej, hjb⟩ := ((hu b).2 (j : Int)).1 (by rw [← hkj]; exact List.getElem_mem hkl)
  obtain rfl : j = j' := by omega
  have hLj : Lk[j]'(by rw [h.len]; exact hj) = L[j] := by rw [h.at_ j hj, if_neg hnew]
  generalize htg : tgtP vs bad L b (j : Int) = t at *
  refine ⟨by rw [List.length_set]; exact h.len, fun i hi => ?_, ?_, fun x hx => ?_⟩
  · rw [List.getElem_set]
    by_cases e : j = i
    · subst e
      rw [if_pos rfl, if_pos (by rw [ht]; exact List.mem_append_right _ (List.mem_singleton.2 rfl)), htg]
    · rw [if_neg e, h.at_ i hi]
      by_cases hm : (i : Int) ∈ (F b).take k
      · rw [if_pos hm, if_pos (by rw [ht]; exact List.mem_append_left _ hm)]
      · rw [if_neg hm, if_neg (by rw [ht, List.mem_append, List.mem_singleton]; rintro (h1 | h1); exact hm h1; omega)]
  · show (if b = t.1 then _ else Fk b) = F b
    rw [if_neg (fun e => hne e.symm)]
    exact h.same
  · obtain ⟨u1, u2⟩ := h.uses x hx
    by_cases e : x = t.1
    · subst e
      simp only [if_true]
      constructor
      · rw [List.nodup_append]
        refine ⟨u1, by simp, fun a ha c hc => ?_⟩
        rw [List.mem_singleton] at hc
        rintro rfl
        subst hc
        obtain ⟨i, hi, e1, e2⟩ := (u2 (j : Int)).1 ha
        obtain rfl : j = i := by omega
        rw [hLj, hjb] at e2
        exact hx e2.symm
      · intro z
        rw [List.mem_append, List.mem_singleton, u2 z]
        constructor
        · rintro (⟨i, hi, rfl, e2⟩ | rfl)
          · refine ⟨i, by rw [List.length_set]; exact hi, rfl, ?_⟩
            rw [List.getElem_set]
            by_cases e3 : j = i
            · rw [if_pos e3]
            · rw [if_neg e3]; exact e2
          · exact ⟨j, by rw [List.length_set, h.len]; exact hj, rfl, by rw [List.getElem_set, if_pos rfl]⟩
        · rintro ⟨i, hi, rfl, e2⟩
          rw [List.getElem_set] at e2
          by_cases e3 : j = i
          · subst e3; exact .inr rfl
          · rw [if_neg e3] at e2
            exact .inl ⟨i, by rw [List.length_set] at hi; exact hi, rfl, e2⟩
    · simp only [if_neg e]
      refine ⟨u1, fun z => ?_⟩
      rw [u2 z]
      constructor
      · rintro ⟨i, hi, rfl, e2⟩
        refine ⟨i, by rw [List.length_set]; exact hi, rfl, ?_⟩
        rw [List.getElem_set]
        by_cases e3 : j = i
        · subst e3; rw [hLj, hjb] at e2; exact absurd e2.symm hx
        · rw [if_neg e3]; exact e2
      · rintro ⟨i, hi, rfl, e2⟩
        rw [List.getElem_set] at e2
        by_cases e3 : j = i
        · rw [if_pos e3] at e2; exact absurd e2.symm e
        · rw [if_neg e3] at e2
          exact ⟨i, by rw [List.length_set] at hi; exact hi, rfl, e2⟩
theorem tgt_same (hu : UsesB F L) (hl : L.length = vs.length) (hc : canP vs bad L b = true) {i : Int} (hi : i ∈ F b) : ∃ (j : Nat) (h : j < L.length), i = (j : Int) ∧ L[j].1 = b ∧ tgtP vs bad L b i = newP bad L b (L[j], vs[j]'(by rw [← hl]; exact h)) ∧ okP bad L b (tgtP vs bad L b i) = true := by
  obtain ⟨j, hj, rfl, hjb⟩ := ((hu b).2 i).1 hi
  have ha := canP_at hc hl j hj hjb
  have hjv : j < vs.length := by rw [← hl]; exact hj
  have he : tgtP vs bad L b (j : Int) = newP bad L b (L[j], vs[j]) := by
    obtain ⟨_, hf⟩ := find_at (okP bad L b) vs[j] ha
    unfold tgtP newP
    have : vs.getD (j : Int).toNat [] = vs[j] := by simp [List.getD, hjv]
    rw [this, if_pos hjb]
    simp only [hf]
    rfl
  exact ⟨j, hj, rfl, hjb, he, by rw [he]; exact (newP_same (q := (L[j], vs[j])) hjb ha).2⟩
theorem Fr.done (h : Fr vs bad L F b (F b).length Lk Fk) (hu : UsesB F L) (hl : L.length = vs.length) (hc : canP vs bad L b = true) :
    Lk = freeP vs bad L b ∧ UsesB (fun x => if x = b then [] else Fk x) Lk := by
  have hat : ∀ (i : Nat) (hi : i < L.length), Lk[i]'(by rw [h.len]; exact hi) = newP bad L b (L[i], vs[i]'(by rw [← hl]; exact hi)) := by
    intro i hi
    rw [h.at_ i hi, List.take_length]
    by_cases hm : (i : Int) ∈ F b
    · rw [if_pos hm]
      obtain ⟨j, hj, e, _, h2, _⟩ := tgt_same hu hl hc hm
      obtain rfl : i = j := by omega
      exact h2
    · rw [if_neg hm]
      have : L[i].1 ≠ b := fun e => hm (((hu b).2 _).2 ⟨i, hi, rfl, e⟩)
      rw [newP_other this]
  have hE : Lk = freeP vs bad L b := by
    apply List.ext_getElem
    · rw [h.len, freeP_len hl]
    · intro i h1 h2
      have hi : i < L.length := by rw [h.len] at h1; exact h1
      rw [hat i hi, freeP_at hl i hi]
  refine ⟨hE, fun x => ?_⟩
  by_cases hx : x = b
  · subst hx
    simp only [if_true]
    refine ⟨List.nodup_nil, fun z => ⟨fun hz => (by cases hz), ?_⟩⟩
    rintro ⟨i, hi, rfl, e⟩
    have hm : x ∈ Lk.map Prod.fst := List.mem_map.2 ⟨Lk[i], List.getElem_mem hi, e⟩
    rw [hE, freeP_blocks hl hc] at hm
    exact absurd rfl hm.2
  · simp only [if_neg hx]
    exact h.uses x hx
end
end Go.Proofs.Ytofokljhlcdebaa
