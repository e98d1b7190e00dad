/-
  LAYER 20, CONTRACTS: mover, and whether a block can be freed.
-/
import Derived.Test.YtofokljhlcdebaaPkE
namespace Go.Proofs.Ytofokljhlcdebaa
open Go.RowKit
set_option maxRecDepth 8000

theorem mover_any (A : Option Addr) (n c bm qb : Nat) (w : World) :
    Calls Try.prog 43 #[.slice A n c, .map (some bm), .func (.func 64) #[] #[.pointer (some ⟨qb, 0, none⟩)]] w fun e w' => e = .returned (.func (.func 60) #[] #[.pointer (some ⟨w.heap.size + 1, 0, none⟩), .pointer (some ⟨w.heap.size + 2, 0, none⟩), .pointer (some ⟨w.heap.size, 0, none⟩)]) ∧
      w' = ((w.alloc (.cells #[.slice A n c] 37)).alloc (.cells #[.map (some bm)] 73)).alloc (.cells #[.func (.func 64) #[] #[.pointer (some ⟨qb, 0, none⟩)]] 77) := by
  go_enter Try.func43, Try.ntmps43
  go_wp2
  go_ret
  exact ⟨by simp, rfl⟩
theorem find_at (p : Pl2 → Bool) : ∀ l : List Pl2, l.any p = true → ∃ hk : l.findIdx p < l.length, l.find? p = some (l[l.findIdx p]'hk)
  | [], h => by simp at h
  | x :: l, h => by
    by_cases hx : p x = true
    · refine ⟨by simp [List.findIdx_cons, hx], by simp [List.findIdx_cons, hx]⟩
    · have hl : l.any p = true := by simpa [hx] using h
      obtain ⟨hk, e⟩ := find_at p l hl
      have hx2 : p x = false := by simpa using hx
      have e1 : (x :: l).findIdx p = l.findIdx p + 1 := by rw [List.findIdx_cons, hx2]; rfl
      have h1 : (x :: l).findIdx p < (x :: l).length := by rw [e1]; exact Nat.succ_lt_succ hk
      refine ⟨h1, ?_⟩
      rw [List.find?_cons, hx2, e]
      have e2 : (x :: l)[l.findIdx p + 1]'(Nat.succ_lt_succ hk) = l[l.findIdx p] := List.getElem_cons_succ ..
      rw [← e2]
      exact congrArg some (by congr 1; exact e1.symm)
def plsC (l : List Cq) : List (List Pl2) := l.map Cq.ps
/-- What is chosen for the place of number i. -/
def tgtP (vs : List (List Pl2)) (bad : List Int) (L : List Pl2) (b i : Int) : Pl2 := ((vs.getD i.toNat []).find? (okP bad L b)).getD (0, 0)
theorem canP_uses {vs : List (List Pl2)} {bad : List Int} {L : List Pl2} {F : Int → List Int} (h : UsesB F L) (hl : L.length = vs.length) (b : Int) : canP vs bad L b = true ↔ ¬ b ∈ bad ∧ ∀ i ∈ F b, (vs.getD i.toNat []).any (okP bad L b) = true := by
  constructor
  · intro hc
    refine ⟨fun hb => ?_, fun i hi => ?_⟩
    · unfold canP at hc
      simp [hb] at hc
    · obtain ⟨k, hk, rfl, e⟩ := ((h b).2 i).1 hi
      have := canP_at hc hl k hk e
      simpa [List.getD, show k < vs.length by omega] using this
  · rintro ⟨h1, h2⟩
    unfold canP
    rw [Bool.and_eq_true, List.all_eq_true]
    refine ⟨by simpa using h1, fun q hq => ?_⟩
    obtain ⟨i, hi, rfl⟩ := List.getElem_of_mem hq
    have hi' : i < L.length := by rw [List.length_zip, ← hl, Nat.min_self] at hi; exact hi
    rw [List.getElem_zip]
    by_cases e : L[i].1 = b
    · have := h2 (i : Int) (((h b).2 _).2 ⟨i, hi', rfl, e⟩)
      have h3 : (vs[i]'(by omega)).any (okP bad L b) = true := by simpa [List.getD, show i < vs.length by omega] using this
      simp [h3]
    · simp [e]
structure Mw (w0 : World) (A : Option Addr) (nv cv : Nat) (l : List Cq) (bad : List Int) (L : List Pl2) (F : Int → List Int) (bm n : Nat) (D : DataW Value) (V : Int → Value) (lo qb q3 q4 q5 : Nat) (b : Int) (k : Nat) (v : Value) (W : World) : Prop where
  mq : Mq bad L F bm n D V lo qb q4 q5 W
  v3 : W.heap[q3]? = some (.cells #[.slice A nv cv] 37 (0, 0))
  vq : Vq W w0.heap.size A l
  bx : W.heap[w0.heap.size]? = some (.cells #[.int .i64 b] 3 (0, 0))
  own : W.ownsRow (w0.heap.size + 1) 30 2 v k (rowQ (((F b).take k).map (tgtP (plsC l) bad L b)))
  all : ∀ i ∈ (F b).take k, ((plsC l).getD i.toNat []).any (okP bad L b) = true
  below : Below w0.heap.size w0 W
section
variable {w0 W W' : World} {A : Option Addr} {nv cv : Nat} {l : List Cq} {bad : List Int} {L : List Pl2} {F : Int → List Int} {bm n : Nat} {D : DataW Value} {V : Int → Value} {lo qb q3 q4 q5 : Nat} {b : Int} {k : Nat} {v : Value}
theorem Mw.later (h : Mw w0 A nv cv l bad L F bm n D V lo qb q3 q4 q5 b k v W) (hb : Below W.heap.size W W') : Mw w0 A nv cv l bad L F bm n D V lo qb q3 q4 q5 b k v W' :=
  ⟨h.mq.later hb, (hb.block q3 (Array.getElem?_eq_some_iff.1 h.v3).1).trans h.v3, h.vq.below (hb.mono h.below.size), (hb.block w0.heap.size (Array.getElem?_eq_some_iff.1 h.bx).1).trans h.bx, own_keepT h.own hb, h.all, h.below.trans (hb.mono h.below.size)⟩
theorem Mw.c3 (h : Mw w0 A nv cv l bad L F bm n D V lo qb q3 q4 q5 b k v W) : W.cell? ⟨q3, 0, none⟩ = some (.slice A nv cv) := by simp [World.cell?, h.v3]
theorem Mw.c10 (h : Mw w0 A nv cv l bad L F bm n D V lo qb q3 q4 q5 b k v W) : W.cell? ⟨w0.heap.size, 0, none⟩ = some (.int .i64 b) := by simp [World.cell?, h.bx]
/-- Where a row of places is written that is of the call's own, all the rest is kept. -/
theorem Mw.more {A5 : Option Addr} {c5 : Nat} {W6 : World} {i : Int} (h : Mw w0 A nv cv l bad L F bm n D V lo qb q3 q4 q5 b k v W) (hq3 : q3 < w0.heap.size) (hq4 : q4 < w0.heap.size) (hq5 : q5 < w0.heap.size) (hqb : qb < w0.heap.size) (hbm : bm < w0.heap.size) (hV : ∀ x g, (V x).ownBlock = some g → g < w0.heap.size)
    (hi : (F b)[k]? = some i) (hany : ((plsC l).getD i.toNat []).any (okP bad L b) = true) (hb : Below W.heap.size W W6)
    (hg : W6.grownBy W' v.ownBlock) (hown : W'.ownsRow (w0.heap.size + 1) 30 2 (.slice A5 (k + 1) c5) (k + 1) (rowQ (((F b).take k).map (tgtP (plsC l) bad L b)) ++ plc (tgtP (plsC l) bad L b i))) :
    Mw w0 A nv cv l bad L F bm n D V lo qb q3 q4 q5 b (k + 1) (.slice A5 (k + 1) c5) W' := by
  have h6 := h.later hb
  have hlow := own_lowS h6.own
  have bb : Below w0.heap.size W6 W' := (Below.refl _ W6).grown hg h6.below.size (fun j e => Nat.le_of_succ_le (hlow j e).1)
  obtain ⟨hk, hk2⟩ := List.getElem?_eq_some_iff.1 hi
  have ht : (F b).take (k + 1) = (F b).take k ++ [i] := by rw [← List.take_append_getElem hk, hk2]
  refine ⟨⟨(bb.block q4 hq4).trans h6.mq.m4, (bb.block q5 hq5).trans h6.mq.m5, h6.mq.amg.below bb hqb, ?_, h6.mq.uses⟩, (bb.block q3 hq3).trans h6.v3, h6.vq.below bb, ?_, ?_, ?_, h6.below.trans bb⟩
  · cases hv : v.ownBlock with
    | none =>
      rw [hv] at hg
      have hb2 : Below W6.heap.size W6 W' := (Below.refl _ W6).grown hg (Nat.le_refl _) (fun j e => by cases e)
      exact h6.mq.us.later hb2
    | some g =>
      rw [hv] at hg
      have := hlow g hv
      exact h6.mq.us.kept hg (by omega) (fun x e => by have := hV x g e; omega)
  · refine (hg.block w0.heap.size (Array.getElem?_eq_some_iff.1 h6.bx).1 (fun e => ?_)).trans h6.bx
    have := (hlow w0.heap.size e.symm).1
    omega
  · rw [ht, List.map_append, rowQ]
    show W'.ownsRow _ _ _ _ _ (rowQ (_ ++ [_]))
    rw [rowQ_app]
    exact hown
  · intro j hj
    rw [ht] at hj
    rcases List.mem_append.1 hj with hj | hj
    · exact h.all j hj
    · rw [List.mem_singleton] at hj; exact hj ▸ hany
end
end Go.Proofs.Ytofokljhlcdebaa
