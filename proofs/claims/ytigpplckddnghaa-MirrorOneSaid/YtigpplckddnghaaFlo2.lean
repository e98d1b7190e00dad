/-
  A REGION THAT DRAWS ITS ORDER AND WRITES ONCE, WHATEVER THE ORDER: as in Flow, by a relation of worlds of the prover's own; what the one write tells of two slots holds from then on. Nothing here speaks of one program.
-/
import Derived.Test.YtigpplckddnghaaFlow
namespace Go.Proofs.Ytigpplckddnghaa
namespace Flo2
open Go.RowKit

def Keeps (R : World → World → Prop) (φ : Value → World → Prop) (v : Value) (w : World) : Prop := ∀ W, R w W → φ v W
def Keeps2 (S : World → World → Prop) (ψ : Value → Value → World → Prop) (u v : Value) (w : World) : Prop := ∀ W, S w W → ψ u v W
/-- A relation of worlds that goes on: what a region's operations may turn. -/
structure Goes (w0 : World) (R S : World → World → Prop) : Prop where
  srefl : ∀ w, S w w
  strans : ∀ {w w1 w2}, S w w1 → S w1 w2 → S w w2
  refl : ∀ w, R w w
  trans : ∀ {w w1 w2}, R w w1 → R w1 w2 → R w w2
  below : ∀ {w w1}, R w w1 → w0.heap.size ≤ w.heap.size → Below w0.heap.size w w1
  drew : ∀ w, R w w.drew
theorem Keeps.now {w0 : World} {R S : World → World → Prop} (g : Goes w0 R S) {φ : Value → World → Prop} {v : Value} {w : World} (h : Keeps R φ v w) : φ v w := h w (g.refl w)
theorem Keeps.later {w0 : World} {R S : World → World → Prop} (g : Goes w0 R S) {φ : Value → World → Prop} {v : Value} {w w' : World} (h : Keeps R φ v w) (hb : R w w') : Keeps R φ v w' := fun W hW => h W (g.trans hb hW)
theorem Keeps.is {R : World → World → Prop} {u v : Value} {w : World} (h : v = u) : Keeps R (is u) v w := fun _ _ => h

section
variable {P : Program} {ops : Array Oper} {φ : Tmp → Value → World → Prop} {a0 : Act} {w0 : World} {Q : Exit → Act → World → Prop} {R S : World → World → Prop} {ψ : Value → Value → World → Prop} {sx p q : Nat}

def Known (R : World → World → Prop) (ops : Array Oper) (φ : Tmp → Value → World → Prop) (a0 : Act) (a : Act) (w : World) (t : Tmp) : Prop :=
  if writesB ops t = true then Keeps R (φ t) (a.tmps.getD t undef) w else a.tmps.getD t undef = a0.tmps.getD t undef

/-- One operation does what it promises; the one that writes tells of the slots p and q. -/
def FlowOp (P : Program) (R S : World → World → Prop) (ops : Array Oper) (φ : Tmp → Value → World → Prop) (ψ : Value → Value → World → Prop) (sx p q : Nat) (o : Oper) (a : Act) (w : World) : Prop :=
  ∀ (K : Act → World → Prop) (Q : Exit → Act → World → Prop), (∀ v w', R w w' → (S w w' ∨ ops[sx]? = some o) → (∀ d, o.dst = some d → Keeps R (φ d) v w') → (ops[sx]? = some o → Keeps2 S ψ (a.tmps.getD p undef) (a.tmps.getD q undef) w') → K (a.put o.dst v) w') →
    if Region.wanted o (yielded ops a.tmps) = true then o.wp P a w K Q else K (a.put o.dst undef) w

def Flows (P : Program) (R S : World → World → Prop) (ops : Array Oper) (φ : Tmp → Value → World → Prop) (ψ : Value → Value → World → Prop) (sx p q : Nat) (a0 : Act) (w0 : World) (o : Oper) : Prop :=
  ∀ a w, R w0 w → (∀ t ∈ o.looksAt ops, Known R ops φ a0 a w t) → FlowOp P R S ops φ ψ sx p q o a w

structure FlowSt (R S : World → World → Prop) (ops : Array Oper) (φ : Tmp → Value → World → Prop) (ψ : Value → Value → World → Prop) (sx p q : Nat) (a0 : Act) (w0 : World) (listed : Array Bool) (a : Act) (w : World) : Prop where
  goes : R w0 w
  defers : a.defers = a0.defers
  size : a.tmps.size = a0.tmps.size
  done : ∀ j oj d, ops[j]? = some oj → oj.dst = some d → listed.getD j false = true → Keeps R (φ d) (a.tmps.getD d undef) w
  kept : ∀ t, writesB ops t = false → a.tmps.getD t undef = a0.tmps.getD t undef
  told : listed.getD sx false = true → Keeps2 S ψ (a.tmps.getD p undef) (a.tmps.getD q undef) w
  slots : listed.getD sx false = true → ∀ j oj d, ops[j]? = some oj → oj.dst = some d → (d = p ∨ d = q) → listed.getD j false = true

/-- What the kernel is asked of the write: it has no slot of its own, looks at p and q, no other operation is it. -/
def writeB (ops : Array Oper) (sx p q : Nat) : Bool :=
  match ops[sx]? with
  | none => false
  | some o => o.dst == none && (o.looksAt ops).contains p && (o.looksAt ops).contains q && (List.range ops.size).all fun j => j == sx || match ops[j]? with
    | none => true
    | some oj => oj.dst != none

theorem write_spec (h : writeB ops sx p q = true) : ∃ o, ops[sx]? = some o ∧ o.dst = none ∧ p ∈ o.looksAt ops ∧ q ∈ o.looksAt ops ∧ ∀ j oj, ops[j]? = some oj → j ≠ sx → oj.dst ≠ none := by
  unfold writeB at h
  cases ho : ops[sx]? with
  | none => simp [ho] at h
  | some o =>
    simp only [ho, Bool.and_eq_true] at h
    obtain ⟨⟨⟨h1, h2⟩, h3⟩, h4⟩ := h
    refine ⟨o, rfl, by simpa using h1, by simpa using h2, by simpa using h3, fun j oj hj hne => ?_⟩
    have hjl : j < ops.size := (Array.getElem?_eq_some_iff.1 hj).1
    have := List.all_eq_true.1 h4 j (List.mem_range.2 hjl)
    simpa [hj, hne] using this

/-- .. each one of a list. -/
def FlowsL (P : Program) (R S : World → World → Prop) (ops : Array Oper) (φ : Tmp → Value → World → Prop) (ψ : Value → Value → World → Prop) (sx p q : Nat) (a0 : Act) (w0 : World) : List Oper → Prop
  | [] => True
  | o :: l => Flows P R S ops φ ψ sx p q a0 w0 o ∧ FlowsL P R S ops φ ψ sx p q a0 w0 l
theorem FlowsL.all {l : List Oper} (h : FlowsL P R S ops φ ψ sx p q a0 w0 l) (o : Oper) (ho : o ∈ l) : Flows P R S ops φ ψ sx p q a0 w0 o := by
  induction l with
  | nil => cases ho
  | cons x l ih =>
    cases ho with
    | head => exact h.1
    | tail _ ho => exact ih h.2 ho

theorem Keeps.eq (G : Goes w0 R S) {u v : Value} {w : World} (h : Keeps R (Go.Proofs.Ytigpplckddnghaa.is u) v w) : v = u := h.now G
/-- What is known of a slot that the region writes; of another one. -/
theorem sw {o : Oper} {a : Act} {w : World} (h : ∀ t ∈ o.looksAt ops, Known R ops φ a0 a w t) (t : Tmp) (hc : (o.looksAt ops).contains t = true) (hw : writesB ops t = true) : Keeps R (φ t) (a.tmps.getD t undef) w := by
  have := h t (by simpa using hc)
  unfold Known at this
  rwa [if_pos hw] at this
theorem sb {o : Oper} {a : Act} {w : World} (h : ∀ t ∈ o.looksAt ops, Known R ops φ a0 a w t) (t : Tmp) (hc : (o.looksAt ops).contains t = true) (hw : writesB ops t = false) {v : Value} (hv : a0.tmps.getD t undef = v) : a.tmps.getD t undef = v := by
  have := h t (by simpa using hc)
  unfold Known at this
  rw [if_neg (by rw [hw]; decide)] at this
  rw [this, hv]
theorem dst_not (hW : writeB ops sx p q = true) {o : Oper} {d : Tmp} (hx : o.dst = some d) (h : ops[sx]? = some o) : False := by
  obtain ⟨ox, h1, h2, _⟩ := write_spec hW
  rw [h1] at h
  injection h with h
  rw [h, hx] at h2
  cases h2
/-- An operation that yields a value at once, and leaves the world alone. -/
theorem FlowOp.val (G : Goes w0 R S) (hW : writeB ops sx p q = true) {o : Oper} {a : Act} {w : World} {d : Tmp} {v : Value} (hw : Region.wanted o (yielded ops a.tmps) = true) (hx : o.dst = some d) (hr : (execOp a.eval o).run P w = .ok (.value v) w) (hv : Keeps R (φ d) v w) : FlowOp P R S ops φ ψ sx p q o a w := by
  intro K Q h
  rw [if_pos hw]
  unfold Oper.wp
  rw [hr]
  exact h v w (G.refl w) (.inl (G.srefl w)) (fun d' h' => by rw [hx] at h'; cases h'; exact hv) (fun h => (dst_not hW hx h).elim)
/-- One that makes memory. -/
theorem FlowOp.made (hW : writeB ops sx p q = true) {o : Oper} {a : Act} {w w' : World} {d : Tmp} {v : Value} (hw : Region.wanted o (yielded ops a.tmps) = true) (hx : o.dst = some d) (hr : ∀ (K : Act → World → Prop) (Q : Exit → Act → World → Prop), K (a.put o.dst v) w' → o.wp P a w K Q) (hR : R w w') (hS : S w w') (hv : Keeps R (φ d) v w') : FlowOp P R S ops φ ψ sx p q o a w := by
  intro K Q h
  rw [if_pos hw]
  exact hr K Q (h v w' hR (.inl hS) (fun d' h' => by rw [hx] at h'; cases h'; exact hv) (fun h => (dst_not hW hx h).elim))
/-- A call, by its contract. -/
theorem FlowOp.called (hW : writeB ops sx p q = true) {o : Oper} {a : Act} {w : World} {d : Tmp} {f : FuncId} {args : Array Value} (hw : Region.wanted o (yielded ops a.tmps) = true) (hx : o.dst = some d) (hr : (execOp a.eval o).run P w = .ok (.enter f args) w)
    (hc : Calls P f args w fun e w' => ∃ v, e = .returned v ∧ R w w' ∧ S w w' ∧ Keeps R (φ d) v w') : FlowOp P R S ops φ ψ sx p q o a w := by
  intro K Q h
  rw [if_pos hw]
  unfold Oper.wp
  rw [hr]
  refine hc.mono ?_
  rintro e w' ⟨v, rfl, hR, hS, hv⟩
  exact h v w' hR (.inl hS) (fun d' h' => by rw [hx] at h'; cases h'; exact hv) (fun h => (dst_not hW hx h).elim)
/-- The one that writes. -/
theorem FlowOp.writes {o : Oper} {a : Act} {w w' : World} (hw : Region.wanted o (yielded ops a.tmps) = true) (hx : o.dst = none) (hs : ops[sx]? = some o) (hr : ∀ (K : Act → World → Prop) (Q : Exit → Act → World → Prop), K (a.put o.dst undef) w' → o.wp P a w K Q) (hR : R w w') (hψ : Keeps2 S ψ (a.tmps.getD p undef) (a.tmps.getD q undef) w') : FlowOp P R S ops φ ψ sx p q o a w := by
  intro K Q h
  rw [if_pos hw]
  exact hr K Q (h undef w' hR (.inr hs) (fun d' h' => by rw [hx] at h'; cases h') (fun _ => hψ))

end

/-- Slots put one behind the other: a frame of which each slot is known. -/
def puts (ws : List (Nat × Value)) (r : Array Value) : Array Value := ws.foldl (fun r x => r.setIfInBounds x.1 x.2) r
theorem frame_eq : ∀ (ws : List (Nat × Value)) (a r : Array Value), a.size = r.size → (∀ x ∈ ws, a.getD x.1 undef = x.2) → (∀ t, (∀ x ∈ ws, x.1 ≠ t) → a.getD t undef = r.getD t undef) → a = puts ws r
  | [], a, r, hs, _, hk => by
    apply Array.ext hs
    intro t h1 h2
    have := hk t (by simp)
    simpa [h1, h2] using this
  | x :: ws, a, r, hs, hw, hk => by
    show a = puts ws _
    refine frame_eq ws a _ (by simpa using hs) (fun y hy => hw y (List.mem_cons_of_mem _ hy)) (fun t ht => ?_)
    by_cases hx : x.1 = t
    · subst hx
      rw [hw x List.mem_cons_self]
      by_cases hlt : x.1 < r.size
      · simp [hlt]
      · have h1 := hw x List.mem_cons_self
        rw [show a.getD x.1 undef = undef by simp [show ¬ x.1 < a.size by omega]] at h1
        rw [← h1]
        simp [show ¬ x.1 < r.size by omega]
    · rw [hk t (fun y hy => by rcases List.mem_cons.1 hy with h | h; rw [h]; exact hx; exact ht y h)]
      simp [Array.getElem?_setIfInBounds_ne hx]

end Flo2
end Go.Proofs.Ytigpplckddnghaa
