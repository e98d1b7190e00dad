/-
  A REGION THAT DRAWS ITS ORDER, WHATEVER THE ORDER, EACH OPERATION WALKED ONCE: every operation gives a promise on the value that it yields, which holds from then on whatever else is made; it leans on the promises of those that it looks at, on nothing else. Nothing here speaks of one program.
-/
import Derived.Test.YtigpplckddnghaaWords
import Derived.Orders
import Derived.BigQuiet
namespace Go.Proofs.Ytigpplckddnghaa
open Go.RowKit

/-- A promise on a value that holds from a world on, whatever is made. -/
def Keeps (φ : Value → World → Prop) (v : Value) (w : World) : Prop := ∀ W, Below w.heap.size w W → φ v W
theorem Keeps.now {φ : Value → World → Prop} {v : Value} {w : World} (h : Keeps φ v w) : φ v w := h w (Below.refl _ _)
theorem Keeps.later {φ : Value → World → Prop} {v : Value} {w w' : World} (h : Keeps φ v w) (hb : Below w.heap.size w w') : Keeps φ v w' := fun W hW => h W (hb.trans (hW.mono hb.size))
/-- The promise that a value is this one. -/
def is (u : Value) : Value → World → Prop := fun v _ => v = u
theorem Keeps.is {u v : Value} {w : World} (h : v = u) : Keeps (is u) v w := fun _ _ => h
theorem Keeps.eq {u v : Value} {w : World} (h : Keeps (Go.Proofs.Ytigpplckddnghaa.is u) v w) : v = u := h.now

def writesB (ops : Array Oper) (t : Tmp) : Bool := ops.any fun o => o.dst == some t
/-- What the kernel is asked of a region once: each operation comes behind those that it looks at, no slot is written twice, each lies within the frame. -/
def flowB (ops : Array Oper) (n : Nat) : Bool :=
  (List.range ops.size).all fun i => match ops[i]? with
    | none => true
    | some o => (o.after.all fun e => !Region.binds .any e || decide (e.on < i)) &&
      ((o.looksAt ops).all fun t => (List.range ops.size).all fun j => match ops[j]? with
        | none => true
        | some oj => oj.dst != some t || (o.after.any fun e => Region.binds .any e && e.on == j)) &&
      (match o.dst with
        | none => true
        | some d => decide (d < n) && (List.range ops.size).all fun j => j == i || match ops[j]? with
          | none => true
          | some oj => oj.dst != some d)

section
variable {P : Program} {ops : Array Oper} {φ : Tmp → Value → World → Prop} {a0 : Act} {w0 : World} {Q : Exit → Act → World → Prop}

/-- What is known of a slot that is looked at. -/
def Known (ops : Array Oper) (φ : Tmp → Value → World → Prop) (a0 : Act) (a : Act) (w : World) (t : Tmp) : Prop :=
  if writesB ops t = true then Keeps (φ t) (a.tmps.getD t undef) w else a.tmps.getD t undef = a0.tmps.getD t undef

/-- One operation does what it promises. -/
def FlowOp (P : Program) (ops : Array Oper) (φ : Tmp → Value → World → Prop) (o : Oper) (a : Act) (w : World) : Prop :=
  ∀ (K : Act → World → Prop) (Q : Exit → Act → World → Prop), (∀ v w', Below w.heap.size w w' → (∀ d, o.dst = some d → Keeps (φ d) v w') → K (a.put o.dst v) w') →
    if Region.wanted o (yielded ops a.tmps) = true then o.wp P a w K Q else K (a.put o.dst undef) w

def Flows (P : Program) (ops : Array Oper) (φ : Tmp → Value → World → Prop) (a0 : Act) (w0 : World) (o : Oper) : Prop :=
  ∀ a w, Below w0.heap.size w0 w → (∀ t ∈ o.looksAt ops, Known ops φ a0 a w t) → FlowOp P ops φ o a w

structure FlowSt (ops : Array Oper) (φ : Tmp → Value → World → Prop) (a0 : Act) (w0 : World) (listed : Array Bool) (a : Act) (w : World) : Prop where
  below : Below w0.heap.size w0 w
  defers : a.defers = a0.defers
  size : a.tmps.size = a0.tmps.size
  done : ∀ j oj d, ops[j]? = some oj → oj.dst = some d → listed.getD j false = true → Keeps (φ d) (a.tmps.getD d undef) w
  kept : ∀ t, writesB ops t = false → a.tmps.getD t undef = a0.tmps.getD t undef

theorem flow_spec {n i : Nat} {o : Oper} (hB : flowB ops n = true) (ho : ops[i]? = some o) :
    (∀ e ∈ o.after, Region.binds .any e = true → e.on < i) ∧
    (∀ t ∈ o.looksAt ops, ∀ j oj, ops[j]? = some oj → oj.dst = some t → ∃ e ∈ o.after, Region.binds .any e = true ∧ e.on = j) ∧
    (∀ d, o.dst = some d → d < n ∧ ∀ j oj, ops[j]? = some oj → oj.dst = some d → j = i) := by
  have hi : i < ops.size := (Array.getElem?_eq_some_iff.1 ho).1
  have h := List.all_eq_true.1 hB i (List.mem_range.2 hi)
  simp only [ho, Bool.and_eq_true] at h
  obtain ⟨⟨h1, h2⟩, h3⟩ := h
  refine ⟨fun e he hb => ?_, fun t ht j oj hj hd => ?_, fun d hd => ?_⟩
  · have := Array.all_eq_true_iff_forall_mem.1 h1 e he
    simpa [hb] using this
  · have hjl : j < ops.size := (Array.getElem?_eq_some_iff.1 hj).1
    have := List.all_eq_true.1 (List.all_eq_true.1 h2 t ht) j (List.mem_range.2 hjl)
    simp only [hj, hd, bne_self_eq_false, Bool.false_or] at this
    obtain ⟨e, he, hb⟩ := Array.any_eq_true'.1 this
    simp only [Bool.and_eq_true, beq_iff_eq] at hb
    exact ⟨e, he, hb.1, hb.2⟩
  · simp only [hd, Bool.and_eq_true, decide_eq_true_eq] at h3
    refine ⟨h3.1, fun j oj hj hdj => ?_⟩
    have hjl : j < ops.size := (Array.getElem?_eq_some_iff.1 hj).1
    have := List.all_eq_true.1 h3.2 j (List.mem_range.2 hjl)
    simpa [hj, hdj] using this

theorem getD_eq_of_not {listed : Array Bool} {i : Nat} (h : i < listed.size) (b c : Bool) : listed.getD i b = listed.getD i c := by
  simp [h]

/-- .. each one of a list. -/
def FlowsL (P : Program) (ops : Array Oper) (φ : Tmp → Value → World → Prop) (a0 : Act) (w0 : World) : List Oper → Prop
  | [] => True
  | o :: l => Flows P ops φ a0 w0 o ∧ FlowsL P ops φ a0 w0 l
theorem FlowsL.all {l : List Oper} (h : FlowsL P ops φ a0 w0 l) (o : Oper) (ho : o ∈ l) : Flows P ops φ a0 w0 o := by
  induction l with
  | nil => cases ho
  | cons x l ih =>
    cases ho with
    | head => exact h.1
    | tail _ ho => exact ih h.2 ho

theorem Keeps.dst {φ : Tmp → Value → World → Prop} {x : Option Tmp} {d : Tmp} (hx : x = some d) {v : Value} {w : World} (h : Keeps (φ d) v w) : ∀ d', x = some d' → Keeps (φ d') v w := by
  intro d' h'
  rw [hx] at h'
  cases h'
  exact h
theorem want0 {o : Oper} {f : Nat → Option Bool} (hg : o.guard = none) : Region.wanted o f = true := by simp [Region.wanted, hg]
/-- What is known of a slot that the region writes; of another one. -/
theorem sw {o : Oper} {a : Act} {w : World} (h : ∀ t ∈ o.looksAt ops, Known ops φ a0 a w t) (t : Tmp) (hc : (o.looksAt ops).contains t = true) (hw : writesB ops t = true) : Keeps (φ t) (a.tmps.getD t undef) w := by
  have := h t (by simpa using hc)
  unfold Known at this
  rwa [if_pos hw] at this
theorem sb {o : Oper} {a : Act} {w : World} (h : ∀ t ∈ o.looksAt ops, Known ops φ a0 a w t) (t : Tmp) (hc : (o.looksAt ops).contains t = true) (hw : writesB ops t = false) {v : Value} (hv : a0.tmps.getD t undef = v) : a.tmps.getD t undef = v := by
  have := h t (by simpa using hc)
  unfold Known at this
  rw [if_neg (by rw [hw]; decide)] at this
  rw [this, hv]

/-- An operation that yields a value at once, and leaves the world alone. -/
theorem FlowOp.yields {o : Oper} {a : Act} {w : World} {v : Value} (hw : Region.wanted o (yielded ops a.tmps) = true) (hr : (execOp a.eval o).run P w = .ok (.value v) w) (hv : ∀ d, o.dst = some d → Keeps (φ d) v w) : FlowOp P ops φ o a w := by
  intro K Q h
  rw [if_pos hw]
  unfold Oper.wp
  rw [hr]
  exact h v w (Below.refl _ _) hv
/-- One that is not wanted. -/
theorem FlowOp.idle {o : Oper} {a : Act} {w : World} (hw : Region.wanted o (yielded ops a.tmps) = false) (hv : ∀ d, o.dst = some d → Keeps (φ d) undef w) : FlowOp P ops φ o a w := by
  intro K Q h
  rw [hw]
  exact h undef w (Below.refl _ _) hv
/-- A call, by its contract. -/
theorem FlowOp.calls {o : Oper} {a : Act} {w : World} {f : FuncId} {args : Array Value} (hw : Region.wanted o (yielded ops a.tmps) = true) (hr : (execOp a.eval o).run P w = .ok (.enter f args) w)
    (hc : Calls P f args w fun e w' => ∃ v, e = .returned v ∧ Below w.heap.size w w' ∧ ∀ d, o.dst = some d → Keeps (φ d) v w') : FlowOp P ops φ o a w := by
  intro K Q h
  rw [if_pos hw]
  unfold Oper.wp
  rw [hr]
  refine hc.mono ?_
  rintro e w' ⟨v, rfl, hb, hv⟩
  exact h v w' hb hv
theorem FlowOp.val {o : Oper} {a : Act} {w : World} {d : Tmp} {v : Value} (hw : Region.wanted o (yielded ops a.tmps) = true) (hx : o.dst = some d) (hr : (execOp a.eval o).run P w = .ok (.value v) w) (hv : Keeps (φ d) v w) : FlowOp P ops φ o a w :=
  .yields hw hr (Keeps.dst hx hv)
theorem FlowOp.off {o : Oper} {a : Act} {w : World} {d : Tmp} (hw : Region.wanted o (yielded ops a.tmps) = false) (hx : o.dst = some d) (hv : Keeps (φ d) undef w) : FlowOp P ops φ o a w :=
  .idle hw (Keeps.dst hx hv)
theorem FlowOp.called {o : Oper} {a : Act} {w : World} {d : Tmp} {f : FuncId} {args : Array Value} (hw : Region.wanted o (yielded ops a.tmps) = true) (hx : o.dst = some d) (hr : (execOp a.eval o).run P w = .ok (.enter f args) w)
    (hc : Calls P f args w fun e w' => ∃ v, e = .returned v ∧ Below w.heap.size w w' ∧ Keeps (φ d) v w') : FlowOp P ops φ o a w :=
  .calls hw hr (hc.mono fun _ _ ⟨v, h1, h2, h3⟩ => ⟨v, h1, h2, Keeps.dst hx h3⟩)

end

end Go.Proofs.Ytigpplckddnghaa
