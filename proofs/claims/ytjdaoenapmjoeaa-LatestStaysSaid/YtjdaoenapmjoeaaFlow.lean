/-
  A REGION THAT DRAWS ITS ORDER, WHATEVER THE ORDER, EACH OPERATION WALKED ONCE: every operation gives a promise on the value that it yields, which holds from then on whatever else is made; it leans on the promises of those that it looks at, on nothing else. Nothing here speaks of one program.
-/
import Derived.Test.YtjdaoenapmjoeaaWords
import Derived.Orders
import Derived.BigQuiet
namespace Go.Proofs.Ytjdaoenapmjoeaa
open Go.RowKit

/-- A promise on a value that holds from a world on, whatever is made. -/
def Keeps (φ : Value → World → Prop) (v : Value) (w : World) : Prop := ∀ W, Below w.heap.size w W → φ v W
theorem Keeps.now {φ : Value → World → Prop} {v : Value} {w : World} (h : Keeps φ v w) : φ v w := h w (Below.refl _ _)
theorem Keeps.later {φ : Value → World → Prop} {v : Value} {w w' : World} (h : Keeps φ v w) (hb : Below w.heap.size w w') : Keeps φ v w' := fun W hW => h W (hb.trans (hW.mono hb.size))
/-- The promise that a value is this one. -/
def is (u : Value) : Value → World → Prop := fun v _ => v = u
theorem Keeps.is {u v : Value} {w : World} (h : v = u) : Keeps (is u) v w := fun _ _ => h
theorem Keeps.eq {u v : Value} {w : World} (h : Keeps (Go.Proofs.Ytjdaoenapmjoeaa.is u) v w) : v = u := h.now

def writesB (ops : Array Oper) (t : Tmp) : Bool := ops.any fun o => o.dst == some t
/-- What the kernel is asked of a region once: each operation comes behind those that it looks at, no slot is written twice, each lies within the frame. -/
def flowB (ops : Array Oper) (n : Nat) : Bool :=
  (List.range ops.size).all fun i => match ops[i]? with
    | none => true
    | some o => (o.after.all fun e => !Region.binds .any e || decide (e.on < i)) &&
      ((o.looksAt ops).all fun t => (List.range ops.size).all fun j => match ops[j]? with
        | none => true
        | some oj => oj.dst != some t || (o.after.any fun e => Region.binds .any e && e.on == j)) &&
      (match o.dst with
        | none => true
        | some d => decide (d < n) && (List.range ops.size).all fun j => j == i || match ops[j]? with
          | none => true
          | some oj => oj.dst != some d)

section
variable {P : Program} {ops : Array Oper} {φ : Tmp → Value → World → Prop} {a0 : Act} {w0 : World} {Q : Exit → Act → World → Prop}

/-- What is known of a slot that is looked at. -/
def Known (ops : Array Oper) (φ : Tmp → Value → World → Prop) (a0 : Act) (a : Act) (w : World) (t : Tmp) : Prop :=
  if writesB ops t = true then Keeps (φ t) (a.tmps.getD t undef) w else a.tmps.getD t undef = a0.tmps.getD t undef

/-- One operation does what it promises. -/
def FlowOp (P : Program) (ops : Array Oper) (φ : Tmp → Value → World → Prop) (o : Oper) (a : Act) (w : World) : Prop :=
  ∀ (K : Act → World → Prop) (Q : Exit → Act → World → Prop), (∀ v w', Below w.heap.size w w' → (∀ d, o.dst = some d → Keeps (φ d) v w') → K (a.put o.dst v) w') →
    if Region.wanted o (yielded ops a.tmps) = true then o.wp P a w K Q else K (a.put o.dst undef) w

def Flows (P : Program) (ops : Array Oper) (φ : Tmp → Value → World → Prop) (a0 : Act) (w0 : World) (o : Oper) : Prop :=
  ∀ a w, Below w0.heap.size w0 w → (∀ t ∈ o.looksAt ops, Known ops φ a0 a w t) → FlowOp P ops φ o a w

structure FlowSt (ops : Array Oper) (φ : Tmp → Value → World → Prop) (a0 : Act) (w0 : World) (listed : Array Bool) (a : Act) (w : World) : Prop where
  below : Below w0.heap.size w0 w
  defers : a.defers = a0.defers
  size : a.tmps.size = a0.tmps.size
  done : ∀ j oj d, ops[j]? = some oj → oj.dst = some d → listed.getD j false = true → Keeps (φ d) (a.tmps.getD d undef) w
  kept : ∀ t, writesB ops t = false → a.tmps.getD t undef = a0.tmps.getD t undef

theorem flow_spec {n i : Nat} {o : Oper} (hB : flowB ops n = true) (ho : ops[i]? = some o) :
    (∀ e ∈ o.after, Region.binds .any e = true → e.on < i) ∧
    (∀ t ∈ o.looksAt ops, ∀ j oj, ops[j]? = some oj → oj.dst = some t → ∃ e ∈ o.after, Region.binds .any e = true ∧ e.on = j) ∧
    (∀ d, o.dst = some d → d < n ∧ ∀ j oj, ops[j]? = some oj → oj.dst = some d → j = i) := by
  have hi : i < ops.size := (Array.getElem?_eq_some_iff.1 ho).1
  have h := List.all_eq_true.1 hB i (List.mem_range.2 hi)
  simp only [ho, Bool.and_eq_true] at h
  obtain ⟨⟨h1, h2⟩, h3⟩ := h
  refine ⟨fun e he hb => ?_, fun t ht j oj hj hd => ?_, fun d hd => ?_⟩
  · have := Array.all_eq_true_iff_forall_mem.1 h1 e he
    simpa [hb] using this
  · have hjl : j < ops.size := (Array.getElem?_eq_some_iff.1 hj).1
    have := List.all_eq_true.1 (List.all_eq_true.1 h2 t ht) j (List.mem_range.2 hjl)
    simp only [hj, hd, bne_self_eq_false, Bool.false_or] at this
    obtain ⟨e, he, hb⟩ := Array.any_eq_true'.1 this
    simp only [Bool.and_eq_true, beq_iff_eq] at hb
    exact ⟨e, he, hb.1, hb.2⟩
  · simp only [hd, Bool.and_eq_true, decide_eq_true_eq] at h3
    refine ⟨h3.1, fun j oj hj hdj => ?_⟩
    have hjl : j < ops.size := (Array.getElem?_eq_some_iff.1 hj).1
    have := List.all_eq_true.1 h3.2 j (List.mem_range.2 hjl)
    simpa [hj, hdj] using this

theorem getD_eq_of_not {listed : Array Bool} {i : Nat} (h : i < listed.size) (b c : Bool) : listed.getD i b = listed.getD i c := by
  simp [h]

theorem wpAny_flow (hB : flowB ops a0.tmps.size = true) (hf : ∀ o ∈ ops.toList, Flows P ops φ a0 w0 o)
    (hend : ∀ a w, FlowSt ops φ a0 w0 (Array.replicate ops.size true) a w → Q .normal a w) :
    ∀ (fuel : Nat) (listed : Array Bool) (a : Act) (w : World), listed.size = ops.size → listed.toList.count false ≤ fuel → FlowSt ops φ a0 w0 listed a w → wpAny P .any ops Q fuel listed a w := by
  have all : ∀ (listed : Array Bool) (a : Act) (w : World), listed.size = ops.size → Region.ready .any ops listed = [] → FlowSt ops φ a0 w0 listed a w → Q .normal a w := by
    intro listed a w hs hr st
    have hall : ∀ i, i < ops.size → listed.getD i false = true := by
      intro i
      induction i using Nat.strongRecOn with
      | _ i ih =>
        intro hi
        cases hl : listed.getD i false with
        | true => rfl
        | false =>
          exfalso
          have hm : i ∈ Region.ready .any ops listed := by
            rw [mem_ready]
            refine ⟨by rw [getD_eq_of_not (by omega) true false]; exact hl, ops[i], Array.getElem?_eq_getElem hi, fun e he hb => ?_⟩
            have := (flow_spec hB (Array.getElem?_eq_getElem hi)).1 e he hb
            exact ih e.on this (by omega)
          rw [hr] at hm
          cases hm
    exact hend a w ⟨st.below, st.defers, st.size, fun j oj d hj hd _ => st.done j oj d hj hd (hall j (Array.getElem?_eq_some_iff.1 hj).1), st.kept⟩
  intro fuel
  induction fuel with
  | zero =>
    intro listed a w hs hc st
    have h0 : ∀ i, i < ops.size → listed.getD i true = true := by
      intro i hi
      cases hl : listed.getD i true with
      | true => rfl
      | false =>
        exfalso
        have hm : false ∈ listed.toList := by
          rw [← hl]
          have hi' : i < listed.size := by omega
          simp [hi']
        have := List.count_pos_iff.2 hm
        omega
    have hr : Region.ready .any ops listed = [] := by
      apply List.eq_nil_iff_forall_not_mem.2
      intro i hi
      have h1 := mem_ready.1 hi
      obtain ⟨h2, o, ho, _⟩ := h1
      rw [h0 i (Array.getElem?_eq_some_iff.1 ho).1] at h2
      cases h2
    exact ⟨hr, all listed a w hs hr st⟩
  | succ fuel ih =>
    intro listed a w hs hc st
    refine ⟨fun hr => all listed a w hs hr st, fun i hi => ?_⟩
    obtain ⟨hun, o, ho, haft⟩ := mem_ready.1 hi
    have hil : i < ops.size := (Array.getElem?_eq_some_iff.1 ho).1
    have hsp := flow_spec hB ho
    have hkn : ∀ t ∈ o.looksAt ops, Known ops φ a0 a w t := by
      intro t ht
      unfold Known
      split
      · rename_i hw
        obtain ⟨oj, hoj, hd⟩ := Array.any_eq_true'.1 hw
        obtain ⟨j, hj⟩ := Array.getElem?_of_mem hoj
        have hd' : oj.dst = some t := by simpa using hd
        obtain ⟨e, he, hb, hon⟩ := hsp.2.1 t ht j oj hj hd'
        exact st.done j oj t hj hd' (by rw [← hon]; exact haft e he hb)
      · rename_i hw
        exact st.kept t (by simpa using hw)
    have hfo := hf o (by rw [← Array.mem_def]; exact Array.mem_of_getElem? ho) a w st.below hkn
    have hK : ∀ v w', Below w.heap.size w w' → (∀ d, o.dst = some d → Keeps (φ d) v w') → wpAny P .any ops Q fuel (listed.setIfInBounds i true) (a.put o.dst v) w' := by
      intro v w' hb hv
      have hsz : (a.put o.dst v).tmps.size = a.tmps.size := by cases o.dst <;> simp [Act.put]
      refine ih _ _ _ (by simpa using hs) ?_ ⟨st.below.trans (hb.mono st.below.size), by cases o.dst <;> exact st.defers, by rw [hsz]; exact st.size, ?_, ?_⟩
      · rw [Array.toList_setIfInBounds]
        have hil' : i < listed.toList.length := by rw [Array.length_toList]; omega
        rw [List.count_set hil']
        have hli : listed.toList[i] = false := by
          have : listed.getD i true = listed.toList[i] := by simp [show i < listed.size by omega]
          rw [← this]; exact hun
        rw [hli]
        show List.count false listed.toList - 1 + 0 ≤ fuel
        omega
      · intro j oj d hj hd hlj
        by_cases hji : j = i
        · subst hji
          obtain rfl : oj = o := Option.some.inj (hj.symm.trans ho)
          have hdn := (hsp.2.2 d hd).1
          have e : ((a.put oj.dst v).tmps.getD d undef) = v := by
            simp only [hd, Act.put]
            have : d < a.tmps.size := by rw [st.size]; exact hdn
            simp [this]
          rw [e]
          exact hv d hd
        · have hlj' : listed.getD j false = true := by
            have : (listed.setIfInBounds i true).getD j false = listed.getD j false := by simp [Array.getElem?_setIfInBounds_ne (Ne.symm hji)]
            rw [← this]; exact hlj
          have h1 := (st.done j oj d hj hd hlj').later hb
          have e : ((a.put o.dst v).tmps.getD d undef) = a.tmps.getD d undef := by
            cases hod : o.dst with
            | none => rfl
            | some d' =>
              have hne : d' ≠ d := fun h => hji ((hsp.2.2 d (by rw [hod, h])).2 j oj hj hd)
              simp [Act.put, Array.getElem?_setIfInBounds_ne hne]
          rw [e]; exact h1
      · intro t ht
        have e : ((a.put o.dst v).tmps.getD t undef) = a.tmps.getD t undef := by
          cases hod : o.dst with
          | none => rfl
          | some d' =>
            have hne : d' ≠ t := fun h => by
              have h2 : writesB ops t = true := Array.any_eq_true'.2 ⟨o, Array.mem_of_getElem? ho, by rw [hod, h]; simp⟩
              rw [h2] at ht; cases ht
            simp [Act.put, Array.getElem?_setIfInBounds_ne hne]
        rw [e]
        exact st.kept t ht
    have := hfo _ Q hK
    unfold wpOp
    simp only [ho]
    split
    · rename_i hw
      rw [if_pos hw] at this
      exact .inl this
    · rename_i hw
      rw [if_neg hw] at this
      exact this

/-- .. each one of a list. -/
def FlowsL (P : Program) (ops : Array Oper) (φ : Tmp → Value → World → Prop) (a0 : Act) (w0 : World) : List Oper → Prop
  | [] => True
  | o :: l => Flows P ops φ a0 w0 o ∧ FlowsL P ops φ a0 w0 l
theorem FlowsL.all {l : List Oper} (h : FlowsL P ops φ a0 w0 l) (o : Oper) (ho : o ∈ l) : Flows P ops φ a0 w0 o := by
  induction l with
  | nil => cases ho
  | cons x l ih =>
    cases ho with
    | head => exact h.1
    | tail _ ho => exact ih h.2 ho

theorem wp_region_flow {id : Nat} (hm : P.follows .mixedOrders = true) (φ : Tmp → Value → World → Prop) (r : Tmp) (hr : writesB ops r = true) (hB : flowB ops a0.tmps.size = true) (hf : FlowsL P ops φ a0 w0 ops.toList)
    (hend : ∀ a w, a.defers = a0.defers → Below w0.heap.size w0 w → Keeps (φ r) (a.tmps.getD r undef) w → Q .normal a w) : (Code.region id ops true).wp P Q a0 w0 := by
  refine wp_region_any hm (wpAny_flow hB hf.all (fun a w st => ?_) _ _ _ _ (by simp) (by rw [Array.toList_replicate, List.count_replicate]; simp) ⟨(Below.refl _ w0).drew, rfl, rfl, fun j oj d hj _ hl => ?_, fun _ _ => rfl⟩)
  · obtain ⟨oj, hoj, hd⟩ := Array.any_eq_true'.1 hr
    obtain ⟨j, hj⟩ := Array.getElem?_of_mem hoj
    exact hend a w st.defers st.below (st.done j oj r hj (by simpa using hd) (by
      have : j < ops.size := (Array.getElem?_eq_some_iff.1 hj).1
      simp [this]))
  · have : j < ops.size := (Array.getElem?_eq_some_iff.1 hj).1
    simp [this] at hl

theorem Keeps.dst {φ : Tmp → Value → World → Prop} {x : Option Tmp} {d : Tmp} (hx : x = some d) {v : Value} {w : World} (h : Keeps (φ d) v w) : ∀ d', x = some d' → Keeps (φ d') v w := by
  intro d' h'
  rw [hx] at h'
  cases h'
  exact h
theorem want0 {o : Oper} {f : Nat → Option Bool} (hg : o.guard = none) : Region.wanted o f = true := by simp [Region.wanted, hg]
theorem yielded_bool {a : Act} {g d : Nat} {c : Bool} (hd : (ops[g]?).bind (·.dst) = some d) (hv : a.tmps.getD d undef = .bool c) : yielded ops a.tmps g = some c := by
  unfold yielded
  rw [hd]
  cases h : a.tmps[d]? with
  | none => simp [h, undef] at hv
  | some v =>
    simp [h] at hv
    simp [h, hv]
theorem wantg {o : Oper} {a : Act} {g d : Nat} {b : Bool} (hg : o.guard = some (g, b)) (hd : (ops[g]?).bind (·.dst) = some d) (hv : a.tmps.getD d undef = .bool b) : Region.wanted o (yielded ops a.tmps) = true := by
  simp [Region.wanted, hg, yielded_bool hd hv]
/-- What is known of a slot that the region writes; of another one. -/
theorem sw {o : Oper} {a : Act} {w : World} (h : ∀ t ∈ o.looksAt ops, Known ops φ a0 a w t) (t : Tmp) (hc : (o.looksAt ops).contains t = true) (hw : writesB ops t = true) : Keeps (φ t) (a.tmps.getD t undef) w := by
  have := h t (by simpa using hc)
  unfold Known at this
  rwa [if_pos hw] at this
theorem sb {o : Oper} {a : Act} {w : World} (h : ∀ t ∈ o.looksAt ops, Known ops φ a0 a w t) (t : Tmp) (hc : (o.looksAt ops).contains t = true) (hw : writesB ops t = false) {v : Value} (hv : a0.tmps.getD t undef = v) : a.tmps.getD t undef = v := by
  have := h t (by simpa using hc)
  unfold Known at this
  rw [if_neg (by rw [hw]; decide)] at this
  rw [this, hv]

/-- An operation that yields a value at once, and leaves the world alone. -/
theorem FlowOp.yields {o : Oper} {a : Act} {w : World} {v : Value} (hw : Region.wanted o (yielded ops a.tmps) = true) (hr : (execOp a.eval o).run P w = .ok (.value v) w) (hv : ∀ d, o.dst = some d → Keeps (φ d) v w) : FlowOp P ops φ o a w := by
  intro K Q h
  rw [if_pos hw]
  unfold Oper.wp
  rw [hr]
  exact h v w (Below.refl _ _) hv
/-- One that is not wanted. -/
theorem FlowOp.idle {o : Oper} {a : Act} {w : World} (hw : Region.wanted o (yielded ops a.tmps) = false) (hv : ∀ d, o.dst = some d → Keeps (φ d) undef w) : FlowOp P ops φ o a w := by
  intro K Q h
  rw [hw]
  exact h undef w (Below.refl _ _) hv
/-- A call, by its contract. -/
theorem FlowOp.calls {o : Oper} {a : Act} {w : World} {f : FuncId} {args : Array Value} (hw : Region.wanted o (yielded ops a.tmps) = true) (hr : (execOp a.eval o).run P w = .ok (.enter f args) w)
    (hc : Calls P f args w fun e w' => ∃ v, e = .returned v ∧ Below w.heap.size w w' ∧ ∀ d, o.dst = some d → Keeps (φ d) v w') : FlowOp P ops φ o a w := by
  intro K Q h
  rw [if_pos hw]
  unfold Oper.wp
  rw [hr]
  refine hc.mono ?_
  rintro e w' ⟨v, rfl, hb, hv⟩
  exact h v w' hb hv
theorem FlowOp.val {o : Oper} {a : Act} {w : World} {d : Tmp} {v : Value} (hw : Region.wanted o (yielded ops a.tmps) = true) (hx : o.dst = some d) (hr : (execOp a.eval o).run P w = .ok (.value v) w) (hv : Keeps (φ d) v w) : FlowOp P ops φ o a w :=
  .yields hw hr (Keeps.dst hx hv)
theorem FlowOp.off {o : Oper} {a : Act} {w : World} {d : Tmp} (hw : Region.wanted o (yielded ops a.tmps) = false) (hx : o.dst = some d) (hv : Keeps (φ d) undef w) : FlowOp P ops φ o a w :=
  .idle hw (Keeps.dst hx hv)
theorem FlowOp.called {o : Oper} {a : Act} {w : World} {d : Tmp} {f : FuncId} {args : Array Value} (hw : Region.wanted o (yielded ops a.tmps) = true) (hx : o.dst = some d) (hr : (execOp a.eval o).run P w = .ok (.enter f args) w)
    (hc : Calls P f args w fun e w' => ∃ v, e = .returned v ∧ Below w.heap.size w w' ∧ Keeps (φ d) v w') : FlowOp P ops φ o a w :=
  .calls hw hr (hc.mono fun _ _ ⟨v, h1, h2, h3⟩ => ⟨v, h1, h2, Keeps.dst hx h3⟩)

theorem belowF {f : FuncId} {args : Array Value} {w : World} {u : Value} (h : Calls P f args w fun e w' => e = .returned u ∧ Below w.heap.size w w') : Calls P f args w fun e w' => ∃ v, e = .returned v ∧ Below w.heap.size w w' ∧ Keeps (is u) v w' :=
  h.mono fun _ _ ⟨h1, h2⟩ => ⟨u, h1, h2, Keeps.is rfl⟩
end

end Go.Proofs.Ytjdaoenapmjoeaa
