/-
  A REGION THAT DRAWS ITS ORDER AND WRITES ONCE, WHATEVER THE ORDER: as in Flow, by a relation of worlds of the prover's own; what the one write tells of two slots holds from then on. Nothing here speaks of one program.
-/
import Derived.Test.YtahipfmokbiklaaFlow
namespace Go.Proofs.Ytahipfmokbiklaa
namespace Flo2
open Go.RowKit

def Keeps (R : World → World → Prop) (φ : Value → World → Prop) (v : Value) (w : World) : Prop := ∀ W, R w W → φ v W
def Keeps2 (S : World → World → Prop) (ψ : Value → Value → World → Prop) (u v : Value) (w : World) : Prop := ∀ W, S w W → ψ u v W
/-- A relation of worlds that goes on: what a region's operations may turn. -/
structure Goes (w0 : World) (R S : World → World → Prop) : Prop where
  srefl : ∀ w, S w w
  strans : ∀ {w w1 w2}, S w w1 → S w1 w2 → S w w2
  refl : ∀ w, R w w
  trans : ∀ {w w1 w2}, R w w1 → R w1 w2 → R w w2
  below : ∀ {w w1}, R w w1 → w0.heap.size ≤ w.heap.size → Below w0.heap.size w w1
  drew : ∀ w, R w w.drew
theorem Keeps.now {w0 : World} {R S : World → World → Prop} (g : Goes w0 R S) {φ : Value → World → Prop} {v : Value} {w : World} (h : Keeps R φ v w) : φ v w := h w (g.refl w)
theorem Keeps.later {w0 : World} {R S : World → World → Prop} (g : Goes w0 R S) {φ : Value → World → Prop} {v : Value} {w w' : World} (h : Keeps R φ v w) (hb : R w w') : Keeps R φ v w' := fun W hW => h W (g.trans hb hW)
theorem Keeps.is {R : World → World → Prop} {u v : Value} {w : World} (h : v = u) : Keeps R (is u) v w := fun _ _ => h

section
variable {P : Program} {ops : Array Oper} {φ : Tmp → Value → World → Prop} {a0 : Act} {w0 : World} {Q : Exit → Act → World → Prop} {R S : World → World → Prop} {ψ : Value → Value → World → Prop} {sx p q : Nat}

def Known (R : World → World → Prop) (ops : Array Oper) (φ : Tmp → Value → World → Prop) (a0 : Act) (a : Act) (w : World) (t : Tmp) : Prop :=
  if writesB ops t = true then Keeps R (φ t) (a.tmps.getD t undef) w else a.tmps.getD t undef = a0.tmps.getD t undef

/-- One operation does what it promises; the one that writes tells of the slots p and q. -/
def FlowOp (P : Program) (R S : World → World → Prop) (ops : Array Oper) (φ : Tmp → Value → World → Prop) (ψ : Value → Value → World → Prop) (sx p q : Nat) (o : Oper) (a : Act) (w : World) : Prop :=
  ∀ (K : Act → World → Prop) (Q : Exit → Act → World → Prop), (∀ v w', R w w' → (S w w' ∨ ops[sx]? = some o) → (∀ d, o.dst = some d → Keeps R (φ d) v w') → (ops[sx]? = some o → Keeps2 S ψ (a.tmps.getD p undef) (a.tmps.getD q undef) w') → K (a.put o.dst v) w') →
    if Region.wanted o (yielded ops a.tmps) = true then o.wp P a w K Q else K (a.put o.dst undef) w

def Flows (P : Program) (R S : World → World → Prop) (ops : Array Oper) (φ : Tmp → Value → World → Prop) (ψ : Value → Value → World → Prop) (sx p q : Nat) (a0 : Act) (w0 : World) (o : Oper) : Prop :=
  ∀ a w, R w0 w → (∀ t ∈ o.looksAt ops, Known R ops φ a0 a w t) → FlowOp P R S ops φ ψ sx p q o a w

structure FlowSt (R S : World → World → Prop) (ops : Array Oper) (φ : Tmp → Value → World → Prop) (ψ : Value → Value → World → Prop) (sx p q : Nat) (a0 : Act) (w0 : World) (listed : Array Bool) (a : Act) (w : World) : Prop where
  goes : R w0 w
  defers : a.defers = a0.defers
  size : a.tmps.size = a0.tmps.size
  done : ∀ j oj d, ops[j]? = some oj → oj.dst = some d → listed.getD j false = true → Keeps R (φ d) (a.tmps.getD d undef) w
  kept : ∀ t, writesB ops t = false → a.tmps.getD t undef = a0.tmps.getD t undef
  told : listed.getD sx false = true → Keeps2 S ψ (a.tmps.getD p undef) (a.tmps.getD q undef) w
  slots : listed.getD sx false = true → ∀ j oj d, ops[j]? = some oj → oj.dst = some d → (d = p ∨ d = q) → listed.getD j false = true

/-- What the kernel is asked of the write: it has no slot of its own, looks at p and q, no other operation is it. -/
def writeB (ops : Array Oper) (sx p q : Nat) : Bool :=
  match ops[sx]? with
  | none => false
  | some o => o.dst == none && (o.looksAt ops).contains p && (o.looksAt ops).contains q && (List.range ops.size).all fun j => j == sx || match ops[j]? with
    | none => true
    | some oj => oj.dst != none

theorem write_spec (h : writeB ops sx p q = true) : ∃ o, ops[sx]? = some o ∧ o.dst = none ∧ p ∈ o.looksAt ops ∧ q ∈ o.looksAt ops ∧ ∀ j oj, ops[j]? = some oj → j ≠ sx → oj.dst ≠ none := by
  unfold writeB at h
  cases ho : ops[sx]? with
  | none => simp [ho] at h
  | some o =>
    simp only [ho, Bool.and_eq_true] at h
    obtain ⟨⟨⟨h1, h2⟩, h3⟩, h4⟩ := h
    refine ⟨o, rfl, by simpa using h1, by simpa using h2, by simpa using h3, fun j oj hj hne => ?_⟩
    have hjl : j < ops.size := (Array.getElem?_eq_some_iff.1 hj).1
    have := List.all_eq_true.1 h4 j (List.mem_range.2 hjl)
    simpa [hj, hne] using this

theorem wpAny_flow (G : Goes w0 R S) (hW : writeB ops sx p q = true) (hB : flowB ops a0.tmps.size = true) (hf : ∀ o ∈ ops.toList, Flows P R S ops φ ψ sx p q a0 w0 o)
    (hend : ∀ a w, FlowSt R S ops φ ψ sx p q a0 w0 (Array.replicate ops.size true) a w → Q .normal a w) :
    ∀ (fuel : Nat) (listed : Array Bool) (a : Act) (w : World), listed.size = ops.size → listed.toList.count false ≤ fuel → FlowSt R S ops φ ψ sx p q a0 w0 listed a w → wpAny P .any ops Q fuel listed a w := by
  obtain ⟨ox, hox, hxd, hxp, hxq, hxo⟩ := write_spec hW
  have hsx : sx < ops.size := (Array.getElem?_eq_some_iff.1 hox).1
  have all : ∀ (listed : Array Bool) (a : Act) (w : World), listed.size = ops.size → Region.ready .any ops listed = [] → FlowSt R S ops φ ψ sx p q a0 w0 listed a w → Q .normal a w := by
    intro listed a w hs hr st
    have hall : ∀ i, i < ops.size → listed.getD i false = true := by
      intro i
      induction i using Nat.strongRecOn with
      | _ i ih =>
        intro hi
        cases hl : listed.getD i false with
        | true => rfl
        | false =>
          exfalso
          have hm : i ∈ Region.ready .any ops listed := by
            rw [mem_ready]
            refine ⟨by rw [getD_eq_of_not (by omega) true false]; exact hl, ops[i], Array.getElem?_eq_getElem hi, fun e he hb => ?_⟩
            have := (flow_spec hB (Array.getElem?_eq_getElem hi)).1 e he hb
            exact ih e.on this (by omega)
          rw [hr] at hm
          cases hm
    exact hend a w ⟨st.goes, st.defers, st.size, fun j oj d hj hd _ => st.done j oj d hj hd (hall j (Array.getElem?_eq_some_iff.1 hj).1), st.kept, fun _ => st.told (hall sx hsx), fun _ j oj d hj _ _ => by have : j < ops.size := (Array.getElem?_eq_some_iff.1 hj).1; simp [this]⟩
  intro fuel
  induction fuel with
  | zero =>
    intro listed a w hs hc st
    have h0 : ∀ i, i < ops.size → listed.getD i true = true := by
      intro i hi
      cases hl : listed.getD i true with
      | true => rfl
      | false =>
        exfalso
        have hm : false ∈ listed.toList := by
          rw [← hl]
          have hi' : i < listed.size := by omega
          simp [hi']
        have := List.count_pos_iff.2 hm
        omega
    have hr : Region.ready .any ops listed = [] := by
      apply List.eq_nil_iff_forall_not_mem.2
      intro i hi
      have h1 := mem_ready.1 hi
      obtain ⟨h2, o, ho, _⟩ := h1
      rw [h0 i (Array.getElem?_eq_some_iff.1 ho).1] at h2
      cases h2
    exact ⟨hr, all listed a w hs hr st⟩
  | succ fuel ih =>
    intro listed a w hs hc st
    refine ⟨fun hr => all listed a w hs hr st, fun i hi => ?_⟩
    obtain ⟨hun, o, ho, haft⟩ := mem_ready.1 hi
    have hil : i < ops.size := (Array.getElem?_eq_some_iff.1 ho).1
    have hsp := flow_spec hB ho
    have hkn : ∀ t ∈ o.looksAt ops, Known R ops φ a0 a w t := by
      intro t ht
      unfold Known
      split
      · rename_i hw
        obtain ⟨oj, hoj, hd⟩ := Array.any_eq_true'.1 hw
        obtain ⟨j, hj⟩ := Array.getElem?_of_mem hoj
        have hd' : oj.dst = some t := by simpa using hd
        obtain ⟨e, he, hb, hon⟩ := hsp.2.1 t ht j oj hj hd'
        exact st.done j oj t hj hd' (by rw [← hon]; exact haft e he hb)
      · rename_i hw
        exact st.kept t (by simpa using hw)
    have hfo := hf o (by rw [← Array.mem_def]; exact Array.mem_of_getElem? ho) a w st.goes hkn
    have hK : ∀ v w', R w w' → (S w w' ∨ ops[sx]? = some o) → (∀ d, o.dst = some d → Keeps R (φ d) v w') → (ops[sx]? = some o → Keeps2 S ψ (a.tmps.getD p undef) (a.tmps.getD q undef) w') → wpAny P .any ops Q fuel (listed.setIfInBounds i true) (a.put o.dst v) w' := by
      intro v w' hb hS hv hw2
      have hsz : (a.put o.dst v).tmps.size = a.tmps.size := by cases o.dst <;> simp [Act.put]
      refine ih _ _ _ (by simpa using hs) ?_ ⟨G.trans st.goes hb, by cases o.dst <;> exact st.defers, by rw [hsz]; exact st.size, ?_, ?_, ?_, ?_⟩
      · rw [Array.toList_setIfInBounds]
        have hil' : i < listed.toList.length := by rw [Array.length_toList]; omega
        rw [List.count_set hil']
        have hli : listed.toList[i] = false := by
          have : listed.getD i true = listed.toList[i] := by simp [show i < listed.size by omega]
          rw [← this]; exact hun
        rw [hli]
        show List.count false listed.toList - 1 + 0 ≤ fuel
        omega
      · intro j oj d hj hd hlj
        by_cases hji : j = i
        · subst hji
          obtain rfl : oj = o := Option.some.inj (hj.symm.trans ho)
          have hdn := (hsp.2.2 d hd).1
          have e : ((a.put oj.dst v).tmps.getD d undef) = v := by
            simp only [hd, Act.put]
            have : d < a.tmps.size := by rw [st.size]; exact hdn
            simp [this]
          rw [e]
          exact hv d hd
        · have hlj' : listed.getD j false = true := by
            have : (listed.setIfInBounds i true).getD j false = listed.getD j false := by simp [Array.getElem?_setIfInBounds_ne (Ne.symm hji)]
            rw [← this]; exact hlj
          have h1 := (st.done j oj d hj hd hlj').later G hb
          have e : ((a.put o.dst v).tmps.getD d undef) = a.tmps.getD d undef := by
            cases hod : o.dst with
            | none => rfl
            | some d' =>
              have hne : d' ≠ d := fun h => hji ((hsp.2.2 d (by rw [hod, h])).2 j oj hj hd)
              simp [Act.put, Array.getElem?_setIfInBounds_ne hne]
          rw [e]; exact h1
      · intro t ht
        have e : ((a.put o.dst v).tmps.getD t undef) = a.tmps.getD t undef := by
          cases hod : o.dst with
          | none => rfl
          | some d' =>
            have hne : d' ≠ t := fun h => by
              have h2 : writesB ops t = true := Array.any_eq_true'.2 ⟨o, Array.mem_of_getElem? ho, by rw [hod, h]; simp⟩
              rw [h2] at ht; cases ht
            simp [Act.put, Array.getElem?_setIfInBounds_ne hne]
        rw [e]
        exact st.kept t ht
      · intro hl
        have hun' : listed.getD i false = false := by rw [getD_eq_of_not (by omega) false true]; exact hun
        by_cases hsi : sx = i
        · have ho2 : ops[sx]? = some o := by rw [hsi]; exact ho
          obtain rfl : ox = o := Option.some.inj (hox.symm.trans ho2)
          rw [hxd]
          exact hw2 ho2
        · have hlx : listed.getD sx false = true := by
            have : (listed.setIfInBounds i true).getD sx false = listed.getD sx false := by simp [Array.getElem?_setIfInBounds_ne (Ne.symm hsi)]
            rw [← this]; exact hl
          have hsl := st.slots hlx
          have e : ∀ t, (t = p ∨ t = q) → (a.put o.dst v).tmps.getD t undef = a.tmps.getD t undef := by
            intro t ht
            cases hod : o.dst with
            | none => rfl
            | some d' =>
              have hne : d' ≠ t := fun h => by
                have h2 := hsl i o t ho (by rw [hod, h]) ht
                rw [hun'] at h2; cases h2
              simp [Act.put, Array.getElem?_setIfInBounds_ne hne]
          rw [e p (.inl rfl), e q (.inr rfl)]
          have hs1 : S w w' := by
            rcases hS with h | h
            · exact h
            · obtain rfl : ox = o := Option.some.inj (hox.symm.trans h)
              exact absurd hxd (hxo i ox ho (Ne.symm hsi))
          exact fun W hW => st.told hlx W (G.strans hs1 hW)
      · intro hl j oj d hj hd hdp
        have hset : listed.getD j false = true → (listed.setIfInBounds i true).getD j false = true := by
          intro h
          by_cases hji : j = i
          · subst hji; simp [show j < listed.size by omega]
          · have : (listed.setIfInBounds i true).getD j false = listed.getD j false := by simp [Array.getElem?_setIfInBounds_ne (Ne.symm hji)]
            rw [this]; exact h
        by_cases hsi : sx = i
        · have ho2 : ops[sx]? = some o := by rw [hsi]; exact ho
          obtain rfl : ox = o := Option.some.inj (hox.symm.trans ho2)
          have hla : d ∈ ox.looksAt ops := by rcases hdp with h | h <;> subst h; exact hxp; exact hxq
          obtain ⟨e, he, hbb, hon⟩ := hsp.2.1 d hla j oj hj hd
          exact hset (by rw [← hon, getD_eq_of_not (by have := (flow_spec hB ho).1 e he hbb; omega) false false]; exact haft e he hbb)
        · have hlx : listed.getD sx false = true := by
            have : (listed.setIfInBounds i true).getD sx false = listed.getD sx false := by simp [Array.getElem?_setIfInBounds_ne (Ne.symm hsi)]
            rw [← this]; exact hl
          exact hset (st.slots hlx j oj d hj hd hdp)
    have := hfo _ Q hK
    unfold wpOp
    simp only [ho]
    split
    · rename_i hw
      rw [if_pos hw] at this
      exact .inl this
    · rename_i hw
      rw [if_neg hw] at this
      exact this

/-- .. each one of a list. -/
def FlowsL (P : Program) (R S : World → World → Prop) (ops : Array Oper) (φ : Tmp → Value → World → Prop) (ψ : Value → Value → World → Prop) (sx p q : Nat) (a0 : Act) (w0 : World) : List Oper → Prop
  | [] => True
  | o :: l => Flows P R S ops φ ψ sx p q a0 w0 o ∧ FlowsL P R S ops φ ψ sx p q a0 w0 l
theorem FlowsL.all {l : List Oper} (h : FlowsL P R S ops φ ψ sx p q a0 w0 l) (o : Oper) (ho : o ∈ l) : Flows P R S ops φ ψ sx p q a0 w0 o := by
  induction l with
  | nil => cases ho
  | cons x l ih =>
    cases ho with
    | head => exact h.1
    | tail _ ho => exact ih h.2 ho

theorem wp_region_flow {id : Nat} (hm : P.follows .mixedOrders = true) (R S : World → World → Prop) (G : Goes w0 R S) (φ : Tmp → Value → World → Prop) (ψ : Value → Value → World → Prop) (sx p q : Nat) (hW : writeB ops sx p q = true) (hB : flowB ops a0.tmps.size = true) (hf : FlowsL P R S ops φ ψ sx p q a0 w0 ops.toList)
    (hend : ∀ a w, a.defers = a0.defers → a.tmps.size = a0.tmps.size → R w0 w → (∀ t, writesB ops t = true → φ t (a.tmps.getD t undef) w) → (∀ t, writesB ops t = false → a.tmps.getD t undef = a0.tmps.getD t undef) → ψ (a.tmps.getD p undef) (a.tmps.getD q undef) w → Q .normal a w) : (Code.region id ops true).wp P Q a0 w0 := by
  refine wp_region_any hm (wpAny_flow G hW hB hf.all (fun a w st => ?_) _ _ _ _ (by simp) (by rw [Array.toList_replicate, List.count_replicate]; simp) ⟨G.drew w0, rfl, rfl, fun j oj d hj _ hl => ?_, fun _ _ => rfl, fun hl => ?_, fun hl => ?_⟩)
  · obtain ⟨ox, hox, _⟩ := write_spec hW
    have hsx : sx < ops.size := (Array.getElem?_eq_some_iff.1 hox).1
    refine hend a w st.defers st.size st.goes (fun t ht => ?_) st.kept (st.told (by simp [hsx]) w (G.srefl w))
    obtain ⟨oj, hoj, hd⟩ := Array.any_eq_true'.1 ht
    obtain ⟨j, hj⟩ := Array.getElem?_of_mem hoj
    exact (st.done j oj t hj (by simpa using hd) (by
      have : j < ops.size := (Array.getElem?_eq_some_iff.1 hj).1
      simp [this])).now G
  · have : j < ops.size := (Array.getElem?_eq_some_iff.1 hj).1
    simp [this] at hl
  · by_cases h : sx < ops.size <;> simp [h] at hl
  · by_cases h : sx < ops.size <;> simp [h] at hl

theorem Keeps.eq (G : Goes w0 R S) {u v : Value} {w : World} (h : Keeps R (Go.Proofs.Ytahipfmokbiklaa.is u) v w) : v = u := h.now G
/-- What is known of a slot that the region writes; of another one. -/
theorem sw {o : Oper} {a : Act} {w : World} (h : ∀ t ∈ o.looksAt ops, Known R ops φ a0 a w t) (t : Tmp) (hc : (o.looksAt ops).contains t = true) (hw : writesB ops t = true) : Keeps R (φ t) (a.tmps.getD t undef) w := by
  have := h t (by simpa using hc)
  unfold Known at this
  rwa [if_pos hw] at this
theorem sb {o : Oper} {a : Act} {w : World} (h : ∀ t ∈ o.looksAt ops, Known R ops φ a0 a w t) (t : Tmp) (hc : (o.looksAt ops).contains t = true) (hw : writesB ops t = false) {v : Value} (hv : a0.tmps.getD t undef = v) : a.tmps.getD t undef = v := by
  have := h t (by simpa using hc)
  unfold Known at this
  rw [if_neg (by rw [hw]; decide)] at this
  rw [this, hv]
theorem dst_not (hW : writeB ops sx p q = true) {o : Oper} {d : Tmp} (hx : o.dst = some d) (h : ops[sx]? = some o) : False := by
  obtain ⟨ox, h1, h2, _⟩ := write_spec hW
  rw [h1] at h
  injection h with h
  rw [h, hx] at h2
  cases h2
/-- An operation that yields a value at once, and leaves the world alone. -/
theorem FlowOp.val (G : Goes w0 R S) (hW : writeB ops sx p q = true) {o : Oper} {a : Act} {w : World} {d : Tmp} {v : Value} (hw : Region.wanted o (yielded ops a.tmps) = true) (hx : o.dst = some d) (hr : (execOp a.eval o).run P w = .ok (.value v) w) (hv : Keeps R (φ d) v w) : FlowOp P R S ops φ ψ sx p q o a w := by
  intro K Q h
  rw [if_pos hw]
  unfold Oper.wp
  rw [hr]
  exact h v w (G.refl w) (.inl (G.srefl w)) (fun d' h' => by rw [hx] at h'; cases h'; exact hv) (fun h => (dst_not hW hx h).elim)
/-- One that makes memory. -/
theorem FlowOp.made (hW : writeB ops sx p q = true) {o : Oper} {a : Act} {w w' : World} {d : Tmp} {v : Value} (hw : Region.wanted o (yielded ops a.tmps) = true) (hx : o.dst = some d) (hr : ∀ (K : Act → World → Prop) (Q : Exit → Act → World → Prop), K (a.put o.dst v) w' → o.wp P a w K Q) (hR : R w w') (hS : S w w') (hv : Keeps R (φ d) v w') : FlowOp P R S ops φ ψ sx p q o a w := by
  intro K Q h
  rw [if_pos hw]
  exact hr K Q (h v w' hR (.inl hS) (fun d' h' => by rw [hx] at h'; cases h'; exact hv) (fun h => (dst_not hW hx h).elim))
/-- A call, by its contract. -/
theorem FlowOp.called (hW : writeB ops sx p q = true) {o : Oper} {a : Act} {w : World} {d : Tmp} {f : FuncId} {args : Array Value} (hw : Region.wanted o (yielded ops a.tmps) = true) (hx : o.dst = some d) (hr : (execOp a.eval o).run P w = .ok (.enter f args) w)
    (hc : Calls P f args w fun e w' => ∃ v, e = .returned v ∧ R w w' ∧ S w w' ∧ Keeps R (φ d) v w') : FlowOp P R S ops φ ψ sx p q o a w := by
  intro K Q h
  rw [if_pos hw]
  unfold Oper.wp
  rw [hr]
  refine hc.mono ?_
  rintro e w' ⟨v, rfl, hR, hS, hv⟩
  exact h v w' hR (.inl hS) (fun d' h' => by rw [hx] at h'; cases h'; exact hv) (fun h => (dst_not hW hx h).elim)
/-- The one that writes. -/
theorem FlowOp.writes {o : Oper} {a : Act} {w w' : World} (hw : Region.wanted o (yielded ops a.tmps) = true) (hx : o.dst = none) (hs : ops[sx]? = some o) (hr : ∀ (K : Act → World → Prop) (Q : Exit → Act → World → Prop), K (a.put o.dst undef) w' → o.wp P a w K Q) (hR : R w w') (hψ : Keeps2 S ψ (a.tmps.getD p undef) (a.tmps.getD q undef) w') : FlowOp P R S ops φ ψ sx p q o a w := by
  intro K Q h
  rw [if_pos hw]
  exact hr K Q (h undef w' hR (.inr hs) (fun d' h' => by rw [hx] at h'; cases h') (fun _ => hψ))

end

/-- Slots put one behind the other: a frame of which each slot is known. -/
def puts (ws : List (Nat × Value)) (r : Array Value) : Array Value := ws.foldl (fun r x => r.setIfInBounds x.1 x.2) r
theorem frame_eq : ∀ (ws : List (Nat × Value)) (a r : Array Value), a.size = r.size → (∀ x ∈ ws, a.getD x.1 undef = x.2) → (∀ t, (∀ x ∈ ws, x.1 ≠ t) → a.getD t undef = r.getD t undef) → a = puts ws r
  | [], a, r, hs, _, hk => by
    apply Array.ext hs
    intro t h1 h2
    have := hk t (by simp)
    simpa [h1, h2] using this
  | x :: ws, a, r, hs, hw, hk => by
    show a = puts ws _
    refine frame_eq ws a _ (by simpa using hs) (fun y hy => hw y (List.mem_cons_of_mem _ hy)) (fun t ht => ?_)
    by_cases hx : x.1 = t
    · subst hx
      rw [hw x List.mem_cons_self]
      by_cases hlt : x.1 < r.size
      · simp [hlt]
      · have h1 := hw x List.mem_cons_self
        rw [show a.getD x.1 undef = undef by simp [show ¬ x.1 < a.size by omega]] at h1
        rw [← h1]
        simp [show ¬ x.1 < r.size by omega]
    · rw [hk t (fun y hy => by rcases List.mem_cons.1 hy with h | h; rw [h]; exact hx; exact ht y h)]
      simp [Array.getElem?_setIfInBounds_ne hx]

end Flo2
end Go.Proofs.Ytahipfmokbiklaa
