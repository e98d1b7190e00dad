/-
  A REGION THAT DRAWS ITS ORDER, WHOSE LAST OPERATION WAITS FOR ALL OTHERS: the others as in Flow (they read, or make memory), the last one whatever it does. Nothing here speaks of one program.
-/
import Derived.Test.YtigpplckddnghaaFlo2
namespace Go.Proofs.Ytigpplckddnghaa
namespace Flo3
open Go.RowKit

def lastB (ops : Array Oper) : Bool :=
  match ops[ops.size - 1]? with
  | none => false
  | some o => (List.range (ops.size - 1)).all fun i => o.after.any fun e => Region.binds .any e && e.on == i

section
variable {P : Program} {ops : Array Oper} {φ : Tmp → Value → World → Prop} {a0 : Act} {w0 : World} {Q : Exit → Act → World → Prop}

theorem last_spec (hL : lastB ops = true) : 0 < ops.size ∧ ∃ o, ops[ops.size - 1]? = some o ∧ ∀ i, i + 1 < ops.size → ∃ e ∈ o.after, Region.binds .any e = true ∧ e.on = i := by
  unfold lastB at hL
  cases ho : ops[ops.size - 1]? with
  | none => simp [ho] at hL
  | some o =>
    have hlt : ops.size - 1 < ops.size := (Array.getElem?_eq_some_iff.1 ho).1
    simp only [ho] at hL
    refine ⟨by omega, o, rfl, fun i hi => ?_⟩
    have := List.all_eq_true.1 hL i (List.mem_range.2 (by omega))
    obtain ⟨e, he, hb⟩ := Array.any_eq_true'.1 this
    simp only [Bool.and_eq_true, beq_iff_eq] at hb
    exact ⟨e, he, hb.1, hb.2⟩

/-- What is known when the last operation begins. -/
structure Ahead (ops : Array Oper) (φ : Tmp → Value → World → Prop) (a0 : Act) (w0 : World) (a : Act) (w : World) : Prop where
  below : Below w0.heap.size w0 w
  defers : a.defers = a0.defers
  size : a.tmps.size = a0.tmps.size
  done : ∀ j oj d, j + 1 < ops.size → ops[j]? = some oj → oj.dst = some d → Keeps (φ d) (a.tmps.getD d undef) w
  kept : ∀ t, writesB ops t = false → a.tmps.getD t undef = a0.tmps.getD t undef

theorem wpAny_all (listed : Array Bool) (hall : ∀ i, i < ops.size → listed.getD i true = true) (a : Act) (w : World) (h : Q .normal a w) : ∀ fuel, wpAny P .any ops Q fuel listed a w := by
  have hr : Region.ready .any ops listed = [] := by
    apply List.eq_nil_iff_forall_not_mem.2
    intro i hi
    obtain ⟨h2, o, ho, _⟩ := mem_ready.1 hi
    rw [hall i (Array.getElem?_eq_some_iff.1 ho).1] at h2
    cases h2
  intro fuel
  cases fuel with
  | zero => exact ⟨hr, h⟩
  | succ n => exact ⟨fun _ => h, fun i hi => by rw [hr] at hi; cases hi⟩

theorem wpAny_last (hB : flowB ops a0.tmps.size = true) (hL : lastB ops = true) (hf : ∀ i o, i + 1 < ops.size → ops[i]? = some o → Flows P ops φ a0 w0 o)
    (hend : ∀ o a w, ops[ops.size - 1]? = some o → Ahead ops φ a0 w0 a w → if Region.wanted o (yielded ops a.tmps) = true then o.wp P a w (fun a w => Q .normal a w) Q else Q .normal (a.put o.dst undef) w) :
    ∀ (fuel : Nat) (listed : Array Bool) (a : Act) (w : World), listed.size = ops.size → listed.getD (ops.size - 1) true = false → listed.toList.count false ≤ fuel → FlowSt ops φ a0 w0 listed a w → wpAny P .any ops Q fuel listed a w := by
  obtain ⟨hpos, ol, hol, hlast⟩ := last_spec hL
  intro fuel
  induction fuel with
  | zero =>
    intro listed a w hs hun hc st
    exfalso
    have hm : false ∈ listed.toList := by
      rw [← hun]
      have hi' : ops.size - 1 < listed.size := by omega
      simp [hi']
    have := List.count_pos_iff.2 hm
    omega
  | succ fuel ih =>
    intro listed a w hs hunl hc st
    refine ⟨fun hr => ?_, fun i hi => ?_⟩
    · exfalso
      have hall : ∀ i, i < ops.size → listed.getD i false = true := by
        intro i
        induction i using Nat.strongRecOn with
        | _ i ih =>
          intro hi
          cases hl : listed.getD i false with
          | true => rfl
          | false =>
            exfalso
            have hm : i ∈ Region.ready .any ops listed := by
              rw [mem_ready]
              refine ⟨by rw [getD_eq_of_not (by omega) true false]; exact hl, ops[i], Array.getElem?_eq_getElem hi, fun e he hb => ?_⟩
              have := (flow_spec hB (Array.getElem?_eq_getElem hi)).1 e he hb
              exact ih e.on this (by omega)
            rw [hr] at hm
            cases hm
      have := hall (ops.size - 1) (by omega)
      rw [getD_eq_of_not (by omega) false true, hunl] at this
      cases this
    obtain ⟨hun, o, ho, haft⟩ := mem_ready.1 hi
    have hil : i < ops.size := (Array.getElem?_eq_some_iff.1 ho).1
    have hsp := flow_spec hB ho
    by_cases hil1 : i + 1 < ops.size
    · have hkn : ∀ t ∈ o.looksAt ops, Known ops φ a0 a w t := by
        intro t ht
        unfold Known
        split
        · rename_i hw
          obtain ⟨oj, hoj, hd⟩ := Array.any_eq_true'.1 hw
          obtain ⟨j, hj⟩ := Array.getElem?_of_mem hoj
          have hd' : oj.dst = some t := by simpa using hd
          obtain ⟨e, he, hb, hon⟩ := hsp.2.1 t ht j oj hj hd'
          exact st.done j oj t hj hd' (by rw [← hon]; exact haft e he hb)
        · rename_i hw
          exact st.kept t (by simpa using hw)
      have hfo := hf i o hil1 ho a w st.below hkn
      have hK : ∀ v w', Below w.heap.size w w' → (∀ d, o.dst = some d → Keeps (φ d) v w') → wpAny P .any ops Q fuel (listed.setIfInBounds i true) (a.put o.dst v) w' := by
        intro v w' hb hv
        have hsz : (a.put o.dst v).tmps.size = a.tmps.size := by cases o.dst <;> simp [Act.put]
        refine ih _ _ _ (by simpa using hs) ?_ ?_ ⟨st.below.trans (hb.mono st.below.size), by cases o.dst <;> exact st.defers, by rw [hsz]; exact st.size, ?_, ?_⟩
        · have : (listed.setIfInBounds i true).getD (ops.size - 1) true = listed.getD (ops.size - 1) true := by simp [Array.getElem?_setIfInBounds_ne (show i ≠ ops.size - 1 by omega)]
          rw [this]; exact hunl
        · rw [Array.toList_setIfInBounds]
          have hil' : i < listed.toList.length := by rw [Array.length_toList]; omega
          rw [List.count_set hil']
          have hli : listed.toList[i] = false := by
            have : listed.getD i true = listed.toList[i] := by simp [show i < listed.size by omega]
            rw [← this]; exact hun
          rw [hli]
          show List.count false listed.toList - 1 + 0 ≤ fuel
          omega
        · intro j oj d hj hd hlj
          by_cases hji : j = i
          · subst hji
            obtain rfl : oj = o := Option.some.inj (hj.symm.trans ho)
            have hdn := (hsp.2.2 d hd).1
            have e : ((a.put oj.dst v).tmps.getD d undef) = v := by
              simp only [hd, Act.put]
              have : d < a.tmps.size := by rw [st.size]; exact hdn
              simp [this]
            rw [e]
            exact hv d hd
          · have hlj' : listed.getD j false = true := by
              have : (listed.setIfInBounds i true).getD j false = listed.getD j false := by simp [Array.getElem?_setIfInBounds_ne (Ne.symm hji)]
              rw [← this]; exact hlj
            have h1 := (st.done j oj d hj hd hlj').later hb
            have e : ((a.put o.dst v).tmps.getD d undef) = a.tmps.getD d undef := by
              cases hod : o.dst with
              | none => rfl
              | some d' =>
                have hne : d' ≠ d := fun h => hji ((hsp.2.2 d (by rw [hod, h])).2 j oj hj hd)
                simp [Act.put, Array.getElem?_setIfInBounds_ne hne]
            rw [e]; exact h1
        · intro t ht
          have e : ((a.put o.dst v).tmps.getD t undef) = a.tmps.getD t undef := by
            cases hod : o.dst with
            | none => rfl
            | some d' =>
              have hne : d' ≠ t := fun h => by
                have h2 : writesB ops t = true := Array.any_eq_true'.2 ⟨o, Array.mem_of_getElem? ho, by rw [hod, h]; simp⟩
                rw [h2] at ht; cases ht
              simp [Act.put, Array.getElem?_setIfInBounds_ne hne]
          rw [e]
          exact st.kept t ht
      have := hfo _ Q hK
      unfold wpOp
      simp only [ho]
      split
      · rename_i hw
        rw [if_pos hw] at this
        exact .inl this
      · rename_i hw
        rw [if_neg hw] at this
        exact this
    · obtain rfl : i = ops.size - 1 := by omega
      obtain rfl : ol = o := Option.some.inj (hol.symm.trans ho)
      have hoth : ∀ j, j + 1 < ops.size → listed.getD j false = true := by
        intro j hj
        obtain ⟨e, he, hb, hon⟩ := hlast j hj
        rw [← hon]
        exact haft e he hb
      have hall : ∀ j, j < ops.size → (listed.setIfInBounds (ops.size - 1) true).getD j true = true := by
        intro j hj
        by_cases h : j = ops.size - 1
        · subst h
          simp [hs, hil]
        · have e : (listed.setIfInBounds (ops.size - 1) true).getD j true = listed.getD j true := by simp [Array.getElem?_setIfInBounds_ne (Ne.symm h)]
          rw [e, getD_eq_of_not (by omega) true false]
          exact hoth j (by omega)
      have he := hend ol a w ho ⟨st.below, st.defers, st.size, fun j oj d hj1 hj hd => st.done j oj d hj hd (hoth j hj1), st.kept⟩
      have hfin := fun (a : Act) (w : World) (h : Q .normal a w) => wpAny_all (P := P) (listed.setIfInBounds (ops.size - 1) true) hall a w h fuel
      unfold wpOp
      simp only [ho]
      split
      · rename_i hw
        rw [if_pos hw] at he
        exact .inl (Oper.wp_mono hfin he)
      · rename_i hw
        rw [if_neg hw] at he
        exact hfin _ _ he

/-- .. each one of a list but the last. -/
def FlowsL (P : Program) (ops : Array Oper) (φ : Tmp → Value → World → Prop) (a0 : Act) (w0 : World) : List Oper → Prop
  | [] => True
  | [_] => True
  | o :: o2 :: l => Flows P ops φ a0 w0 o ∧ FlowsL P ops φ a0 w0 (o2 :: l)
theorem FlowsL.all : ∀ {l : List Oper}, FlowsL P ops φ a0 w0 l → ∀ i o, i + 1 < l.length → l[i]? = some o → Flows P ops φ a0 w0 o
  | [], _, i, o, hi, _ => by simp at hi
  | [_], _, i, o, hi, _ => by simp at hi
  | x :: y :: l, h, 0, o, _, ho => by simp at ho; rw [← ho]; exact h.1
  | x :: y :: l, h, i + 1, o, hi, ho => FlowsL.all (l := y :: l) h.2 i o (by simpa using hi) (by simpa using ho)

theorem wp_region_last {id : Nat} (hm : P.follows .mixedOrders = true) (φ : Tmp → Value → World → Prop) (hB : flowB ops a0.tmps.size = true) (hL : lastB ops = true) (hf : FlowsL P ops φ a0 w0 ops.toList)
    (hend : ∀ o a w, ops[ops.size - 1]? = some o → Ahead ops φ a0 w0 a w → if Region.wanted o (yielded ops a.tmps) = true then o.wp P a w (fun a w => Q .normal a w) Q else Q .normal (a.put o.dst undef) w) : (Code.region id ops true).wp P Q a0 w0 := by
  obtain ⟨hpos, _⟩ := last_spec hL
  have hlt : ops.size - 1 < ops.size := by omega
  have h0 : (Array.replicate ops.size false).getD (ops.size - 1) true = false := by simp [hlt]
  refine wp_region_any hm (wpAny_last hB hL (fun i o hi ho => hf.all i o (by simpa using hi) (by simpa using ho)) hend _ _ _ _ (by simp) h0 (by rw [Array.toList_replicate, List.count_replicate]; simp) ⟨(Below.refl _ w0).drew, rfl, rfl, fun j oj d hj _ hl => ?_, fun _ _ => rfl⟩)
  have : j < ops.size := (Array.getElem?_eq_some_iff.1 hj).1
  simp [this] at hl
end
theorem writes_not (ops : Array Oper) (ws : List (Nat × Value)) (h : (ops.toList.all fun o => match o.dst with | none => true | some d => (ws.map (·.1)).contains d) = true) {t : Nat} (ht : ∀ x ∈ ws, x.1 ≠ t) : writesB ops t = false := by
  cases hw : writesB ops t with
  | false => rfl
  | true =>
    obtain ⟨o, ho, hd⟩ := Array.any_eq_true'.1 hw
    have h1 := List.all_eq_true.1 h o (by simpa using ho)
    have hd' : o.dst = some t := by simpa using hd
    rw [hd'] at h1
    have h2 : t ∈ ws.map (·.1) := by simpa using h1
    obtain ⟨x, hx, e⟩ := List.mem_map.1 h2
    exact absurd e (ht x hx)
theorem act_ext {a : Act} {r : Array Value} {d : List Deferred} (h : a.tmps = r) (h2 : a.defers = d) : a = ⟨r, d⟩ := by cases a; subst h h2; rfl
theorem put_other (a : Act) {d t : Nat} (v : Value) (h : d ≠ t) : (a.put (some d) v).tmps.getD t undef = a.tmps.getD t undef := by
  simp [Act.put, Array.getElem?_setIfInBounds_ne h]
theorem put_same (a : Act) {d : Nat} (v : Value) (h : d < a.tmps.size) : (a.put (some d) v).tmps.getD d undef = v := by
  simp [Act.put, h]
theorem put_size (a : Act) (d : Nat) (v : Value) : (a.put (some d) v).tmps.size = a.tmps.size := by simp [Act.put]
end Flo3
end Go.Proofs.Ytigpplckddnghaa
