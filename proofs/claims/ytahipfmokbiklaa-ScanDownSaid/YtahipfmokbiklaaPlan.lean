/-
  A REGION THAT DRAWS ITS ORDER, WHOSE LAST OPERATION WAITS FOR ALL OTHERS: the others as in Flow (they read, or make memory), the last one whatever it does. Nothing here speaks of one program.
  CONTRACT of package nand: first (the first fault of each operation, out of those whose kind there is).
  PLANS AND BYTES OF LAYER 14's STATEMENTS: Light, full; plans as cells.
-/
import Derived.Test.YtahipfmokbiklaaFlo2
import Derived.Test.YtahipfmokbiklaaElem
import Derived.Test.YtahipfmokbiklaaBits
namespace Go.Proofs.Ytahipfmokbiklaa
section
namespace Flo3
open Go.RowKit

def lastB (ops : Array Oper) : Bool :=
  match ops[ops.size - 1]? with
  | none => false
  | some o => (List.range (ops.size - 1)).all fun i => o.after.any fun e => Region.binds .any e && e.on == i

section
variable {P : Program} {ops : Array Oper} {φ : Tmp → Value → World → Prop} {a0 : Act} {w0 : World} {Q : Exit → Act → World → Prop}

theorem last_spec (hL : lastB ops = true) : 0 < ops.size ∧ ∃ o, ops[ops.size - 1]? = some o ∧ ∀ i, i + 1 < ops.size → ∃ e ∈ o.after, Region.binds .any e = true ∧ e.on = i := by
  unfold lastB at hL
  cases ho : ops[ops.size - 1]? with
  | none => simp [ho] at hL
  | some o =>
    have hlt : ops.size - 1 < ops.size := (Array.getElem?_eq_some_iff.1 ho).1
    simp only [ho] at hL
    refine ⟨by omega, o, rfl, fun i hi => ?_⟩
    have := List.all_eq_true.1 hL i (List.mem_range.2 (by omega))
    obtain ⟨e, he, hb⟩ := Array.any_eq_true'.1 this
    simp only [Bool.and_eq_true, beq_iff_eq] at hb
    exact ⟨e, he, hb.1, hb.2⟩

/-- What is known when the last operation begins. -/
structure Ahead (ops : Array Oper) (φ : Tmp → Value → World → Prop) (a0 : Act) (w0 : World) (a : Act) (w : World) : Prop where
  below : Below w0.heap.size w0 w
  defers : a.defers = a0.defers
  size : a.tmps.size = a0.tmps.size
  done : ∀ j oj d, j + 1 < ops.size → ops[j]? = some oj → oj.dst = some d → Keeps (φ d) (a.tmps.getD d undef) w
  kept : ∀ t, writesB ops t = false → a.tmps.getD t undef = a0.tmps.getD t undef

theorem wpAny_all (listed : Array Bool) (hall : ∀ i, i < ops.size → listed.getD i true = true) (a : Act) (w : World) (h : Q .normal a w) : ∀ fuel, wpAny P .any ops Q fuel listed a w := by
  have hr : Region.ready .any ops listed = [] := by
    apply List.eq_nil_iff_forall_not_mem.2
    intro i hi
    obtain ⟨h2, o, ho, _⟩ := mem_ready.1 hi
    rw [hall i (Array.getElem?_eq_some_iff.1 ho).1] at h2
    cases h2
  intro fuel
  cases fuel with
  | zero => exact ⟨hr, h⟩
  | succ n => exact ⟨fun _ => h, fun i hi => by rw [hr] at hi; cases hi⟩

theorem wpAny_last (hB : flowB ops a0.tmps.size = true) (hL : lastB ops = true) (hf : ∀ i o, i + 1 < ops.size → ops[i]? = some o → Flows P ops φ a0 w0 o)
    (hend : ∀ o a w, ops[ops.size - 1]? = some o → Ahead ops φ a0 w0 a w → if Region.wanted o (yielded ops a.tmps) = true then o.wp P a w (fun a w => Q .normal a w) Q else Q .normal (a.put o.dst undef) w) :
    ∀ (fuel : Nat) (listed : Array Bool) (a : Act) (w : World), listed.size = ops.size → listed.getD (ops.size - 1) true = false → listed.toList.count false ≤ fuel → FlowSt ops φ a0 w0 listed a w → wpAny P .any ops Q fuel listed a w := by
  obtain ⟨hpos, ol, hol, hlast⟩ := last_spec hL
  intro fuel
  induction fuel with
  | zero =>
    intro listed a w hs hun hc st
    exfalso
    have hm : false ∈ listed.toList := by
      rw [← hun]
      have hi' : ops.size - 1 < listed.size := by omega
      simp [hi']
    have := List.count_pos_iff.2 hm
    omega
  | succ fuel ih =>
    intro listed a w hs hunl hc st
    refine ⟨fun hr => ?_, fun i hi => ?_⟩
    · exfalso
      have hall : ∀ i, i < ops.size → listed.getD i false = true := by
        intro i
        induction i using Nat.strongRecOn with
        | _ i ih =>
          intro hi
          cases hl : listed.getD i false with
          | true => rfl
          | false =>
            exfalso
            have hm : i ∈ Region.ready .any ops listed := by
              rw [mem_ready]
              refine ⟨by rw [getD_eq_of_not (by omega) true false]; exact hl, ops[i], Array.getElem?_eq_getElem hi, fun e he hb => ?_⟩
              have := (flow_spec hB (Array.getElem?_eq_getElem hi)).1 e he hb
              exact ih e.on this (by omega)
            rw [hr] at hm
            cases hm
      have := hall (ops.size - 1) (by omega)
      rw [getD_eq_of_not (by omega) false true, hunl] at this
      cases this
    obtain ⟨hun, o, ho, haft⟩ := mem_ready.1 hi
    have hil : i < ops.size := (Array.getElem?_eq_some_iff.1 ho).1
    have hsp := flow_spec hB ho
    by_cases hil1 : i + 1 < ops.size
    · have hkn : ∀ t ∈ o.looksAt ops, Known ops φ a0 a w t := by
        intro t ht
        unfold Known
        split
        · rename_i hw
          obtain ⟨oj, hoj, hd⟩ := Array.any_eq_true'.1 hw
          obtain ⟨j, hj⟩ := Array.getElem?_of_mem hoj
          have hd' : oj.dst = some t := by simpa using hd
          obtain ⟨e, he, hb, hon⟩ := hsp.2.1 t ht j oj hj hd'
          exact st.done j oj t hj hd' (by rw [← hon]; exact haft e he hb)
        · rename_i hw
          exact st.kept t (by simpa using hw)
      have hfo := hf i o hil1 ho a w st.below hkn
      have hK : ∀ v w', Below w.heap.size w w' → (∀ d, o.dst = some d → Keeps (φ d) v w') → wpAny P .any ops Q fuel (listed.setIfInBounds i true) (a.put o.dst v) w' := by
        intro v w' hb hv
        have hsz : (a.put o.dst v).tmps.size = a.tmps.size := by cases o.dst <;> simp [Act.put]
        refine ih _ _ _ (by simpa using hs) ?_ ?_ ⟨st.below.trans (hb.mono st.below.size), by cases o.dst <;> exact st.defers, by rw [hsz]; exact st.size, ?_, ?_⟩
        · have : (listed.setIfInBounds i true).getD (ops.size - 1) true = listed.getD (ops.size - 1) true := by simp [Array.getElem?_setIfInBounds_ne (show i ≠ ops.size - 1 by omega)]
          rw [this]; exact hunl
        · rw [Array.toList_setIfInBounds]
          have hil' : i < listed.toList.length := by rw [Array.length_toList]; omega
          rw [List.count_set hil']
          have hli : listed.toList[i] = false := by
            have : listed.getD i true = listed.toList[i] := by simp [show i < listed.size by omega]
            rw [← this]; exact hun
          rw [hli]
          show List.count false listed.toList - 1 + 0 ≤ fuel
          omega
        · intro j oj d hj hd hlj
          by_cases hji : j = i
          · subst hji
            obtain rfl : oj = o := Option.some.inj (hj.symm.trans ho)
            have hdn := (hsp.2.2 d hd).1
            have e : ((a.put oj.dst v).tmps.getD d undef) = v := by
              simp only [hd, Act.put]
              have : d < a.tmps.size := by rw [st.size]; exact hdn
              simp [this]
            rw [e]
            exact hv d hd
          · have hlj' : listed.getD j false = true := by
              have : (listed.setIfInBounds i true).getD j false = listed.getD j false := by simp [Array.getElem?_setIfInBounds_ne (Ne.symm hji)]
              rw [← this]; exact hlj
            have h1 := (st.done j oj d hj hd hlj').later hb
            have e : ((a.put o.dst v).tmps.getD d undef) = a.tmps.getD d undef := by
              cases hod : o.dst with
              | none => rfl
              | some d' =>
                have hne : d' ≠ d := fun h => hji ((hsp.2.2 d (by rw [hod, h])).2 j oj hj hd)
                simp [Act.put, Array.getElem?_setIfInBounds_ne hne]
            rw [e]; exact h1
        · intro t ht
          have e : ((a.put o.dst v).tmps.getD t undef) = a.tmps.getD t undef := by
            cases hod : o.dst with
            | none => rfl
            | some d' =>
              have hne : d' ≠ t := fun h => by
                have h2 : writesB ops t = true := Array.any_eq_true'.2 ⟨o, Array.mem_of_getElem? ho, by rw [hod, h]; simp⟩
                rw [h2] at ht; cases ht
              simp [Act.put, Array.getElem?_setIfInBounds_ne hne]
          rw [e]
          exact st.kept t ht
      have := hfo _ Q hK
      unfold wpOp
      simp only [ho]
      split
      · rename_i hw
        rw [if_pos hw] at this
        exact .inl this
      · rename_i hw
        rw [if_neg hw] at this
        exact this
    · obtain rfl : i = ops.size - 1 := by omega
      obtain rfl : ol = o := Option.some.inj (hol.symm.trans ho)
      have hoth : ∀ j, j + 1 < ops.size → listed.getD j false = true := by
        intro j hj
        obtain ⟨e, he, hb, hon⟩ := hlast j hj
        rw [← hon]
        exact haft e he hb
      have hall : ∀ j, j < ops.size → (listed.setIfInBounds (ops.size - 1) true).getD j true = true := by
        intro j hj
        by_cases h : j = ops.size - 1
        · subst h
          simp [hs, hil]
        · have e : (listed.setIfInBounds (ops.size - 1) true).getD j true = listed.getD j true := by simp [Array.getElem?_setIfInBounds_ne (Ne.symm h)]
          rw [e, getD_eq_of_not (by omega) true false]
          exact hoth j (by omega)
      have he := hend ol a w ho ⟨st.below, st.defers, st.size, fun j oj d hj1 hj hd => st.done j oj d hj hd (hoth j hj1), st.kept⟩
      have hfin := fun (a : Act) (w : World) (h : Q .normal a w) => wpAny_all (P := P) (listed.setIfInBounds (ops.size - 1) true) hall a w h fuel
      unfold wpOp
      simp only [ho]
      split
      · rename_i hw
        rw [if_pos hw] at he
        exact .inl (Oper.wp_mono hfin he)
      · rename_i hw
        rw [if_neg hw] at he
        exact hfin _ _ he

/-- .. each one of a list but the last. -/
def FlowsL (P : Program) (ops : Array Oper) (φ : Tmp → Value → World → Prop) (a0 : Act) (w0 : World) : List Oper → Prop
  | [] => True
  | [_] => True
  | o :: o2 :: l => Flows P ops φ a0 w0 o ∧ FlowsL P ops φ a0 w0 (o2 :: l)
theorem FlowsL.all : ∀ {l : List Oper}, FlowsL P ops φ a0 w0 l → ∀ i o, i + 1 < l.length → l[i]? = some o → Flows P ops φ a0 w0 o
  | [], _, i, o, hi, _ => by simp at hi
  | [_], _, i, o, hi, _ => by simp at hi
  | x :: y :: l, h, 0, o, _, ho => by simp at ho; rw [← ho]; exact h.1
  | x :: y :: l, h, i + 1, o, hi, ho => FlowsL.all (l := y :: l) h.2 i o (by simpa using hi) (by simpa using ho)

theorem wp_region_last {id : Nat} (hm : P.follows .mixedOrders = true) (φ : Tmp → Value → World → Prop) (hB : flowB ops a0.tmps.size = true) (hL : lastB ops = true) (hf : FlowsL P ops φ a0 w0 ops.toList)
    (hend : ∀ o a w, ops[ops.size - 1]? = some o → Ahead ops φ a0 w0 a w → if Region.wanted o (yielded ops a.tmps) = true then o.wp P a w (fun a w => Q .normal a w) Q else Q .normal (a.put o.dst undef) w) : (Code.region id ops true).wp P Q a0 w0 := by
  obtain ⟨hpos, _⟩ := last_spec hL
  have hlt : ops.size - 1 < ops.size := by omega
  have h0 : (Array.replicate ops.size false).getD (ops.size - 1) true = false := by simp [hlt]
  refine wp_region_any hm (wpAny_last hB hL (fun i o hi ho => hf.all i o (by simpa using hi) (by simpa using ho)) hend _ _ _ _ (by simp) h0 (by rw [Array.toList_replicate, List.count_replicate]; simp) ⟨(Below.refl _ w0).drew, rfl, rfl, fun j oj d hj _ hl => ?_, fun _ _ => rfl⟩)
  have : j < ops.size := (Array.getElem?_eq_some_iff.1 hj).1
  simp [this] at hl
end
theorem writes_not (ops : Array Oper) (ws : List (Nat × Value)) (h : (ops.toList.all fun o => match o.dst with | none => true | some d => (ws.map (·.1)).contains d) = true) {t : Nat} (ht : ∀ x ∈ ws, x.1 ≠ t) : writesB ops t = false := by
  cases hw : writesB ops t with
  | false => rfl
  | true =>
    obtain ⟨o, ho, hd⟩ := Array.any_eq_true'.1 hw
    have h1 := List.all_eq_true.1 h o (by simpa using ho)
    have hd' : o.dst = some t := by simpa using hd
    rw [hd'] at h1
    have h2 : t ∈ ws.map (·.1) := by simpa using h1
    obtain ⟨x, hx, e⟩ := List.mem_map.1 h2
    exact absurd e (ht x hx)
theorem act_ext {a : Act} {r : Array Value} {d : List Deferred} (h : a.tmps = r) (h2 : a.defers = d) : a = ⟨r, d⟩ := by cases a; subst h h2; rfl
theorem put_other (a : Act) {d t : Nat} (v : Value) (h : d ≠ t) : (a.put (some d) v).tmps.getD t undef = a.tmps.getD t undef := by
  simp [Act.put, Array.getElem?_setIfInBounds_ne h]
theorem put_same (a : Act) {d : Nat} (v : Value) (h : d < a.tmps.size) : (a.put (some d) v).tmps.getD d undef = v := by
  simp [Act.put, h]
theorem put_size (a : Act) (d : Nat) (v : Value) : (a.put (some d) v).tmps.size = a.tmps.size := by simp [Act.put]
end Flo3
end
section
open Go.RowKit

/-- A fault that came in. -/
structure Flt where
  at_ : Int
  kind : Int
  A : Option Addr
  n : Nat
  c : Nat
  m : List UInt8
def Flt.cells (f : Flt) : List Value := [.int .i64 f.at_, .int .i64 f.kind, .slice f.A f.n f.c]
theorem Flt.cells_len (f : Flt) : f.cells.length = 3 := rfl
structure Flt.Ok (w : World) (B : Nat) (f : Flt) : Prop where
  lies : Lies w B f.A (bys f.m)
  len : f.n = f.m.length
  cap : f.n ≤ f.c
  key : i64s_ok f.at_
theorem Flt.Ok.below {w w' : World} {B : Nat} {f : Flt} (h : f.Ok w B) (hb : Below B w w') : f.Ok w' B := ⟨h.lies.below hb, h.len, h.cap, h.key⟩
def Flt.on (f : Flt) : Bool := decide (0 ≤ f.at_ ∧ (f.kind = 1 ∨ f.kind = 2))
def firstF : List Flt → Int → Int × List UInt8
  | [], _ => (0, [])
  | f :: l, a => if (f.on && decide (f.at_ = a)) = true then (f.kind, f.m.take 256) else firstF l a
def hasF (l : List Flt) (a : Int) : Bool := l.any fun f => f.on && decide (f.at_ = a)
theorem firstF_none : ∀ (l : List Flt) (a : Int), hasF l a = false → firstF l a = (0, [])
  | [], _, _ => rfl
  | f :: l, a, h => by
    unfold hasF at h
    rw [List.any_cons, Bool.or_eq_false_iff] at h
    unfold firstF
    rw [if_neg (by rw [h.1]; decide)]
    exact firstF_none l a h.2
theorem firstF_snoc : ∀ (t : List Flt) (f : Flt) (a : Int), firstF (t ++ [f]) a = if hasF t a = true then firstF t a else if (f.on && decide (f.at_ = a)) = true then (f.kind, f.m.take 256) else (0, [])
  | [], f, a => rfl
  | g :: t, f, a => by
    rw [List.cons_append]
    unfold firstF hasF
    rw [List.any_cons]
    cases h : (g.on && decide (g.at_ = a)) with
    | true => simp
    | false =>
      simp only [Bool.false_or, Bool.false_eq_true, if_false]
      exact firstF_snoc t f a
theorem hasF_snoc (t : List Flt) (f : Flt) (a : Int) : hasF (t ++ [f]) a = (hasF t a || (f.on && decide (f.at_ = a))) := by
  unfold hasF; rw [List.any_append]; simp
theorem firstF_off {t : List Flt} {f : Flt} (h : f.on = false) : firstF (t ++ [f]) = firstF t ∧ hasF (t ++ [f]) = hasF t := by
  constructor
  · funext a
    rw [firstF_snoc]
    cases hh : hasF t a with
    | true => rw [if_pos rfl]
    | false => rw [if_neg (by decide), h, Bool.false_and, if_neg (by decide), firstF_none _ _ hh]
  · funext a
    rw [hasF_snoc, h, Bool.false_and, Bool.or_false]
theorem firstF_had {t : List Flt} {f : Flt} (h : hasF t f.at_ = true) : firstF (t ++ [f]) = firstF t ∧ hasF (t ++ [f]) = hasF t := by
  constructor
  · funext a
    rw [firstF_snoc]
    by_cases hh : hasF t a = true
    · rw [if_pos hh]
    · have hne : ¬ f.at_ = a := by rintro rfl; exact hh h
      rw [if_neg hh, decide_eq_false hne, Bool.and_false, if_neg (by decide), firstF_none _ _ (by simpa using hh)]
  · funext a
    rw [hasF_snoc]
    by_cases hne : f.at_ = a
    · subst hne; rw [h, Bool.true_or]
    · rw [decide_eq_false hne, Bool.and_false, Bool.or_false]
theorem firstF_new {t : List Flt} {f : Flt} (h : hasF t f.at_ = false) (ho : f.on = true) (a : Int) : firstF (t ++ [f]) a = (if a = f.at_ then (f.kind, f.m.take 256) else firstF t a) ∧ hasF (t ++ [f]) a = (hasF t a || decide (a = f.at_)) := by
  rw [firstF_snoc, hasF_snoc, ho, Bool.true_and]
  by_cases hne : a = f.at_
  · subst hne
    rw [h]
    simp
  · have hne2 : ¬ f.at_ = a := fun h => hne h.symm
    rw [if_neg hne, decide_eq_false hne, decide_eq_false hne2]
    refine ⟨?_, rfl⟩
    cases hh : hasF t a with
    | true => simp
    | false => rw [firstF_none _ _ hh]; simp

/-- The map while it is filled: at most n entries, those of the faults t. -/
def Filled (w : World) (km n : Nat) (t : List Flt) : Prop :=
  ∃ M : DataW Value, w.ownsMap Try.prog 3 anyV km n M ∧ ∀ a, i64s_ok a → Maps.has M (.int .i64 a) = hasF t a ∧
    ∃ A m c, M.atKey (.int .i64 a) (.held noFault) = .held (.agg #[.int .i64 (firstF t a).1, .slice A m c]) ∧ m = (firstF t a).2.length ∧ LiesT w w.heap.size A (firstF t a).2

theorem Filled.start (w : World) : Filled (w.alloc (.map #[] 0)) w.heap.size 0 [] :=
  ⟨_, World.ownsMap_made w _ _ _, fun _ _ => ⟨rfl, none, 0, 0, rfl, rfl, .inl rfl⟩⟩
theorem Filled.lt {w : World} {km n : Nat} {t : List Flt} (h : Filled w km n t) : km < w.heap.size := by
  obtain ⟨M, h, _⟩ := h; exact h.lt
theorem Filled.below {w w' : World} {km n : Nat} {t : List Flt} (h : Filled w km n t) (hb : Below w.heap.size w w') : Filled w' km n t := by
  have hlt := h.lt
  obtain ⟨M, ⟨es, clock, hk, r⟩, hF⟩ := h
  refine ⟨M, ⟨es, clock, (hb.block km hlt).trans hk, r⟩, fun a ha => ?_⟩
  obtain ⟨h1, A, m, c, h2, h3, h4⟩ := hF a ha
  exact ⟨h1, A, m, c, h2, h3, (h4.kept fun b hq _ => hb.block b hq).up hb.size⟩
theorem Filled.same {w : World} {km n n' : Nat} {t t' : List Flt} (h : Filled w km n t) (h1 : firstF t' = firstF t ∧ hasF t' = hasF t) (hn : n ≤ n') : Filled w km n' t' := by
  obtain ⟨M, ho, hF⟩ := h
  unfold Filled
  rw [h1.1, h1.2]
  exact ⟨M, ho.mono hn, hF⟩
theorem Filled.done {w : World} {km n : Nat} {t : List Flt} (h : Filled w km n t) : FaultsAt w w.heap.size km (firstF t) := by
  have hlt := h.lt
  obtain ⟨M, ho, hF⟩ := h
  exact ⟨hlt, n, M, ho, fun a ha => (hF a ha).2⟩
/-- Looked up: what is there, and whether anything is. -/
theorem Filled.look {w : World} {km n : Nat} {t : List Flt} (h : Filled w km n t) (a : Int) (ha : i64s_ok a) : ∃ z A m c, ∀ W, W.heap[km]? = w.heap[km]? →
    (Instr.lookup 92 (.map (some km)) (.int .i64 a) true).run Try.prog W = .ok (.tuple #[.agg #[.int .i64 z, .slice A m c], .bool (hasF t a)]) W := by
  obtain ⟨M, ⟨es, clock, hk, r⟩, hF⟩ := h
  obtain ⟨h1, A, m, c, h2, h3, h4⟩ := hF a ha
  refine ⟨(firstF t a).1, A, m, c, fun W hW => ?_⟩
  have hown : W.ownsMap Try.prog 3 anyV km n M := ⟨es, clock, hW.trans hk, r⟩
  obtain ⟨v, ps, hr, hv⟩ := hown.look_ok intKeyed Try.underlying92 (noFaultZ W) (zd := .held noFault) (zp := []) rfl (keyN ha)
  rw [hr, h1]
  unfold anyV at hv
  rw [h2] at hv
  simp only [Option.some.injEq, Prod.mk.injEq, DataW.held.injEq] at hv
  rw [hv.1]
/-- A fault more. -/
theorem Filled.store {w : World} {km n : Nat} {t : List Flt} (h : Filled w km n t) (hn : n < maxLen) (f : Flt) (hk : i64s_ok f.at_) (hh : hasF t f.at_ = false) (ho : f.on = true) (A : Option Addr) (m c : Nat) (hm : m = (f.m.take 256).length) (hl : LiesT w w.heap.size A (f.m.take 256)) :
    ∃ w', (Instr.mapUpdate 92 (.map (some km)) (.int .i64 f.at_) (.agg #[.int .i64 f.kind, .slice A m c])).run Try.prog w = .ok () w' ∧ Filled w' km (n + 1) (t ++ [f]) ∧ w.grownBy w' (some km) := by
  obtain ⟨M, hown, hF⟩ := h
  obtain ⟨es, clock, hb, _⟩ := id hown
  obtain ⟨w', hr, hown', hg⟩ := hown.update intKeyed Try.underlying92 hn (val := .agg #[.int .i64 f.kind, .slice A m c]) (keyN hk) (d := .held (.agg #[.int .i64 f.kind, .slice A m c])) (ps := []) rfl
  have hkey : ∀ b, b < w.heap.size → (∃ cs fr, w.heap[b]? = some (.cells cs 5 fr)) → w'.heap[b]? = w.heap[b]? := fun b hbb ⟨cs, fr, hc⟩ => hg.block b hbb (fun e => by injection e with e; subst e; rw [hb] at hc; simp at hc)
  have hlit := (intKeyed.key (keyN hk))
  refine ⟨w', hr, ⟨_, hown', fun a ha => ?_⟩, hg⟩
  obtain ⟨h1, A', m', c', h2, h3, h4⟩ := hF a ha
  obtain ⟨e1, e2⟩ := firstF_new hh ho a
  rw [e1, e2]
  by_cases hne : a = f.at_
  · subst hne
    rw [if_pos rfl, decide_eq_true rfl, Bool.or_true]
    refine ⟨Maps.has_put_same hown.isMap hlit _, A, m, c, Maps.atKey_put_same hown.isMap hlit _ _, hm, (hl.kept hkey).up hg.size⟩
  · rw [if_neg hne, decide_eq_false hne, Bool.or_false]
    have hl2 : (Lit.int IntKind.i64 a) ≠ .int .i64 f.at_ := fun e => by injection e with _ e; exact hne e
    exact ⟨(Maps.has_put_other hl2 _).trans h1, A', m', c', (Maps.atKey_put_other hl2 _ _).trans h2, h3, (h4.kept hkey).up hg.size⟩
end
section
open Go.RowKit

/-- A plan that came in. -/
structure Pn where
  g : Gm
  A1 : Option Addr
  n1 : Nat
  c1 : Nat
  bl : List Int
  A2 : Option Addr
  n2 : Nat
  c2 : Nat
  fl : List Flt
def Pn.cells (q : Pn) : List Value := [.int .i64 q.g.b, .int .i64 q.g.p, .int .i64 q.g.r, .slice q.A1 q.n1 q.c1, .slice q.A2 q.n2 q.c2]
def Pn.val (q : Pn) : Value := .agg #[.int .i64 q.g.b, .int .i64 q.g.p, .int .i64 q.g.r, .slice q.A1 q.n1 q.c1, .slice q.A2 q.n2 q.c2]
structure Pn.Ok (w : World) (B : Nat) (q : Pn) : Prop where
  l1 : Lies w B q.A1 (i64s q.bl)
  h1 : q.n1 = q.bl.length
  l2 : Lies w B q.A2 (q.fl.flatMap Flt.cells)
  h2 : q.n2 = q.fl.length
  h3 : ∀ f ∈ q.fl, f.Ok w B
theorem Pn.Ok.below {w w' : World} {B : Nat} {q : Pn} (h : q.Ok w B) (hb : Below B w w') : q.Ok w' B := ⟨h.l1.below hb, h.h1, h.l2.below hb, h.h2, fun f hf => (h.h3 f hf).below hb⟩
def Pn.light (q : Pn) : Bool := decide (q.n1 ≤ 60) && decide (q.n2 ≤ 40) && q.fl.all fun f => decide (f.n ≤ 300)
/-- A plan in its box. -/
def BoxQ (q : Pn) (k : Nat) (w : World) : Prop := w.heap[k]? = some (.cells q.cells.toArray 27 (0, 0))
theorem BoxQ.below {q : Pn} {k B : Nat} {w w' : World} (h : BoxQ q k w) (hb : Below B w w') (hk : k < B) : BoxQ q k w' := (hb.block k hk).trans h
theorem BoxQ.c {q : Pn} {k : Nat} {w : World} (h : BoxQ q k w) (j : Nat) (v : Value) (hj : q.cells[j]? = some v) : w.cell? ⟨k, j, none⟩ = some v := by
  have := World.news_of_block h j v (by simpa using hj)
  have e : (⟨k, 0, none⟩ : Addr).add j = ⟨k, j, none⟩ := by unfold Addr.add; split <;> simp_all
  rw [e] at this
  exact this
theorem add_off (x : Addr) (n : Nat) : x.add (n + 1) = ⟨x.block, x.off + (n + 1), none⟩ := by
  unfold Addr.add; simp

set_option maxRecDepth 4000 in
theorem light_any (q : Pn) (B : Nat) (w : World) (hq : q.Ok w B) (hB : B ≤ w.heap.size) : Calls Try.prog 25 #[q.val] w fun e w' => e = .returned (.bool q.light) ∧ Below w.heap.size w w' := by
  obtain ⟨l1, h1, l2, h2, h3⟩ := hq
  have Hb := hide ((Below.refl w.heap.size w).alloc (Nat.le_refl _) (.cells #[.int .i64 q.g.b, .int .i64 q.g.p, .int .i64 q.g.r, .slice q.A1 q.n1 q.c1, .slice q.A2 q.n2 q.c2] 27))
  have hlight : q.light = (decide (q.n1 ≤ 60) && decide (q.n2 ≤ 40) && q.fl.all fun f => decide (f.n ≤ 300)) := rfl
  rcases q with ⟨⟨gb, gp, gr⟩, A1, n1, c1, bl, A2, n2, c2, fl⟩
  simp only [Pn.val] at *
  generalize Pn.light _ = R at *
  by_cases h60 : (60 : Int) < (n1 : Int)
  · rw [decide_eq_false (by omega), Bool.false_and, Bool.false_and] at hlight
    subst hlight
    clear l1 l2 h1 h2 h3
    go_enter Try.func25, Try.ntmps25
    go_wp2
    go_ret
    exact ⟨rfl, Hb.out⟩
  · by_cases h40 : (40 : Int) < (n2 : Int)
    · rw [decide_eq_false (p := n2 ≤ 40) (by omega), Bool.and_false, Bool.false_and] at hlight
      subst hlight
      clear l1 l2 h1 h2 h3
      go_enter Try.func25, Try.ntmps25
      go_wp2
      go_ret
      exact ⟨rfl, Hb.out⟩
    · rw [decide_eq_true (show n1 ≤ 60 by omega), decide_eq_true (show n2 ≤ 40 by omega), Bool.true_and, Bool.true_and] at hlight
      have Hl := hide hlight
      have H2 := hide h2
      have HL2 := hide (l2.below (Hb.out.mono hB))
      have hn40 : n2 ≤ 40 := by omega
      clear hlight h2 l1 l2 h1 h3
      go_enter Try.func25, Try.ntmps25
      go_wp2
      go_loop [3] (fun i => ∃ j : Nat, j ≤ n2 ∧ i = .int .i64 (j : Int) ∧ Hid ((fl.take j).all (fun f => decide (f.n ≤ 300)) = true)) (fun i => n2 - (intOf i).toNat)
      case atStart => exact ⟨0, Nat.zero_le _, rfl, hide (by simp)⟩
      case round =>
        obtain ⟨j, hj, rfl, hal⟩ := hrel
        by_cases hlt : j < n2
        · have hjl : j < fl.length := by rw [← H2.out]; exact hlt
          have hlt' : (j : Int) < (n2 : Int) := by omega
          obtain ⟨a, rfl, hab, hca⟩ := HL2.out.elem Flt.cells_len hjl (by decide)
          have Htk := hide (show fl.take (j + 1) = fl.take j ++ [fl[j]] from by rw [List.take_append_getElem])
          have Hmem := hide (List.getElem_mem hjl)
          have e1 : wrap64 ((j : Int) + 1) = ((j + 1 : Nat) : Int) := by rw [i64w (by omega)]; rfl
          generalize fl[j] = f at *
          have c2 := hca 2 (.slice f.A f.n f.c) rfl
          rw [add_off] at c2
          clear hca hjl
          by_cases hm : (300 : Int) < (f.n : Int)
          · have hR : R = false := by
              rw [Hl.out, ← Bool.not_eq_true, List.all_eq_true]
              intro h
              have := h f Hmem.out
              rw [decide_eq_true_eq] at this
              omega
            go_wp2
            go_ret
            exact ⟨by first | rfl | exact ret_bool hR.symm, Hb.out⟩
          · have hm2 : f.n ≤ 300 := by omega
            have Hnew := hide (show (fl.take (j + 1)).all (fun f => decide (f.n ≤ 300)) = true by rw [Htk.out, List.all_append, hal.out]; simp [hm2])
            clear hm2
            go_wp2
            go_round
            case rel => exact ⟨j + 1, by omega, rfl, Hnew⟩
            case measure => simp [intOf]; omega
        · obtain rfl : j = n2 := by omega
          have hR : R = true := by
            have := hal.out
            rw [List.take_of_length_le (Nat.le_of_eq H2.out.symm)] at this
            rw [Hl.out]; exact this
          go_wp2
          go_ret
          exact ⟨by first | rfl | exact ret_bool hR.symm, Hb.out⟩
end
end Go.Proofs.Ytahipfmokbiklaa
