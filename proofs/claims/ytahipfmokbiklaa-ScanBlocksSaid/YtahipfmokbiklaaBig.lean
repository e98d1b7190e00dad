/-
  A REGION THAT DRAWS ITS ORDER: small operations, which leave the world as it is, in any order; great ones, one behind the other, each of which takes the world from one state to the next. Nothing here speaks of one program.
-/
import Derived.Test.YtahipfmokbiklaaPlan
namespace Go.Proofs.Ytahipfmokbiklaa
namespace Big
open Go.RowKit

/-- What the slots of a frame hold. -/
def slots (a : Act) : Nat → Value := fun t => a.tmps.getD t undef

/-- What the kernel is asked of the great operations: each waits for the one ahead of it; they lie within the region; the slots T are written by them alone. -/
def bigB (ops : Array Oper) (B T : List Nat) : Bool :=
  (List.range B.length).all (fun j => match B[j]? with
    | none => false
    | some b => decide (b < ops.size) && (j == 0 || match ops[b]?, B[j - 1]? with
      | some o, some c => o.after.any fun e => Region.binds .any e && e.on == c
      | _, _ => false)) &&
  (List.range ops.size).all fun i => B.contains i || match ops[i]? with
    | none => true
    | some o => match o.dst with
      | none => true
      | some d => !T.contains d

section
variable {P : Program} {ops : Array Oper} {φ : Tmp → Value → Prop} {Φ : Nat → (Nat → Value) → World → Prop} {B T : List Nat} {a0 : Act} {Q : Exit → Act → World → Prop}

/-- What is known of a slot that is looked at. -/
def Known (ops : Array Oper) (φ : Tmp → Value → Prop) (a0 : Act) (a : Act) (t : Tmp) : Prop :=
  if writesB ops t = true then φ t (a.tmps.getD t undef) else a.tmps.getD t undef = a0.tmps.getD t undef

def SmallOp (P : Program) (ops : Array Oper) (φ : Tmp → Value → Prop) (o : Oper) (a : Act) (w : World) : Prop :=
  ∀ (K : Act → World → Prop) (Q : Exit → Act → World → Prop), (∀ v, (∀ d, o.dst = some d → φ d v) → K (a.put o.dst v) w) →
    if Region.wanted o (yielded ops a.tmps) = true then o.wp P a w K Q else K (a.put o.dst undef) w
def GreatOp (P : Program) (ops : Array Oper) (φ : Tmp → Value → Prop) (Φ : Nat → (Nat → Value) → World → Prop) (i : Nat) (o : Oper) (a : Act) (w : World) : Prop :=
  ∀ (K : Act → World → Prop) (Q : Exit → Act → World → Prop), (∀ v w', (∀ d, o.dst = some d → φ d v) → Φ (i + 1) (slots (a.put o.dst v)) w' → K (a.put o.dst v) w') →
    if Region.wanted o (yielded ops a.tmps) = true then o.wp P a w K Q else K (a.put o.dst undef) w

/-- What is known of each operation. -/
def Knows (P : Program) (ops : Array Oper) (φ : Tmp → Value → Prop) (Φ : Nat → (Nat → Value) → World → Prop) (B : List Nat) (a0 : Act) (n : Nat) (o : Oper) : Prop :=
  (B.contains n = false → ∀ i a w, i ≤ B.length → Φ i (slots a) w → (∀ t ∈ o.looksAt ops, Known ops φ a0 a t) → SmallOp P ops φ o a w) ∧
  (∀ i, B[i]? = some n → ∀ a w, a.tmps.size = a0.tmps.size → Φ i (slots a) w → (∀ t ∈ o.looksAt ops, Known ops φ a0 a t) → GreatOp P ops φ Φ i o a w)

structure St (ops : Array Oper) (φ : Tmp → Value → Prop) (Φ : Nat → (Nat → Value) → World → Prop) (B : List Nat) (a0 : Act) (listed : Array Bool) (a : Act) (w : World) : Prop where
  defers : a.defers = a0.defers
  size : a.tmps.size = a0.tmps.size
  done : ∀ j oj d, ops[j]? = some oj → oj.dst = some d → listed.getD j false = true → φ d (a.tmps.getD d undef)
  kept : ∀ t, writesB ops t = false → a.tmps.getD t undef = a0.tmps.getD t undef
  state : ∃ i, i ≤ B.length ∧ (∀ j b, B[j]? = some b → listed.getD b false = decide (j < i)) ∧ Φ i (slots a) w

theorem nodup_inj {B : List Nat} (hN : B.Nodup) {i j n : Nat} (hi : B[i]? = some n) (hj : B[j]? = some n) : i = j := by
  obtain ⟨l1, e1⟩ := List.getElem?_eq_some_iff.1 hi
  obtain ⟨l2, e2⟩ := List.getElem?_eq_some_iff.1 hj
  rcases Nat.lt_trichotomy i j with h | h | h
  · exact absurd (e1.trans e2.symm) (List.pairwise_iff_getElem.1 hN i j l1 l2 h)
  · exact h
  · exact absurd (e2.trans e1.symm) (List.pairwise_iff_getElem.1 hN j i l2 l1 h)
theorem big_chain (hC : bigB ops B T = true) : (∀ j b : Nat, B[j]? = some b → b < ops.size) ∧ (∀ (j b c : Nat) (o : Oper), B[j + 1]? = some b → B[j]? = some c → ops[b]? = some o → ∃ e ∈ o.after, Region.binds .any e = true ∧ e.on = c) ∧
    (∀ (i : Nat) (o : Oper) (d : Tmp), B.contains i = false → ops[i]? = some o → o.dst = some d → d ∉ T) := by
  unfold bigB at hC
  rw [Bool.and_eq_true] at hC
  obtain ⟨h1, h2⟩ := hC
  refine ⟨fun j b hb => ?_, fun j b c o hb hc ho => ?_, fun i o d hi ho hd => ?_⟩
  · have hj := (List.getElem?_eq_some_iff.1 hb).1
    have := List.all_eq_true.1 h1 j (List.mem_range.2 hj)
    simp only [hb, Bool.and_eq_true, decide_eq_true_eq] at this
    exact this.1
  · have hj := (List.getElem?_eq_some_iff.1 hb).1
    have := List.all_eq_true.1 h1 (j + 1) (List.mem_range.2 hj)
    simp only [hb, Bool.and_eq_true, decide_eq_true_eq, Nat.add_sub_cancel, ho, hc] at this
    have h3 := this.2
    simp only [Bool.or_eq_true] at h3
    rcases h3 with h3 | h3
    · simp at h3
    · obtain ⟨e, he, hb⟩ := Array.any_eq_true'.1 h3
      simp only [Bool.and_eq_true, beq_iff_eq] at hb
      exact ⟨e, he, hb.1, hb.2⟩
  · have hil : i < ops.size := (Array.getElem?_eq_some_iff.1 ho).1
    have := List.all_eq_true.1 h2 i (List.mem_range.2 hil)
    simp only [hi, Bool.false_or, ho, hd] at this
    simpa using this

theorem wpAny_big (hB : flowB ops a0.tmps.size = true) (hC : bigB ops B T = true) (hloc : ∀ i f g w, (∀ t ∈ T, f t = g t) → Φ i f w → Φ i g w) (hN : B.Nodup)
    (hf : ∀ n o, ops[n]? = some o → Knows P ops φ Φ B a0 n o) (hend : ∀ a w, St ops φ Φ B a0 (Array.replicate ops.size true) a w → Q .normal a w) :
    ∀ (fuel : Nat) (listed : Array Bool) (a : Act) (w : World), listed.size = ops.size → listed.toList.count false ≤ fuel → St ops φ Φ B a0 listed a w → wpAny P .any ops Q fuel listed a w := by
  obtain ⟨hC1, hC2, hC3⟩ := big_chain hC
  have all : ∀ (listed : Array Bool) (a : Act) (w : World), listed.size = ops.size → Region.ready .any ops listed = [] → St ops φ Φ B a0 listed a w → Q .normal a w := by
    intro listed a w hs hr st
    have hall : ∀ i, i < ops.size → listed.getD i false = true := by
      intro i
      induction i using Nat.strongRecOn with
      | _ i ih =>
        intro hi
        cases hl : listed.getD i false with
        | true => rfl
        | false =>
          exfalso
          have hm : i ∈ Region.ready .any ops listed := by
            rw [mem_ready]
            refine ⟨by rw [getD_eq_of_not (by omega) true false]; exact hl, ops[i], Array.getElem?_eq_getElem hi, fun e he hb => ?_⟩
            have := (flow_spec hB (Array.getElem?_eq_getElem hi)).1 e he hb
            exact ih e.on this (by omega)
          rw [hr] at hm
          cases hm
    obtain ⟨i, hi, hij, hΦ⟩ := st.state
    refine hend a w ⟨st.defers, st.size, fun j oj d hj hd _ => st.done j oj d hj hd (hall j (Array.getElem?_eq_some_iff.1 hj).1), st.kept, i, hi, fun j b hb => ?_, hΦ⟩
    have hbl := hC1 j b hb
    have h1 := hij j b hb
    rw [hall b hbl] at h1
    rw [← h1]
    simp [hbl]
  intro fuel
  induction fuel with
  | zero =>
    intro listed a w hs hc st
    have h0 : ∀ i, i < ops.size → listed.getD i true = true := by
      intro i hi
      cases hl : listed.getD i true with
      | true => rfl
      | false =>
        exfalso
        have hm : false ∈ listed.toList := by
          rw [← hl]
          have hi' : i < listed.size := by omega
          simp [hi']
        have := List.count_pos_iff.2 hm
        omega
    have hr : Region.ready .any ops listed = [] := by
      apply List.eq_nil_iff_forall_not_mem.2
      intro i hi
      have h1 := mem_ready.1 hi
      obtain ⟨h2, o, ho, _⟩ := h1
      rw [h0 i (Array.getElem?_eq_some_iff.1 ho).1] at h2
      cases h2
    exact ⟨hr, all listed a w hs hr st⟩
  | succ fuel ih =>
    intro listed a w hs hc st
    refine ⟨fun hr => all listed a w hs hr st, fun i hi => ?_⟩
    obtain ⟨hun, o, ho, haft⟩ := mem_ready.1 hi
    have hil : i < ops.size := (Array.getElem?_eq_some_iff.1 ho).1
    have hun' : listed.getD i false = false := by rw [getD_eq_of_not (by omega) false true]; exact hun
    have hsp := flow_spec hB ho
    have hkn : ∀ t ∈ o.looksAt ops, Known ops φ a0 a t := by
      intro t ht
      unfold Known
      split
      · rename_i hw
        obtain ⟨oj, hoj, hd⟩ := Array.any_eq_true'.1 hw
        obtain ⟨j, hj⟩ := Array.getElem?_of_mem hoj
        have hd' : oj.dst = some t := by simpa using hd
        obtain ⟨e, he, hb, hon⟩ := hsp.2.1 t ht j oj hj hd'
        exact st.done j oj t hj hd' (by rw [← hon]; exact haft e he hb)
      · rename_i hw
        exact st.kept t (by simpa using hw)
    obtain ⟨q, hq, hqb, hΦ⟩ := st.state
    have hsize : ∀ v, (a.put o.dst v).tmps.size = a0.tmps.size := by
      intro v
      rw [← st.size]
      cases o.dst <;> simp [Act.put]
    have hcount : (listed.setIfInBounds i true).toList.count false ≤ fuel := by
      rw [Array.toList_setIfInBounds]
      have hil' : i < listed.toList.length := by rw [Array.length_toList]; omega
      rw [List.count_set hil']
      have hli : listed.toList[i] = false := by
        have : listed.getD i true = listed.toList[i] := by simp [show i < listed.size by omega]
        rw [← this]; exact hun
      rw [hli]
      show List.count false listed.toList - 1 + 0 ≤ fuel
      omega
    have hdone : ∀ v, (∀ d, o.dst = some d → φ d v) → ∀ j oj d, ops[j]? = some oj → oj.dst = some d → (listed.setIfInBounds i true).getD j false = true → φ d ((a.put o.dst v).tmps.getD d undef) := by
      intro v hv j oj d hj hd hlj
      by_cases hji : j = i
      · subst hji
        obtain rfl : oj = o := Option.some.inj (hj.symm.trans ho)
        have hdn := (hsp.2.2 d hd).1
        have e : ((a.put oj.dst v).tmps.getD d undef) = v := by
          simp only [hd, Act.put]
          have : d < a.tmps.size := by rw [st.size]; exact hdn
          simp [this]
        rw [e]
        exact hv d hd
      · have hlj' : listed.getD j false = true := by
          have : (listed.setIfInBounds i true).getD j false = listed.getD j false := by simp [Array.getElem?_setIfInBounds_ne (Ne.symm hji)]
          rw [← this]; exact hlj
        have e : ((a.put o.dst v).tmps.getD d undef) = a.tmps.getD d undef := by
          cases hod : o.dst with
          | none => rfl
          | some d' =>
            have hne : d' ≠ d := fun h => hji ((hsp.2.2 d (by rw [hod, h])).2 j oj hj hd)
            simp [Act.put, Array.getElem?_setIfInBounds_ne hne]
        rw [e]; exact st.done j oj d hj hd hlj'
    have hkept : ∀ v t, writesB ops t = false → (a.put o.dst v).tmps.getD t undef = a0.tmps.getD t undef := by
      intro v t ht
      have e : ((a.put o.dst v).tmps.getD t undef) = a.tmps.getD t undef := by
        cases hod : o.dst with
        | none => rfl
        | some d' =>
          have hne : d' ≠ t := fun h => by
            have h2 : writesB ops t = true := Array.any_eq_true'.2 ⟨o, Array.mem_of_getElem? ho, by rw [hod, h]; simp⟩
            rw [h2] at ht; cases ht
          simp [Act.put, Array.getElem?_setIfInBounds_ne hne]
      rw [e]
      exact st.kept t ht
    have hdef : ∀ v, (a.put o.dst v).defers = a0.defers := fun v => by cases o.dst <;> exact st.defers
    have hother : ∀ b, b ≠ i → (listed.setIfInBounds i true).getD b false = listed.getD b false := fun b hb => by simp [Array.getElem?_setIfInBounds_ne (Ne.symm hb)]
    have finish : ∀ K' : Act → World → Prop, (∀ Q', (if Region.wanted o (yielded ops a.tmps) = true then o.wp P a w K' Q' else K' (a.put o.dst undef) w)) → wpOp P ops Q i K' a w := by
      intro K' h
      have := h Q
      unfold wpOp
      simp only [ho]
      split
      · rename_i hw
        rw [if_pos hw] at this
        exact .inl this
      · rename_i hw
        rw [if_neg hw] at this
        exact this
    by_cases hin : B.contains i = true
    · obtain ⟨j, hj⟩ := List.getElem?_of_mem (by simpa using hin)
      have hjq : j = q := by
        have h1 := hqb j i hj
        rw [hun'] at h1
        have h2 : ¬ j < q := fun h => by rw [decide_eq_true h] at h1; cases h1
        rcases Nat.lt_or_ge q j with h3 | h3
        · exfalso
          obtain ⟨j', rfl⟩ : ∃ j', j = j' + 1 := ⟨j - 1, by omega⟩
          have hjl := (List.getElem?_eq_some_iff.1 hj).1
          have hc2 : B[j']? = some B[j'] := List.getElem?_eq_getElem (by omega)
          obtain ⟨e, he, hb, hon⟩ := hC2 j' i _ o hj hc2 ho
          have h4 := haft e he hb
          rw [hon, hqb j' _ hc2, decide_eq_false (by omega)] at h4
          cases h4
        · omega
      subst hjq
      have hbig := (hf i o ho).2 j hj a w st.size hΦ hkn
      refine finish _ (fun Q' => hbig _ Q' (fun v w' hv hΦ' => ?_))
      refine ih _ _ _ (by simpa using hs) hcount ⟨hdef v, hsize v, hdone v hv, hkept v, j + 1, (List.getElem?_eq_some_iff.1 hj).1, fun j2 b hb => ?_, hΦ'⟩
      by_cases hbi : b = i
      · subst hbi
        have hjj : j2 = j := nodup_inj hN hb hj
        subst hjj
        rw [decide_eq_true (Nat.lt_succ_self _)]
        simp [show b < listed.size by omega]
      · rw [hother b hbi, hqb j2 b hb]
        have hne : j2 ≠ j := fun h => by subst h; rw [hj] at hb; exact hbi (Option.some.inj hb).symm
        exact decide_eq_decide.2 ⟨fun h => by omega, fun h => by omega⟩
    · have hin' : B.contains i = false := by simpa using hin
      have hsm := (hf i o ho).1 hin' q a w hq hΦ hkn
      refine finish _ (fun Q' => hsm _ Q' (fun v hv => ?_))
      refine ih _ _ _ (by simpa using hs) hcount ⟨hdef v, hsize v, hdone v hv, hkept v, q, hq, fun j b hb => ?_, hloc q _ _ w (fun t ht => ?_) hΦ⟩
      · have hbi : b ≠ i := fun h => by subst h; exact hin (by simpa using List.mem_of_getElem? hb)
        rw [hother b hbi]
        exact hqb j b hb
      · show a.tmps.getD t undef = (a.put o.dst v).tmps.getD t undef
        cases hod : o.dst with
        | none => rfl
        | some d =>
          have hne : d ≠ t := fun h => by subst h; exact hC3 i o d hin' ho hod ht
          simp [Act.put, Array.getElem?_setIfInBounds_ne hne]

/-- .. each one of a list, from number n on. -/
def KnowsL (P : Program) (ops : Array Oper) (φ : Tmp → Value → Prop) (Φ : Nat → (Nat → Value) → World → Prop) (B : List Nat) (a0 : Act) : Nat → List Oper → Prop
  | _, [] => True
  | n, o :: l => Knows P ops φ Φ B a0 n o ∧ KnowsL P ops φ Φ B a0 (n + 1) l
theorem KnowsL.all : ∀ {l : List Oper} {n : Nat}, KnowsL P ops φ Φ B a0 n l → ∀ i o, l[i]? = some o → Knows P ops φ Φ B a0 (n + i) o
  | [], _, _, i, o, ho => by simp at ho
  | x :: l, n, h, 0, o, ho => by simp at ho; rw [← ho]; exact h.1
  | x :: l, n, h, i + 1, o, ho => by
    have := KnowsL.all h.2 i o (by simpa using ho)
    rwa [show n + 1 + i = n + (i + 1) by omega] at this

theorem wp_region_big {id : Nat} {w0 : World} (hm : P.follows .mixedOrders = true) (φ : Tmp → Value → Prop) (Φ : Nat → (Nat → Value) → World → Prop) (B T : List Nat) (hB : flowB ops a0.tmps.size = true) (hC : bigB ops B T = true) (hN : B.Nodup)
    (hloc : ∀ i f g w, (∀ t ∈ T, f t = g t) → Φ i f w → Φ i g w) (h0 : Φ 0 (slots a0) w0.drew) (hf : KnowsL P ops φ Φ B a0 0 ops.toList)
    (hend : ∀ a w, a.defers = a0.defers → a.tmps.size = a0.tmps.size → (∀ t, writesB ops t = true → φ t (a.tmps.getD t undef)) → (∀ t, writesB ops t = false → a.tmps.getD t undef = a0.tmps.getD t undef) → Φ B.length (slots a) w → Q .normal a w) : (Code.region id ops true).wp P Q a0 w0 := by
  obtain ⟨hC1, _, _⟩ := big_chain hC
  refine wp_region_any hm (wpAny_big hB hC hloc hN (fun n o ho => by have := hf.all n o (by simpa using ho); rwa [Nat.zero_add] at this) (fun a w st => ?_) _ _ _ _ (by simp) (by rw [Array.toList_replicate, List.count_replicate]; simp) ⟨rfl, rfl, fun j oj d hj _ hl => ?_, fun _ _ => rfl, 0, Nat.zero_le _, fun j b hb => ?_, h0⟩)
  · obtain ⟨i, hi, hij, hΦ⟩ := st.state
    refine hend a w st.defers st.size (fun t ht => ?_) st.kept ?_
    · obtain ⟨oj, hoj, hd⟩ := Array.any_eq_true'.1 ht
      obtain ⟨j, hj⟩ := Array.getElem?_of_mem hoj
      exact st.done j oj t hj (by simpa using hd) (by
        have : j < ops.size := (Array.getElem?_eq_some_iff.1 hj).1
        simp [this])
    · have : i = B.length := by
        rcases Nat.lt_or_ge i B.length with h | h
        · exfalso
          have hb : B[i]? = some B[i] := List.getElem?_eq_getElem h
          have h1 := hij i _ hb
          have hbl := hC1 i _ hb
          rw [decide_eq_false (Nat.lt_irrefl _)] at h1
          simp [hbl] at h1
        · omega
      rw [← this]
      exact hΦ
  · have : j < ops.size := (Array.getElem?_eq_some_iff.1 hj).1
    simp [this] at hl
  · have hbl := hC1 j b hb
    rw [decide_eq_false (Nat.not_lt_zero _)]
    simp [hbl]

/-- Small and great. -/
theorem small {n : Nat} {o : Oper} (hn : B.contains n = true → False) (h : ∀ i a w, i ≤ B.length → Φ i (slots a) w → (∀ t ∈ o.looksAt ops, Known ops φ a0 a t) → SmallOp P ops φ o a w) : Knows P ops φ Φ B a0 n o :=
  ⟨fun _ => h, fun i hi => (hn (by simpa using List.mem_of_getElem? hi)).elim⟩
theorem great {n i : Nat} {o : Oper} (hn : B[i]? = some n) (hN : B.Nodup) (h : ∀ a w, a.tmps.size = a0.tmps.size → Φ i (slots a) w → (∀ t ∈ o.looksAt ops, Known ops φ a0 a t) → GreatOp P ops φ Φ i o a w) : Knows P ops φ Φ B a0 n o := by
  refine ⟨fun hc => ?_, fun j hj => ?_⟩
  · have := List.mem_of_getElem? hn
    have h2 : B.contains n = true := by simpa using this
    rw [h2] at hc
    cases hc
  · obtain rfl : j = i := nodup_inj hN hj hn
    exact h

theorem sw {o : Oper} {a : Act} (h : ∀ t ∈ o.looksAt ops, Known ops φ a0 a t) (t : Tmp) (hc : (o.looksAt ops).contains t = true) (hw : writesB ops t = true) : φ t (a.tmps.getD t undef) := by
  have := h t (by simpa using hc)
  unfold Known at this
  rwa [if_pos hw] at this
theorem sb {o : Oper} {a : Act} (h : ∀ t ∈ o.looksAt ops, Known ops φ a0 a t) (t : Tmp) (hc : (o.looksAt ops).contains t = true) (hw : writesB ops t = false) {v : Value} (hv : a0.tmps.getD t undef = v) : a.tmps.getD t undef = v := by
  have := h t (by simpa using hc)
  unfold Known at this
  rw [if_neg (by rw [hw]; decide)] at this
  rw [this, hv]
/-- An operation that yields a value at once. -/
theorem SmallOp.val {o : Oper} {a : Act} {w : World} {d : Tmp} {v : Value} (hw : Region.wanted o (yielded ops a.tmps) = true) (hx : o.dst = some d) (hr : (execOp a.eval o).run P w = .ok (.value v) w) (hv : φ d v) : SmallOp P ops φ o a w := by
  intro K Q h
  rw [if_pos hw]
  unfold Oper.wp
  rw [hr]
  exact h v (fun d' h' => by rw [hx] at h'; cases h'; exact hv)
theorem SmallOp.off {o : Oper} {a : Act} {w : World} {d : Tmp} (hw : Region.wanted o (yielded ops a.tmps) = false) (hx : o.dst = some d) (hv : φ d undef) : SmallOp P ops φ o a w := by
  intro K Q h
  rw [hw]
  exact h undef (fun d' h' => by rw [hx] at h'; cases h'; exact hv)
/-- A call that leaves the world as it is. -/
theorem SmallOp.called {o : Oper} {a : Act} {w : World} {d : Tmp} {f : FuncId} {args : Array Value} {v : Value} (hw : Region.wanted o (yielded ops a.tmps) = true) (hx : o.dst = some d) (hr : (execOp a.eval o).run P w = .ok (.enter f args) w)
    (hc : Calls P f args w fun e w' => e = .returned v ∧ w = w') (hv : φ d v) : SmallOp P ops φ o a w := by
  intro K Q h
  rw [if_pos hw]
  unfold Oper.wp
  rw [hr]
  refine hc.mono ?_
  rintro e w' ⟨rfl, rfl⟩
  exact h v (fun d' h' => by rw [hx] at h'; cases h'; exact hv)
/-- A call that takes the world on. -/
theorem GreatOp.called {i : Nat} {o : Oper} {a : Act} {w : World} {d : Tmp} {f : FuncId} {args : Array Value} (hw : Region.wanted o (yielded ops a.tmps) = true) (hx : o.dst = some d) (hr : (execOp a.eval o).run P w = .ok (.enter f args) w)
    (hc : Calls P f args w fun e w' => ∃ v, e = .returned v ∧ φ d v ∧ Φ (i + 1) (slots (a.put (some d) v)) w') : GreatOp P ops φ Φ i o a w := by
  intro K Q h
  rw [if_pos hw]
  unfold Oper.wp
  rw [hr]
  refine hc.mono ?_
  rintro e w' ⟨v, rfl, hv, hΦ⟩
  exact h v w' (fun d' h' => by rw [hx] at h'; cases h'; exact hv) (by rw [hx]; exact hΦ)
/-- An operation that yields a value and takes the world on. -/
theorem GreatOp.made {i : Nat} {o : Oper} {a : Act} {w w' : World} {d : Tmp} {v : Value} (hw : Region.wanted o (yielded ops a.tmps) = true) (hx : o.dst = some d) (hr : (execOp a.eval o).run P w = .ok (.value v) w') (hv : φ d v) (hΦ : Φ (i + 1) (slots (a.put (some d) v)) w') : GreatOp P ops φ Φ i o a w := by
  intro K Q h
  rw [if_pos hw]
  unfold Oper.wp
  rw [hr]
  exact h v w' (fun d' h' => by rw [hx] at h'; cases h'; exact hv) (by rw [hx]; exact hΦ)
/-- A store that takes the world on. -/
theorem GreatOp.stored {i : Nat} {o : Oper} {a : Act} {w w' : World} (hw : Region.wanted o (yielded ops a.tmps) = true) (hx : o.dst = none) (hr : (execOp a.eval o).run P w = .ok .skip w') (hΦ : Φ (i + 1) (slots a) w') : GreatOp P ops φ Φ i o a w := by
  intro K Q h
  rw [if_pos hw]
  unfold Oper.wp
  rw [hr]
  have := h undef w' (fun d' h' => by rw [hx] at h'; cases h') (by rw [hx]; exact hΦ)
  simpa [Oper.upon] using this
theorem slots_put {a : Act} {d : Nat} {v : Value} (h : d < a.tmps.size) : slots (a.put (some d) v) d = v := Flo3.put_same a v h
theorem slots_other {a : Act} {d t : Nat} {v : Value} (h : d ≠ t) : slots (a.put (some d) v) t = slots a t := Flo3.put_other a v h
end
end Big
end Go.Proofs.Ytahipfmokbiklaa
