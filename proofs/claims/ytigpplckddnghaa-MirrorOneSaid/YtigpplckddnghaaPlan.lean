/-
  CONTRACT of package nand: first (the first fault of each operation, out of those whose kind there is).
  PLANS AND BYTES OF LAYER 14's STATEMENTS: Light, full; plans as cells.
-/
import Derived.Test.YtigpplckddnghaaElem
import Derived.Test.YtigpplckddnghaaFlo3
import Derived.Test.YtigpplckddnghaaClone
namespace Go.Proofs.Ytigpplckddnghaa
section
open Go.RowKit

/-- A fault that came in. -/
structure Flt where
  at_ : Int
  kind : Int
  A : Option Addr
  n : Nat
  c : Nat
  m : List UInt8
def Flt.cells (f : Flt) : List Value := [.int .i64 f.at_, .int .i64 f.kind, .slice f.A f.n f.c]
theorem Flt.cells_len (f : Flt) : f.cells.length = 3 := rfl
structure Flt.Ok (w : World) (B : Nat) (f : Flt) : Prop where
  lies : Lies w B f.A (bys f.m)
  len : f.n = f.m.length
  cap : f.n ≤ f.c
  key : i64s_ok f.at_
theorem Flt.Ok.below {w w' : World} {B : Nat} {f : Flt} (h : f.Ok w B) (hb : Below B w w') : f.Ok w' B := ⟨h.lies.below hb, h.len, h.cap, h.key⟩
def Flt.on (f : Flt) : Bool := decide (0 ≤ f.at_ ∧ (f.kind = 1 ∨ f.kind = 2))
def firstF : List Flt → Int → Int × List UInt8
  | [], _ => (0, [])
  | f :: l, a => if (f.on && decide (f.at_ = a)) = true then (f.kind, f.m.take 256) else firstF l a
def hasF (l : List Flt) (a : Int) : Bool := l.any fun f => f.on && decide (f.at_ = a)
theorem firstF_none : ∀ (l : List Flt) (a : Int), hasF l a = false → firstF l a = (0, [])
  | [], _, _ => rfl
  | f :: l, a, h => by
    unfold hasF at h
    rw [List.any_cons, Bool.or_eq_false_iff] at h
    unfold firstF
    rw [if_neg (by rw [h.1]; decide)]
    exact firstF_none l a h.2
theorem firstF_snoc : ∀ (t : List Flt) (f : Flt) (a : Int), firstF (t ++ [f]) a = if hasF t a = true then firstF t a else if (f.on && decide (f.at_ = a)) = true then (f.kind, f.m.take 256) else (0, [])
  | [], f, a => rfl
  | g :: t, f, a => by
    rw [List.cons_append]
    unfold firstF hasF
    rw [List.any_cons]
    cases h : (g.on && decide (g.at_ = a)) with
    | true => simp
    | false =>
      simp only [Bool.false_or, Bool.false_eq_true, if_false]
      exact firstF_snoc t f a
theorem hasF_snoc (t : List Flt) (f : Flt) (a : Int) : hasF (t ++ [f]) a = (hasF t a || (f.on && decide (f.at_ = a))) := by
  unfold hasF; rw [List.any_append]; simp
theorem firstF_off {t : List Flt} {f : Flt} (h : f.on = false) : firstF (t ++ [f]) = firstF t ∧ hasF (t ++ [f]) = hasF t := by
  constructor
  · funext a
    rw [firstF_snoc]
    cases hh : hasF t a with
    | true => rw [if_pos rfl]
    | false => rw [if_neg (by decide), h, Bool.false_and, if_neg (by decide), firstF_none _ _ hh]
  · funext a
    rw [hasF_snoc, h, Bool.false_and, Bool.or_false]
theorem firstF_had {t : List Flt} {f : Flt} (h : hasF t f.at_ = true) : firstF (t ++ [f]) = firstF t ∧ hasF (t ++ [f]) = hasF t := by
  constructor
  · funext a
    rw [firstF_snoc]
    by_cases hh : hasF t a = true
    · rw [if_pos hh]
    · have hne : ¬ f.at_ = a := by rintro rfl; exact hh h
      rw [if_neg hh, decide_eq_false hne, Bool.and_false, if_neg (by decide), firstF_none _ _ (by simpa using hh)]
  · funext a
    rw [hasF_snoc]
    by_cases hne : f.at_ = a
    · subst hne; rw [h, Bool.true_or]
    · rw [decide_eq_false hne, Bool.and_false, Bool.or_false]
theorem firstF_new {t : List Flt} {f : Flt} (h : hasF t f.at_ = false) (ho : f.on = true) (a : Int) : firstF (t ++ [f]) a = (if a = f.at_ then (f.kind, f.m.take 256) else firstF t a) ∧ hasF (t ++ [f]) a = (hasF t a || decide (a = f.at_)) := by
  rw [firstF_snoc, hasF_snoc, ho, Bool.true_and]
  by_cases hne : a = f.at_
  · subst hne
    rw [h]
    simp
  · have hne2 : ¬ f.at_ = a := fun h => hne h.symm
    rw [if_neg hne, decide_eq_false hne, decide_eq_false hne2]
    refine ⟨?_, rfl⟩
    cases hh : hasF t a with
    | true => simp
    | false => rw [firstF_none _ _ hh]; simp

/-- The map while it is filled: at most n entries, those of the faults t. -/
def Filled (w : World) (km n : Nat) (t : List Flt) : Prop :=
  ∃ M : DataW Value, w.ownsMap Try.prog 3 anyV km n M ∧ ∀ a, i64s_ok a → Maps.has M (.int .i64 a) = hasF t a ∧
    ∃ A m c, M.atKey (.int .i64 a) (.held noFault) = .held (.agg #[.int .i64 (firstF t a).1, .slice A m c]) ∧ m = (firstF t a).2.length ∧ LiesT w w.heap.size A (firstF t a).2

theorem Filled.start (w : World) : Filled (w.alloc (.map #[] 0)) w.heap.size 0 [] :=
  ⟨_, World.ownsMap_made w _ _ _, fun _ _ => ⟨rfl, none, 0, 0, rfl, rfl, .inl rfl⟩⟩
theorem Filled.lt {w : World} {km n : Nat} {t : List Flt} (h : Filled w km n t) : km < w.heap.size := by
  obtain ⟨M, h, _⟩ := h; exact h.lt
theorem Filled.below {w w' : World} {km n : Nat} {t : List Flt} (h : Filled w km n t) (hb : Below w.heap.size w w') : Filled w' km n t := by
  have hlt := h.lt
  obtain ⟨M, ⟨es, clock, hk, r⟩, hF⟩ := h
  refine ⟨M, ⟨es, clock, (hb.block km hlt).trans hk, r⟩, fun a ha => ?_⟩
  obtain ⟨h1, A, m, c, h2, h3, h4⟩ := hF a ha
  exact ⟨h1, A, m, c, h2, h3, (h4.kept fun b hq _ => hb.block b hq).up hb.size⟩
theorem Filled.same {w : World} {km n n' : Nat} {t t' : List Flt} (h : Filled w km n t) (h1 : firstF t' = firstF t ∧ hasF t' = hasF t) (hn : n ≤ n') : Filled w km n' t' := by
  obtain ⟨M, ho, hF⟩ := h
  unfold Filled
  rw [h1.1, h1.2]
  exact ⟨M, ho.mono hn, hF⟩
theorem Filled.done {w : World} {km n : Nat} {t : List Flt} (h : Filled w km n t) : FaultsAt w w.heap.size km (firstF t) := by
  have hlt := h.lt
  obtain ⟨M, ho, hF⟩ := h
  exact ⟨hlt, n, M, ho, fun a ha => (hF a ha).2⟩
/-- Looked up: what is there, and whether anything is. -/
theorem Filled.look {w : World} {km n : Nat} {t : List Flt} (h : Filled w km n t) (a : Int) (ha : i64s_ok a) : ∃ z A m c, ∀ W, W.heap[km]? = w.heap[km]? →
    (Instr.lookup 55 (.map (some km)) (.int .i64 a) true).run Try.prog W = .ok (.tuple #[.agg #[.int .i64 z, .slice A m c], .bool (hasF t a)]) W := by
  obtain ⟨M, ⟨es, clock, hk, r⟩, hF⟩ := h
  obtain ⟨h1, A, m, c, h2, h3, h4⟩ := hF a ha
  refine ⟨(firstF t a).1, A, m, c, fun W hW => ?_⟩
  have hown : W.ownsMap Try.prog 3 anyV km n M := ⟨es, clock, hW.trans hk, r⟩
  obtain ⟨v, ps, hr, hv⟩ := hown.look_ok intKeyed Try.underlying55 (noFaultZ W) (zd := .held noFault) (zp := []) rfl (keyN ha)
  rw [hr, h1]
  unfold anyV at hv
  rw [h2] at hv
  simp only [Option.some.injEq, Prod.mk.injEq, DataW.held.injEq] at hv
  rw [hv.1]
/-- A fault more. -/
theorem Filled.store {w : World} {km n : Nat} {t : List Flt} (h : Filled w km n t) (hn : n < maxLen) (f : Flt) (hk : i64s_ok f.at_) (hh : hasF t f.at_ = false) (ho : f.on = true) (A : Option Addr) (m c : Nat) (hm : m = (f.m.take 256).length) (hl : LiesT w w.heap.size A (f.m.take 256)) :
    ∃ w', (Instr.mapUpdate 55 (.map (some km)) (.int .i64 f.at_) (.agg #[.int .i64 f.kind, .slice A m c])).run Try.prog w = .ok () w' ∧ Filled w' km (n + 1) (t ++ [f]) ∧ w.grownBy w' (some km) := by
  obtain ⟨M, hown, hF⟩ := h
  obtain ⟨es, clock, hb, _⟩ := id hown
  obtain ⟨w', hr, hown', hg⟩ := hown.update intKeyed Try.underlying55 hn (val := .agg #[.int .i64 f.kind, .slice A m c]) (keyN hk) (d := .held (.agg #[.int .i64 f.kind, .slice A m c])) (ps := []) rfl
  have hkey : ∀ b, b < w.heap.size → (∃ cs fr, w.heap[b]? = some (.cells cs 5 fr)) → w'.heap[b]? = w.heap[b]? := fun b hbb ⟨cs, fr, hc⟩ => hg.block b hbb (fun e => by injection e with e; subst e; rw [hb] at hc; simp at hc)
  have hlit := (intKeyed.key (keyN hk))
  refine ⟨w', hr, ⟨_, hown', fun a ha => ?_⟩, hg⟩
  obtain ⟨h1, A', m', c', h2, h3, h4⟩ := hF a ha
  obtain ⟨e1, e2⟩ := firstF_new hh ho a
  rw [e1, e2]
  by_cases hne : a = f.at_
  · subst hne
    rw [if_pos rfl, decide_eq_true rfl, Bool.or_true]
    refine ⟨Maps.has_put_same hown.isMap hlit _, A, m, c, Maps.atKey_put_same hown.isMap hlit _ _, hm, (hl.kept hkey).up hg.size⟩
  · rw [if_neg hne, decide_eq_false hne, Bool.or_false]
    have hl2 : (Lit.int IntKind.i64 a) ≠ .int .i64 f.at_ := fun e => by injection e with _ e; exact hne e
    exact ⟨(Maps.has_put_other hl2 _).trans h1, A', m', c', (Maps.atKey_put_other hl2 _ _).trans h2, h3, (h4.kept hkey).up hg.size⟩
end
section
open Go.RowKit

/-- A plan that came in. -/
structure Pn where
  g : Gm
  A1 : Option Addr
  n1 : Nat
  c1 : Nat
  bl : List Int
  A2 : Option Addr
  n2 : Nat
  c2 : Nat
  fl : List Flt
def Pn.cells (q : Pn) : List Value := [.int .i64 q.g.b, .int .i64 q.g.p, .int .i64 q.g.r, .slice q.A1 q.n1 q.c1, .slice q.A2 q.n2 q.c2]
def Pn.val (q : Pn) : Value := .agg #[.int .i64 q.g.b, .int .i64 q.g.p, .int .i64 q.g.r, .slice q.A1 q.n1 q.c1, .slice q.A2 q.n2 q.c2]
structure Pn.Ok (w : World) (B : Nat) (q : Pn) : Prop where
  l1 : Lies w B q.A1 (i64s q.bl)
  h1 : q.n1 = q.bl.length
  l2 : Lies w B q.A2 (q.fl.flatMap Flt.cells)
  h2 : q.n2 = q.fl.length
  h3 : ∀ f ∈ q.fl, f.Ok w B
theorem Pn.Ok.below {w w' : World} {B : Nat} {q : Pn} (h : q.Ok w B) (hb : Below B w w') : q.Ok w' B := ⟨h.l1.below hb, h.h1, h.l2.below hb, h.h2, fun f hf => (h.h3 f hf).below hb⟩
def Pn.light (q : Pn) : Bool := decide (q.n1 ≤ 60) && decide (q.n2 ≤ 40) && q.fl.all fun f => decide (f.n ≤ 300)
/-- A plan in its box. -/
def BoxQ (q : Pn) (k : Nat) (w : World) : Prop := w.heap[k]? = some (.cells q.cells.toArray 27 (0, 0))
theorem BoxQ.below {q : Pn} {k B : Nat} {w w' : World} (h : BoxQ q k w) (hb : Below B w w') (hk : k < B) : BoxQ q k w' := (hb.block k hk).trans h
theorem BoxQ.c {q : Pn} {k : Nat} {w : World} (h : BoxQ q k w) (j : Nat) (v : Value) (hj : q.cells[j]? = some v) : w.cell? ⟨k, j, none⟩ = some v := by
  have := World.news_of_block h j v (by simpa using hj)
  have e : (⟨k, 0, none⟩ : Addr).add j = ⟨k, j, none⟩ := by unfold Addr.add; split <;> simp_all
  rw [e] at this
  exact this
theorem add_off (x : Addr) (n : Nat) : x.add (n + 1) = ⟨x.block, x.off + (n + 1), none⟩ := by
  unfold Addr.add; simp

set_option maxRecDepth 4000 in
theorem light_any (q : Pn) (B : Nat) (w : World) (hq : q.Ok w B) (hB : B ≤ w.heap.size) : Calls Try.prog 4 #[q.val] w fun e w' => e = .returned (.bool q.light) ∧ Below w.heap.size w w' := by
  obtain ⟨l1, h1, l2, h2, h3⟩ := hq
  have Hb := hide ((Below.refl w.heap.size w).alloc (Nat.le_refl _) (.cells #[.int .i64 q.g.b, .int .i64 q.g.p, .int .i64 q.g.r, .slice q.A1 q.n1 q.c1, .slice q.A2 q.n2 q.c2] 27))
  have hlight : q.light = (decide (q.n1 ≤ 60) && decide (q.n2 ≤ 40) && q.fl.all fun f => decide (f.n ≤ 300)) := rfl
  rcases q with ⟨⟨gb, gp, gr⟩, A1, n1, c1, bl, A2, n2, c2, fl⟩
  simp only [Pn.val] at *
  generalize Pn.light _ = R at *
  by_cases h60 : (60 : Int) < (n1 : Int)
  · rw [decide_eq_false (by omega), Bool.false_and, Bool.false_and] at hlight
    subst hlight
    clear l1 l2 h1 h2 h3
    go_enter Try.func4, Try.ntmps4
    go_wp2
    go_ret
    exact ⟨rfl, Hb.out⟩
  · by_cases h40 : (40 : Int) < (n2 : Int)
    · rw [decide_eq_false (p := n2 ≤ 40) (by omega), Bool.and_false, Bool.false_and] at hlight
      subst hlight
      clear l1 l2 h1 h2 h3
      go_enter Try.func4, Try.ntmps4
      go_wp2
      go_ret
      exact ⟨rfl, Hb.out⟩
    · rw [decide_eq_true (show n1 ≤ 60 by omega), decide_eq_true (show n2 ≤ 40 by omega), Bool.true_and, Bool.true_and] at hlight
      have Hl := hide hlight
      have H2 := hide h2
      have HL2 := hide (l2.below (Hb.out.mono hB))
      have hn40 : n2 ≤ 40 := by omega
      clear hlight h2 l1 l2 h1 h3
      go_enter Try.func4, Try.ntmps4
      go_wp2
      go_loop [3] (fun i => ∃ j : Nat, j ≤ n2 ∧ i = .int .i64 (j : Int) ∧ Hid ((fl.take j).all (fun f => decide (f.n ≤ 300)) = true)) (fun i => n2 - (intOf i).toNat)
      case atStart => exact ⟨0, Nat.zero_le _, rfl, hide (by simp)⟩
      case round =>
        obtain ⟨j, hj, rfl, hal⟩ := hrel
        by_cases hlt : j < n2
        · have hjl : j < fl.length := by rw [← H2.out]; exact hlt
          have hlt' : (j : Int) < (n2 : Int) := by omega
          obtain ⟨a, rfl, hab, hca⟩ := HL2.out.elem Flt.cells_len hjl (by decide)
          have Htk := hide (show fl.take (j + 1) = fl.take j ++ [fl[j]] from by rw [List.take_append_getElem])
          have Hmem := hide (List.getElem_mem hjl)
          have e1 : wrap64 ((j : Int) + 1) = ((j + 1 : Nat) : Int) := by rw [i64w (by omega)]; rfl
          generalize fl[j] = f at *
          have c2 := hca 2 (.slice f.A f.n f.c) rfl
          rw [add_off] at c2
          clear hca hjl
          by_cases hm : (300 : Int) < (f.n : Int)
          · have hR : R = false := by
              rw [Hl.out, ← Bool.not_eq_true, List.all_eq_true]
              intro h
              have := h f Hmem.out
              rw [decide_eq_true_eq] at this
              omega
            go_wp2
            go_ret
            exact ⟨by first | rfl | exact ret_bool hR.symm, Hb.out⟩
          · have hm2 : f.n ≤ 300 := by omega
            have Hnew := hide (show (fl.take (j + 1)).all (fun f => decide (f.n ≤ 300)) = true by rw [Htk.out, List.all_append, hal.out]; simp [hm2])
            clear hm2
            go_wp2
            go_round
            case rel => exact ⟨j + 1, by omega, rfl, Hnew⟩
            case measure => simp [intOf]; omega
        · obtain rfl : j = n2 := by omega
          have hR : R = true := by
            have := hal.out
            rw [List.take_of_length_le (Nat.le_of_eq H2.out.symm)] at this
            rw [Hl.out]; exact this
          go_wp2
          go_ret
          exact ⟨by first | rfl | exact ret_bool hR.symm, Hb.out⟩
end
end Go.Proofs.Ytigpplckddnghaa
