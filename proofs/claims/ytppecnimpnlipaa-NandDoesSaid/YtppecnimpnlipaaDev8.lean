/-
  CONTRACT of package nand: first (the first fault of each operation, out of those whose kind there is).
-/
import Derived.Test.YtppecnimpnlipaaDev3
import Derived.Test.YtppecnimpnlipaaElem
import Derived.Test.YtppecnimpnlipaaFlo3
namespace Go.Proofs.Ytppecnimpnlipaa
open Go.RowKit

/-- A fault that came in. -/
structure Flt where
  at_ : Int
  kind : Int
  A : Option Addr
  n : Nat
  c : Nat
  m : List UInt8
def Flt.cells (f : Flt) : List Value := [.int .i64 f.at_, .int .i64 f.kind, .slice f.A f.n f.c]
theorem Flt.cells_len (f : Flt) : f.cells.length = 3 := rfl
structure Flt.Ok (w : World) (B : Nat) (f : Flt) : Prop where
  lies : Lies w B f.A (bys f.m)
  len : f.n = f.m.length
  cap : f.n ≤ f.c
  key : i64s_ok f.at_
theorem Flt.Ok.below {w w' : World} {B : Nat} {f : Flt} (h : f.Ok w B) (hb : Below B w w') : f.Ok w' B := ⟨h.lies.below hb, h.len, h.cap, h.key⟩
def Flt.on (f : Flt) : Bool := decide (0 ≤ f.at_ ∧ (f.kind = 1 ∨ f.kind = 2))
def firstF : List Flt → Int → Int × List UInt8
  | [], _ => (0, [])
  | f :: l, a => if (f.on && decide (f.at_ = a)) = true then (f.kind, f.m.take 256) else firstF l a
def hasF (l : List Flt) (a : Int) : Bool := l.any fun f => f.on && decide (f.at_ = a)
theorem firstF_none : ∀ (l : List Flt) (a : Int), hasF l a = false → firstF l a = (0, [])
  | [], _, _ => rfl
  | f :: l, a, h => by
    unfold hasF at h
    rw [List.any_cons, Bool.or_eq_false_iff] at h
    unfold firstF
    rw [if_neg (by rw [h.1]; decide)]
    exact firstF_none l a h.2
theorem firstF_snoc : ∀ (t : List Flt) (f : Flt) (a : Int), firstF (t ++ [f]) a = if hasF t a = true then firstF t a else if (f.on && decide (f.at_ = a)) = true then (f.kind, f.m.take 256) else (0, [])
  | [], f, a => rfl
  | g :: t, f, a => by
    rw [List.cons_append]
    unfold firstF hasF
    rw [List.any_cons]
    cases h : (g.on && decide (g.at_ = a)) with
    | true => simp
    | false =>
      simp only [Bool.false_or, Bool.false_eq_true, if_false]
      exact firstF_snoc t f a
theorem hasF_snoc (t : List Flt) (f : Flt) (a : Int) : hasF (t ++ [f]) a = (hasF t a || (f.on && decide (f.at_ = a))) := by
  unfold hasF; rw [List.any_append]; simp
theorem firstF_off {t : List Flt} {f : Flt} (h : f.on = false) : firstF (t ++ [f]) = firstF t ∧ hasF (t ++ [f]) = hasF t := by
  constructor
  · funext a
    rw [firstF_snoc]
    cases hh : hasF t a with
    | true => rw [if_pos rfl]
    | false => rw [if_neg (by decide), h, Bool.false_and, if_neg (by decide), firstF_none _ _ hh]
  · funext a
    rw [hasF_snoc, h, Bool.false_and, Bool.or_false]
theorem firstF_had {t : List Flt} {f : Flt} (h : hasF t f.at_ = true) : firstF (t ++ [f]) = firstF t ∧ hasF (t ++ [f]) = hasF t := by
  constructor
  · funext a
    rw [firstF_snoc]
    by_cases hh : hasF t a = true
    · rw [if_pos hh]
    · have hne : ¬ f.at_ = a := by rintro rfl; exact hh h
      rw [if_neg hh, decide_eq_false hne, Bool.and_false, if_neg (by decide), firstF_none _ _ (by simpa using hh)]
  · funext a
    rw [hasF_snoc]
    by_cases hne : f.at_ = a
    · subst hne; rw [h, Bool.true_or]
    · rw [decide_eq_false hne, Bool.and_false, Bool.or_false]
theorem firstF_new {t : List Flt} {f : Flt} (h : hasF t f.at_ = false) (ho : f.on = true) (a : Int) : firstF (t ++ [f]) a = (if a = f.at_ then (f.kind, f.m.take 256) else firstF t a) ∧ hasF (t ++ [f]) a = (hasF t a || decide (a = f.at_)) := by
  rw [firstF_snoc, hasF_snoc, ho, Bool.true_and]
  by_cases hne : a = f.at_
  · subst hne
    rw [h]
    simp
  · have hne2 : ¬ f.at_ = a := fun h => hne h.symm
    rw [if_neg hne, decide_eq_false hne, decide_eq_false hne2]
    refine ⟨?_, rfl⟩
    cases hh : hasF t a with
    | true => simp
    | false => rw [firstF_none _ _ hh]; simp

/-- The map while it is filled: at most n entries, those of the faults t. -/
def Filled (w : World) (km n : Nat) (t : List Flt) : Prop :=
  ∃ M : DataW Value, w.ownsMap Try.prog 3 anyV km n M ∧ ∀ a, i64s_ok a → Maps.has M (.int .i64 a) = hasF t a ∧
    ∃ A m c, M.atKey (.int .i64 a) (.held noFault) = .held (.agg #[.int .i64 (firstF t a).1, .slice A m c]) ∧ m = (firstF t a).2.length ∧ LiesT w w.heap.size A (firstF t a).2

theorem Filled.start (w : World) : Filled (w.alloc (.map #[] 0)) w.heap.size 0 [] :=
  ⟨_, World.ownsMap_made w _ _ _, fun _ _ => ⟨rfl, none, 0, 0, rfl, rfl, .inl rfl⟩⟩
theorem Filled.lt {w : World} {km n : Nat} {t : List Flt} (h : Filled w km n t) : km < w.heap.size := by
  obtain ⟨M, h, _⟩ := h; exact h.lt
theorem Filled.below {w w' : World} {km n : Nat} {t : List Flt} (h : Filled w km n t) (hb : Below w.heap.size w w') : Filled w' km n t := by
  have hlt := h.lt
  obtain ⟨M, ⟨es, clock, hk, r⟩, hF⟩ := h
  refine ⟨M, ⟨es, clock, (hb.block km hlt).trans hk, r⟩, fun a ha => ?_⟩
  obtain ⟨h1, A, m, c, h2, h3, h4⟩ := hF a ha
  exact ⟨h1, A, m, c, h2, h3, (h4.kept fun b hq _ => hb.block b hq).up hb.size⟩
theorem Filled.same {w : World} {km n n' : Nat} {t t' : List Flt} (h : Filled w km n t) (h1 : firstF t' = firstF t ∧ hasF t' = hasF t) (hn : n ≤ n') : Filled w km n' t' := by
  obtain ⟨M, ho, hF⟩ := h
  unfold Filled
  rw [h1.1, h1.2]
  exact ⟨M, ho.mono hn, hF⟩
theorem Filled.done {w : World} {km n : Nat} {t : List Flt} (h : Filled w km n t) : FaultsAt w w.heap.size km (firstF t) := by
  have hlt := h.lt
  obtain ⟨M, ho, hF⟩ := h
  exact ⟨hlt, n, M, ho, fun a ha => (hF a ha).2⟩
/-- Looked up: what is there, and whether anything is. -/
theorem Filled.look {w : World} {km n : Nat} {t : List Flt} (h : Filled w km n t) (a : Int) (ha : i64s_ok a) : ∃ z A m c, ∀ W, W.heap[km]? = w.heap[km]? →
    (Instr.lookup 91 (.map (some km)) (.int .i64 a) true).run Try.prog W = .ok (.tuple #[.agg #[.int .i64 z, .slice A m c], .bool (hasF t a)]) W := by
  obtain ⟨M, ⟨es, clock, hk, r⟩, hF⟩ := h
  obtain ⟨h1, A, m, c, h2, h3, h4⟩ := hF a ha
  refine ⟨(firstF t a).1, A, m, c, fun W hW => ?_⟩
  have hown : W.ownsMap Try.prog 3 anyV km n M := ⟨es, clock, hW.trans hk, r⟩
  obtain ⟨v, ps, hr, hv⟩ := hown.look_ok intKeyed Try.underlying91 (noFaultZ W) (zd := .held noFault) (zp := []) rfl (keyN ha)
  rw [hr, h1]
  unfold anyV at hv
  rw [h2] at hv
  simp only [Option.some.injEq, Prod.mk.injEq, DataW.held.injEq] at hv
  rw [hv.1]
/-- A fault more. -/
theorem Filled.store {w : World} {km n : Nat} {t : List Flt} (h : Filled w km n t) (hn : n < maxLen) (f : Flt) (hk : i64s_ok f.at_) (hh : hasF t f.at_ = false) (ho : f.on = true) (A : Option Addr) (m c : Nat) (hm : m = (f.m.take 256).length) (hl : LiesT w w.heap.size A (f.m.take 256)) :
    ∃ w', (Instr.mapUpdate 91 (.map (some km)) (.int .i64 f.at_) (.agg #[.int .i64 f.kind, .slice A m c])).run Try.prog w = .ok () w' ∧ Filled w' km (n + 1) (t ++ [f]) ∧ w.grownBy w' (some km) := by
  obtain ⟨M, hown, hF⟩ := h
  obtain ⟨es, clock, hb, _⟩ := id hown
  obtain ⟨w', hr, hown', hg⟩ := hown.update intKeyed Try.underlying91 hn (val := .agg #[.int .i64 f.kind, .slice A m c]) (keyN hk) (d := .held (.agg #[.int .i64 f.kind, .slice A m c])) (ps := []) rfl
  have hkey : ∀ b, b < w.heap.size → (∃ cs fr, w.heap[b]? = some (.cells cs 5 fr)) → w'.heap[b]? = w.heap[b]? := fun b hbb ⟨cs, fr, hc⟩ => hg.block b hbb (fun e => by injection e with e; subst e; rw [hb] at hc; simp at hc)
  have hlit := (intKeyed.key (keyN hk))
  refine ⟨w', hr, ⟨_, hown', fun a ha => ?_⟩, hg⟩
  obtain ⟨h1, A', m', c', h2, h3, h4⟩ := hF a ha
  obtain ⟨e1, e2⟩ := firstF_new hh ho a
  rw [e1, e2]
  by_cases hne : a = f.at_
  · subst hne
    rw [if_pos rfl, decide_eq_true rfl, Bool.or_true]
    refine ⟨Maps.has_put_same hown.isMap hlit _, A, m, c, Maps.atKey_put_same hown.isMap hlit _ _, hm, (hl.kept hkey).up hg.size⟩
  · rw [if_neg hne, decide_eq_false hne, Bool.or_false]
    have hl2 : (Lit.int IntKind.i64 a) ≠ .int .i64 f.at_ := fun e => by injection e with _ e; exact hne e
    exact ⟨(Maps.has_put_other hl2 _).trans h1, A', m', c', (Maps.atKey_put_other hl2 _ _).trans h2, h3, (h4.kept hkey).up hg.size⟩
end Go.Proofs.Ytppecnimpnlipaa
