/-
  LAYER 20: where Choose stands.
-/
import Derived.Test.YtofokljhlcdebaaPkI
import Derived.Test.YtofokljhlcdebaaSliL
import Derived.WalkMore
import Derived.Deep.LoopGhost
namespace Go.Proofs.Ytofokljhlcdebaa
open Go.RowKit
set_option maxRecDepth 8000

/-- 'l[j:]', of a row that lies from some block on. -/
theorem wpl_slice_b {P : Program} {ops : Array Oper} {rest : List Oper} {op : Oper} {a : Act} {w : World} {Q : Exit → Act → World → Prop} (hgd : op.guard = none) (t e : TypeId) (x k : Operand) (ho : op.op = .slice t x (some k) none none)
    (A : Option Addr) (n c j m : Nat) (hx : a.eval x = .slice A n c) (hk : a.eval k = .int .i64 (j : Int)) (hj : j ≤ n) (hc : n ≤ c) (ht : P.underlying t = some (.slice (P.elem t))) (he : P.elem t = e) (hi : (P.info? e).map (·.size) = some m)
    (h : ∀ A', (∀ (lo hi : Nat) (W : World) (vs : List Value), LiesB W lo hi A vs → vs.length = n * m → LiesB W lo hi A' (vs.drop (j * m))) → wpList P ops Q rest (a.put op.dst (.slice A' (n - j) (c - j))) w) : wpList P ops Q (op :: rest) a w := by
  have hs : (sizeOf (P.elem t)).run P w = .ok m w := by
    rw [he]
    cases hq : P.info? e with
    | none => simp [hq] at hi
    | some i => simp [hq] at hi; simp [sizeOf, typeInfo, hq, Sem.run_bind, hi]
  have hrun : (Instr.sliceAt t (.slice A n c) (some (.int .i64 (j : Int))) none none).run P w = .ok (.slice (if c = j then A else A.map (·.add (j * m))) (n - j) (c - j)) w := by
    rw [run_sliceAt_slice w t _ _ _ _ ht, run_slice_l w t A n c ht .i64 (j : Int) (Int.natCast_nonneg j) (by omega), hs]
    simp [sliced]
  refine wpList_plain hgd fun K hK => ?_
  unfold Oper.wp execOp
  simp only [ho, hx, hk, Option.map_some, Option.map_none, Sem.run_bind, hrun, Result.andThen_ok, Sem.run_pure]
  refine hK _ _ (h _ fun lo hi W vs hl hlen => ?_)
  by_cases hcj : c = j
  · rw [if_pos hcj]
    have : vs.drop (j * m) = [] := by
      rw [List.drop_eq_nil_iff, hlen]
      exact Nat.mul_le_mul_right m (by omega)
    rw [this]
    exact .inl rfl
  · rw [if_neg hcj]
    rcases hl with e | ⟨a, e, h1, h2, h3⟩
    · exact .inl (by rw [e]; simp)
    · refine .inr ⟨a.add (j * m), by rw [e]; rfl, ?_, ?_, fun i u hu => ?_⟩
      · unfold Addr.add; split <;> exact h1
      · unfold Addr.add; split <;> exact h2
      · rw [List.getElem?_drop] at hu
        rw [Addr.add_add']
        exact h3 _ u hu
/-- What stands when all is set up. -/
structure Cs (w0 wz : World) (l : List Cq) (bad Bl : List Int) (AC : Option Addr) (cC base g bm : Nat) (Vz : Int → Value) (B0 lo B5 qb q3 q4 q5 : Nat) (A1 : Option Addr) (c1 : Nat) : Prop where
  below : Below w0.heap.size w0 wz
  b0 : w0.heap.size ≤ B0 ∧ B0 ≤ g ∧ B0 ≤ bm ∧ B0 ≤ wz.heap.size
  bV : ∀ x g', (Vz x).ownBlock = some g' → B0 ≤ g' ∧ g' < lo
  hi : g < lo ∧ bm < lo ∧ lo ≤ wz.heap.size ∧ lo ≤ B5
  vq : Vq wz B0 A1 l
  amg : Amg bad lo qb wz
  qs : lo ≤ qb ∧ lo ≤ q3 ∧ lo ≤ q4 ∧ lo ≤ q5
  m3 : wz.heap[q3]? = some (.cells #[.slice A1 l.length c1] 37 (0, 0))
  m4 : wz.heap[q4]? = some (.cells #[.map (some bm)] 73 (0, 0))
  m5 : wz.heap[q5]? = some (.cells #[.func (.func 64) #[] #[.pointer (some ⟨qb, 0, none⟩)]] 77 (0, 0))
  ac : l.length = 0 ∨ AC = some ⟨g, 0, none⟩
/-- Where it stands behind d of the blocks. -/
structure Cw (w0 wz : World) (l : List Cq) (bad Bl : List Int) (R : List Pl2) (AC : Option Addr) (cC base g bm : Nat) (Vz : Int → Value) (B5 d : Nat) (Ad : Option Addr) (Lc : List Pl2) (nn : Nat) (D : DataW Value) (V : Int → Value) (F : Int → List Int) (W : World) : Prop where
  own : W.ownsRow base 30 2 (.slice AC l.length cC) l.length (rowQ Lc)
  us : Us W bm nn D V F
  uses : UsesB F Lc
  tq : Tq (Tm g bm Vz) wz W
  vt : ∀ x g', (V x).ownBlock = some g' → (∃ y, (Vz y).ownBlock = some g') ∨ wz.heap.size ≤ g'
  run : runP (plsC l) bad (Bl.drop d) Lc = R
  len : Lc.length = l.length
  few : nn ≤ 1000 + 1000 * d
  bls : LiesB W B5 wz.heap.size Ad (nums .i64 (Bl.drop d))
section
variable {w0 wz W W5 W6 : World} {l : List Cq} {bad Bl : List Int} {R Lc : List Pl2} {AC A1 Ad : Option Addr} {cC base g bm B0 lo B5 qb q3 q4 q5 c1 d nn : Nat} {Vz V : Int → Value} {D : DataW Value} {F : Int → List Int}
theorem Cs.lowT (h : Cs w0 wz l bad Bl AC cC base g bm Vz B0 lo B5 qb q3 q4 q5 A1 c1) : ∀ j, Tm g bm Vz j → B0 ≤ j := by
  rintro j (rfl | rfl | ⟨x, hx⟩)
  · exact h.b0.2.1
  · exact h.b0.2.2.1
  · exact (h.bV x j hx).1
theorem Cs.hiT (h : Cs w0 wz l bad Bl AC cC base g bm Vz B0 lo B5 qb q3 q4 q5 A1 c1) : ∀ j, Tm g bm Vz j → j < lo := by
  rintro j (rfl | rfl | ⟨x, hx⟩)
  · exact h.hi.1
  · exact h.hi.2.1
  · exact (h.bV x j hx).2
theorem Cs.mid (h : Cs w0 wz l bad Bl AC cC base g bm Vz B0 lo B5 qb q3 q4 q5 A1 c1) (ht : Tq (Tm g bm Vz) wz W) (j : Nat) (h1 : lo ≤ j) (h2 : j < wz.heap.size) : W.heap[j]? = wz.heap[j]? :=
  ht.block j h2 (fun e => by have := h.hiT j e; omega)
theorem Cw.later (h : Cw w0 wz l bad Bl R AC cC base g bm Vz B5 d Ad Lc nn D V F W) (hb : Below W.heap.size W W5) : Cw w0 wz l bad Bl R AC cC base g bm Vz B5 d Ad Lc nn D V F W5 :=
  ⟨own_keepT h.own hb, h.us.later hb, h.uses, h.tq.below hb, h.vt, h.run, h.len, h.few, h.bls.below hb h.tq.size⟩
theorem Cw.mq (h : Cw w0 wz l bad Bl R AC cC base g bm Vz B5 d Ad Lc nn D V F W) (s : Cs w0 wz l bad Bl AC cC base g bm Vz B0 lo B5 qb q3 q4 q5 A1 c1) : Mq bad Lc F bm nn D V lo qb q4 q5 W := by
  have l4 := (Array.getElem?_eq_some_iff.1 s.m4).1
  have l5 := (Array.getElem?_eq_some_iff.1 s.m5).1
  exact ⟨(s.mid h.tq q4 s.qs.2.2.1 l4).trans s.m4, (s.mid h.tq q5 s.qs.2.2.2 l5).trans s.m5, s.amg.turn s.qs.1 (fun j h1 h2 => s.mid h.tq j h1 (Nat.lt_of_le_of_lt h2 s.amg.lt)), h.us, h.uses⟩
theorem Cw.m3 (h : Cw w0 wz l bad Bl R AC cC base g bm Vz B5 d Ad Lc nn D V F W) (s : Cs w0 wz l bad Bl AC cC base g bm Vz B0 lo B5 qb q3 q4 q5 A1 c1) : W.heap[q3]? = some (.cells #[.slice A1 l.length c1] 37 (0, 0)) :=
  (s.mid h.tq q3 s.qs.2.1 (Array.getElem?_eq_some_iff.1 s.m3).1).trans s.m3
theorem Cw.under (h : Cw w0 wz l bad Bl R AC cC base g bm Vz B5 d Ad Lc nn D V F W) (s : Cs w0 wz l bad Bl AC cC base g bm Vz B0 lo B5 qb q3 q4 q5 A1 c1) : Below B0 wz W :=
  h.tq.under s.lowT (Below.refl _ _) s.b0.2.2.2
theorem Cw.vq (h : Cw w0 wz l bad Bl R AC cC base g bm Vz B5 d Ad Lc nn D V F W) (s : Cs w0 wz l bad Bl AC cC base g bm Vz B0 lo B5 qb q3 q4 q5 A1 c1) : Vq W W.heap.size A1 l :=
  (s.vq.below (h.under s)).up (Nat.le_trans s.b0.2.2.2 h.tq.size)
theorem Cw.done (h : Cw w0 wz l bad Bl R AC cC base g bm Vz B5 d Ad Lc nn D V F W) (s : Cs w0 wz l bad Bl AC cC base g bm Vz B0 lo B5 qb q3 q4 q5 A1 c1) : Below w0.heap.size w0 W :=
  s.below.trans ((h.under s).mono s.b0.1)
/-- A block that can't be freed is passed over. -/
theorem Cw.skip {b : Int} (h : Cw w0 wz l bad Bl R AC cC base g bm Vz B5 d Ad Lc nn D V F W) {i : Nat} (hi : runP (plsC l) bad (Bl.drop (d + i)) Lc = R) (hb : Bl[d + i]? = some b) (hc : canP (plsC l) bad Lc b = false) : runP (plsC l) bad (Bl.drop (d + i + 1)) Lc = R := by
  obtain ⟨h1, h2⟩ := List.getElem?_eq_some_iff.1 hb
  rw [List.drop_eq_getElem_cons h1, h2] at hi
  unfold runP at hi
  rw [if_neg (by rw [hc]; decide)] at hi
  exact hi
/-- A block is freed. -/
theorem Cw.next {b : Int} {A6 : Option Addr} {n1 i : Nat} {D' : DataW Value} {V' : Int → Value} {F' : Int → List Int} (h : Cw w0 wz l bad Bl R AC cC base g bm Vz B5 d Ad Lc nn D V F W5) (hi : runP (plsC l) bad (Bl.drop (d + i)) Lc = R) (hb : Bl[d + i]? = some b) (hc : canP (plsC l) bad Lc b = true) (hAC : AC = some ⟨g, 0, none⟩)
    (hf : Fp W5 V base g l.length cC bm n1 (freeP (plsC l) bad Lc b) D' V' F' W6) (hu : UsesB F' (freeP (plsC l) bad Lc b)) (hn : n1 ≤ nn + 1000) (s : Cs w0 wz l bad Bl AC cC base g bm Vz B0 lo B5 qb q3 q4 q5 A1 c1)
    (hl6 : ∀ (lo hi : Nat) (W : World) (vs : List Value), LiesB W lo hi Ad vs → vs.length = (Bl.length - d) * 1 → LiesB W lo hi A6 (vs.drop ((i + 1) * 1))) (hd : d + i < Bl.length) :
    Cw w0 wz l bad Bl R AC cC base g bm Vz B5 (d + i + 1) A6 (freeP (plsC l) bad Lc b) n1 D' V' F' W6 := by
  subst hAC
  obtain ⟨h1, h2⟩ := List.getElem?_eq_some_iff.1 hb
  have hT : ∀ j, Tm g bm V j → Tm g bm Vz j ∨ wz.heap.size ≤ j := by
    rintro j (e | e | ⟨x, e⟩)
    · exact .inl (.inl e)
    · exact .inl (.inr (.inl e))
    · rcases h.vt x j e with h3 | h3
      · exact .inl (.inr (.inr h3))
      · exact .inr h3
  have ht := h.tq.trans hf.tq hT
  refine ⟨hf.own, hf.us, hu, ht, fun x g' e => ?_, ?_, ?_, ?_, ?_⟩
  · rcases hf.vt x g' e with ⟨y, hy⟩ | h3
    · exact h.vt y g' hy
    · exact .inr (Nat.le_trans h.tq.size h3)
  · rw [List.drop_eq_getElem_cons h1, h2] at hi
    unfold runP at hi
    rw [if_pos hc] at hi
    exact hi
  · rw [freeP_len (by unfold plsC; rw [List.length_map]; exact h.len)]; exact h.len
  · have := h.few; omega
  · have hbl := h.bls.turn (w' := W6) (fun j hj1 hj2 => ?_)
    · have := hl6 B5 wz.heap.size W6 _ hbl (by rw [nums_len, List.length_drop, Nat.mul_one])
      have e : (nums .i64 (Bl.drop d)).drop ((i + 1) * 1) = nums .i64 (Bl.drop (d + i + 1)) := by
        unfold nums
        rw [← List.map_drop, List.drop_drop, Nat.mul_one, Nat.add_assoc]
      rw [e] at this
      exact this
    · have hlo := s.hi.2.2.2
      rw [s.mid ht j (by omega) hj2, ← s.mid h.tq j (by omega) hj2]
end
end Go.Proofs.Ytofokljhlcdebaa
