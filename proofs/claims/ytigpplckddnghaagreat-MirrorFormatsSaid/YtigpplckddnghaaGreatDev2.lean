/-
  A RAW DEVICE as mathematics, and as it lies in memory. Nothing here speaks of one function.
  A STRUCT OUT OF THE MIDST OF A BLOCK. Nothing here speaks of one program.
  CONTRACTS of package nand: block, and what is looked at (Marked, Next, Wear, Ops, Down, Sides, Power); of a nil device, too.
  WHAT COVERS WHAT, plain: erased pages, the places of pages. (Cut out of OneM and Dev2.)
  CONTRACTS of package nand: bytes, page, Read.
-/
import Derived.Test.YtigpplckddnghaaGreatBits
import Derived.Test.YtigpplckddnghaaGreatTch
import Derived.Maps.OwnSet
import Derived.Maps.Views
import Derived.Laws.IdiomCopy
import Derived.Deep.MidRow
import Derived.Test.YtigpplckddnghaaGreatWords
import Derived.Lib.QuietBelow
import Derived.Deep.RegionWith
import Derived.Deep.DeepCutAuto
namespace Go.Proofs.YtigpplckddnghaaGreat
section
open Go.RowKit
open Go.Maps (Keyed)

/-! ### the faults of a device -/
/-- Whatever value, told by itself. -/
def anyV (v : Value) : Option (DataW Value × List MemPlace) := some (.held v, [])
def noFault : Value := .agg #[.int .i64 0, .slice none 0 0]
theorem intKeyed : Keyed Tryz.prog 3 := Maps.int_keyed Tryz.underlying3
def i64s_ok (a : Int) : Prop := -9223372036854775808 ≤ a ∧ a ≤ 9223372036854775807
theorem wf_of {a : Int} (h : i64s_ok a) : (Lit.int .i64 a).wf = true := by
  simp only [Lit.wf, Bool.and_eq_true, decide_eq_true_eq]
  exact ⟨h.1, h.2⟩
theorem keyN {a : Int} (h : i64s_ok a) : keyOf Tryz.prog 3 (.int .i64 a) = some (.int .i64 a) := Maps.keyOf_int_mk Tryz.underlying3 (wf_of h)

/-- Block km is the map of the faults F; the masks lie below B. -/
def FaultsAt (w : World) (B km : Nat) (F : Int → Int × List UInt8) : Prop :=
  km < B ∧ ∃ n, ∃ M : DataW Value, w.ownsMap Tryz.prog 3 anyV km n M ∧ ∀ a, i64s_ok a → ∃ A m c, M.atKey (.int .i64 a) (.held noFault) = .held (.agg #[.int .i64 (F a).1, .slice A m c]) ∧ m = (F a).2.length ∧ LiesT w B A (F a).2
theorem FaultsAt.kept {w w' : World} {B km : Nat} {F : Int → Int × List UInt8} (h : FaultsAt w B km F) (hk : ∀ b, b < B → (∃ cs fr, w.heap[b]? = some (.cells cs 5 fr)) → w'.heap[b]? = w.heap[b]?) (hm : w'.heap[km]? = w.heap[km]?) : FaultsAt w' B km F := by
  obtain ⟨hB, n, M, ⟨es, clock, hb, r⟩, hF⟩ := h
  refine ⟨hB, n, M, ⟨es, clock, hm.trans hb, r⟩, fun a ha => ?_⟩
  obtain ⟨A, m, c, h1, h2, h3⟩ := hF a ha
  exact ⟨A, m, c, h1, h2, h3.kept hk⟩
theorem FaultsAt.is_map {w : World} {B km : Nat} {F : Int → Int × List UInt8} (h : FaultsAt w B km F) : ∃ es clock, w.heap[km]? = some (.map es clock) := by
  obtain ⟨_, n, M, ⟨es, clock, hb, _⟩, _⟩ := h
  exact ⟨es, clock, hb⟩

/-! ### a device -/
/-- What is known of a device: sides; of each block: bad from the first, the next page, wear; each page's bytes; the faults; operations begun; down. -/
structure Dv where
  g : Gm
  bad : Nat → Bool
  nx : Nat → Nat
  we : Nat → Nat
  pg : Nat → List UInt8
  ft : Int → Int × List UInt8
  ops : Nat
  dn : Bool
def Dv.nb (D : Dv) : Nat := D.g.b.toNat
def Dv.np (D : Dv) : Nat := D.g.p.toNat
def Dv.cells (D : Dv) (kb kp km : Nat) : Array Value :=
  #[.int .i64 D.g.b, .int .i64 D.g.p, .int .i64 D.g.r, .slice (some ⟨kb, 0, none⟩) D.nb D.nb, .slice (some ⟨kp, 0, none⟩) (D.nb * D.np) (D.nb * D.np), .map (some km), .int .i64 (D.ops : Int), .bool D.dn]
def Dv.bcell (D : Dv) (j : Nat) : Value := if j % 3 = 0 then .bool (D.bad (j / 3)) else if j % 3 = 1 then .int .i64 (D.nx (j / 3) : Int) else .int .i64 (D.we (j / 3) : Int)
def Dv.pcell (D : Dv) (j : Nat) : Value := .int .u8 (((D.pg (j / 256)).getD (j % 256) 0).toNat : Int)
/-- The function f with another value at i. -/
def upd {α : Type} (f : Nat → α) (i : Nat) (v : α) : Nat → α := fun j => if j = i then v else f j
theorem upd_same {α : Type} (f : Nat → α) (i : Nat) (v : α) : upd f i v i = v := if_pos rfl
theorem upd_other {α : Type} {f : Nat → α} {i j : Nat} {v : α} (h : j ≠ i) : upd f i v j = f j := if_neg h

/-- The device D lies at block k, its blocks at kb, its pages at kp, its faults at km; all of it from B0 on and below B. -/
structure DevAt (w : World) (B0 B : Nat) (D : Dv) (k kb kp km : Nat) : Prop where
  right : D.g.Right
  lo : B0 ≤ k ∧ B0 ≤ kb ∧ B0 ≤ kp
  hi : k < B ∧ kb < B ∧ kp < B
  box : w.heap[k]? = some (.cells (D.cells kb kp km) 84 (0, 0))
  blocks : RowF w kb 88 (3 * D.nb) D.bcell
  pages : RowF w kp 90 (256 * (D.nb * D.np)) D.pcell
  plen : ∀ i, i < D.nb * D.np → (D.pg i).length = 256
  next : ∀ i, i < D.nb → D.nx i ≤ D.np
  wear : ∀ i, i < D.nb → D.we i ≤ D.ops
  faults : FaultsAt w B km D.ft

section
variable {w w' : World} {B0 B : Nat} {D : Dv} {k kb kp km : Nat}
theorem DevAt.sides (h : DevAt w B0 B D k kb kp km) : 8 ≤ D.nb ∧ D.nb ≤ 34 ∧ 4 ≤ D.np ∧ D.np ≤ 32 ∧ D.g.b = (D.nb : Int) ∧ D.g.p = (D.np : Int) := by
  obtain ⟨h1, h2, h3, h4, _⟩ := h.right
  unfold Dv.nb Dv.np
  omega
theorem DevAt.ne (h : DevAt w B0 B D k kb kp km) : k ≠ kb ∧ k ≠ kp ∧ kb ≠ kp ∧ k ≠ km ∧ kb ≠ km ∧ kp ≠ km := by
  obtain ⟨cb, h1, _⟩ := h.blocks
  obtain ⟨cp, h2, _⟩ := h.pages
  obtain ⟨es, cl, h3⟩ := h.faults.is_map
  have h0 := h.box
  refine ⟨?_, ?_, ?_, ?_, ?_, ?_⟩ <;> rintro rfl
  · rw [h0] at h1; simp at h1
  · rw [h0] at h2; simp at h2
  · rw [h1] at h2; simp at h2
  · rw [h0] at h3; simp at h3
  · rw [h1] at h3; simp at h3
  · rw [h2] at h3; simp at h3
theorem DevAt.below (h : DevAt w B0 B D k kb kp km) (hb : Below B w w') : DevAt w' B0 B D k kb kp km :=
  ⟨h.right, h.lo, h.hi, (hb.block _ h.hi.1).trans h.box, h.blocks.kept (hb.block _ h.hi.2.1), h.pages.kept (hb.block _ h.hi.2.2), h.plen, h.next, h.wear, h.faults.kept (fun b hB _ => hb.block b hB) (hb.block _ h.faults.1)⟩
/-- The masks are kept while the device itself is written. -/
theorem DevAt.faults_tch (h : DevAt w B0 B D k kb kp km) (hB : B ≤ w.heap.size) (ht : Tch [k, kb, kp] w w') : FaultsAt w' B km D.ft := by
  obtain ⟨n1, n2, n3, n4, n5, n6⟩ := h.ne
  obtain ⟨cb, h1, _⟩ := h.blocks
  obtain ⟨cp, h2, _⟩ := h.pages
  have h0 := h.box
  refine h.faults.kept (fun b hb ⟨cs, fr, hc⟩ => ht.block b (by omega) ?_) (ht.block km (by have := h.faults.1; omega) ?_)
  · simp only [List.mem_cons, List.not_mem_nil, or_false, not_or]
    refine ⟨?_, ?_, ?_⟩ <;> rintro rfl
    · rw [h0] at hc; simp at hc
    · rw [h1] at hc; simp at hc
    · rw [h2] at hc; simp at hc
  · simp only [List.mem_cons, List.not_mem_nil, or_false, not_or]
    exact ⟨Ne.symm n4, Ne.symm n5, Ne.symm n6⟩

theorem DevAt.c (h : DevAt w B0 B D k kb kp km) (j : Nat) (v : Value) (hj : (D.cells kb kp km)[j]? = some v) : w.cell? ⟨k, j, none⟩ = some v := by
  have h0 := h.box
  simp [World.cell?, h0, hj]
theorem DevAt.f (h : DevAt w B0 B D k kb kp km) (j : Nat) : w.frozen? ⟨k, j, none⟩ = false := by
  have h0 := h.box
  simp [World.frozen?, h0]
theorem DevAt.c0 (h : DevAt w B0 B D k kb kp km) : w.cell? ⟨k, 0, none⟩ = some (.int .i64 D.g.b) := h.c 0 _ rfl
theorem DevAt.c1 (h : DevAt w B0 B D k kb kp km) : w.cell? ⟨k, 1, none⟩ = some (.int .i64 D.g.p) := h.c 1 _ rfl
theorem DevAt.c2 (h : DevAt w B0 B D k kb kp km) : w.cell? ⟨k, 2, none⟩ = some (.int .i64 D.g.r) := h.c 2 _ rfl
theorem DevAt.c3 (h : DevAt w B0 B D k kb kp km) : w.cell? ⟨k, 3, none⟩ = some (.slice (some ⟨kb, 0, none⟩) D.nb D.nb) := h.c 3 _ rfl
theorem DevAt.c4 (h : DevAt w B0 B D k kb kp km) : w.cell? ⟨k, 4, none⟩ = some (.slice (some ⟨kp, 0, none⟩) (D.nb * D.np) (D.nb * D.np)) := h.c 4 _ rfl
theorem DevAt.c5 (h : DevAt w B0 B D k kb kp km) : w.cell? ⟨k, 5, none⟩ = some (.map (some km)) := h.c 5 _ rfl
theorem DevAt.c6 (h : DevAt w B0 B D k kb kp km) : w.cell? ⟨k, 6, none⟩ = some (.int .i64 (D.ops : Int)) := h.c 6 _ rfl
theorem DevAt.c7 (h : DevAt w B0 B D k kb kp km) : w.cell? ⟨k, 7, none⟩ = some (.bool D.dn) := h.c 7 _ rfl
theorem DevAt.range (h : DevAt w B0 B D k kb kp km) : w.rangeAt k 0 D.g.cells := by
  intro j v hv
  rw [Nat.zero_add]
  have hj : j < 3 := (List.getElem?_eq_some_iff.1 hv).1
  refine h.c j v ?_
  rcases (by omega : j = 0 ∨ j = 1 ∨ j = 2) with rfl | rfl | rfl <;> exact hv
theorem DevAt.b0 (h : DevAt w B0 B D k kb kp km) {i : Nat} (hi : i < D.nb) : w.cell? ⟨kb, i * 3, none⟩ = some (.bool (D.bad i)) := by
  rw [h.blocks.cell (by omega)]
  unfold Dv.bcell
  rw [if_pos (by omega), show i * 3 / 3 = i by omega]
theorem DevAt.b1 (h : DevAt w B0 B D k kb kp km) {i : Nat} (hi : i < D.nb) : w.cell? ⟨kb, i * 3 + 1, none⟩ = some (.int .i64 (D.nx i : Int)) := by
  rw [h.blocks.cell (by omega)]
  unfold Dv.bcell
  rw [if_neg (by omega), if_pos (by omega), show (i * 3 + 1) / 3 = i by omega]
theorem DevAt.b2 (h : DevAt w B0 B D k kb kp km) {i : Nat} (hi : i < D.nb) : w.cell? ⟨kb, i * 3 + 2, none⟩ = some (.int .i64 (D.we i : Int)) := by
  rw [h.blocks.cell (by omega)]
  unfold Dv.bcell
  rw [if_neg (by omega), if_neg (by omega), show (i * 3 + 2) / 3 = i by omega]
/-- A page's bytes lie where they ought to. -/
theorem DevAt.page (h : DevAt w B0 B D k kb kp km) {i : Nat} (hi : i < D.nb * D.np) : Lies w B (some ⟨kp, i * 256, none⟩) (bys (D.pg i)) := by
  refine .inr ⟨_, rfl, h.hi.2.2, fun j u hu => ?_⟩
  have hj : j < 256 := by
    have := (List.getElem?_eq_some_iff.1 hu).1
    rwa [bys_len, h.plen i hi] at this
  have e : (⟨kp, i * 256, none⟩ : Addr).add j = ⟨kp, i * 256 + j, none⟩ := by unfold Addr.add; split <;> simp_all
  rw [e, h.pages.cell (by omega)]
  unfold Dv.pcell
  rw [show (i * 256 + j) / 256 = i by omega, show (i * 256 + j) % 256 = j by omega, ← hu, bys_at _ _ (by rw [h.plen i hi]; exact hj)]
  simp [List.getD, List.getElem?_eq_getElem (show j < (D.pg i).length by rw [h.plen i hi]; exact hj)]

theorem DevAt.set_ops (h : DevAt w B0 B D k kb kp km) (hB : B ≤ w.heap.size) (n : Nat) (hn : D.ops ≤ n) : DevAt (w.setCell ⟨k, 6, none⟩ (.int .i64 (n : Int))) B0 B { D with ops := n } k kb kp km := by
  obtain ⟨n1, n2, _⟩ := h.ne
  exact ⟨h.right, h.lo, h.hi, heap_set h.box 6 _, h.blocks.kept (Below.heap_setCell _ _ _ _ (Ne.symm n1)), h.pages.kept (Below.heap_setCell _ _ _ _ (Ne.symm n2)), h.plen, h.next, fun i hi => Nat.le_trans (h.wear i hi) hn, h.faults_tch hB (Tch.set (by simp) _)⟩
theorem DevAt.set_down (h : DevAt w B0 B D k kb kp km) (hB : B ≤ w.heap.size) (b : Bool) : DevAt (w.setCell ⟨k, 7, none⟩ (.bool b)) B0 B { D with dn := b } k kb kp km := by
  obtain ⟨n1, n2, _⟩ := h.ne
  exact ⟨h.right, h.lo, h.hi, heap_set h.box 7 _, h.blocks.kept (Below.heap_setCell _ _ _ _ (Ne.symm n1)), h.pages.kept (Below.heap_setCell _ _ _ _ (Ne.symm n2)), h.plen, h.next, h.wear, h.faults_tch hB (Tch.set (by simp) _)⟩
theorem DevAt.set_mark (h : DevAt w B0 B D k kb kp km) (hB : B ≤ w.heap.size) (i : Nat) (b : Bool) : DevAt (w.setCell ⟨kb, i * 3, none⟩ (.bool b)) B0 B { D with bad := upd D.bad i b } k kb kp km := by
  obtain ⟨n1, n2, n3, _⟩ := h.ne
  refine ⟨h.right, h.lo, h.hi, (Below.heap_setCell _ _ _ _ n1).trans h.box, (h.blocks.set _ _).congr fun j hj => ?_, h.pages.kept (Below.heap_setCell _ _ _ _ (Ne.symm n3)), h.plen, h.next, h.wear, h.faults_tch hB (Tch.set (by simp) _)⟩
  unfold Dv.bcell upd
  by_cases e : j = i * 3
  · subst e
    rw [if_pos rfl, if_pos (by omega), show i * 3 / 3 = i by omega]
    simp
  · rw [if_neg e]
    by_cases h3 : j % 3 = 0
    · rw [if_pos h3, if_pos h3]
      simp only
      rw [if_neg (by omega)]
    · rw [if_neg h3, if_neg h3]
theorem DevAt.set_next (h : DevAt w B0 B D k kb kp km) (hB : B ≤ w.heap.size) (i n : Nat) (hn : n ≤ D.np) : DevAt (w.setCell ⟨kb, i * 3 + 1, none⟩ (.int .i64 (n : Int))) B0 B { D with nx := upd D.nx i n } k kb kp km := by
  obtain ⟨n1, n2, n3, _⟩ := h.ne
  refine ⟨h.right, h.lo, h.hi, (Below.heap_setCell _ _ _ _ n1).trans h.box, (h.blocks.set _ _).congr fun j hj => ?_, h.pages.kept (Below.heap_setCell _ _ _ _ (Ne.symm n3)), h.plen, fun j hj => ?_, h.wear, h.faults_tch hB (Tch.set (by simp) _)⟩
  · unfold Dv.bcell upd
    by_cases e : j = i * 3 + 1
    · subst e
      rw [if_pos rfl, if_neg (by omega), if_pos (by omega), show (i * 3 + 1) / 3 = i by omega]
      simp
    · rw [if_neg e]
      by_cases h3 : j % 3 = 0
      · rw [if_pos h3, if_pos h3]
      · rw [if_neg h3, if_neg h3]
        by_cases h4 : j % 3 = 1
        · rw [if_pos h4, if_pos h4]
          simp only
          rw [if_neg (by omega)]
        · rw [if_neg h4, if_neg h4]
  · show upd D.nx i n j ≤ D.np
    unfold upd
    split
    · exact hn
    · exact h.next j hj
theorem DevAt.set_wear (h : DevAt w B0 B D k kb kp km) (hB : B ≤ w.heap.size) (i n : Nat) (hn : n ≤ D.ops) : DevAt (w.setCell ⟨kb, i * 3 + 2, none⟩ (.int .i64 (n : Int))) B0 B { D with we := upd D.we i n } k kb kp km := by
  obtain ⟨n1, n2, n3, _⟩ := h.ne
  refine ⟨h.right, h.lo, h.hi, (Below.heap_setCell _ _ _ _ n1).trans h.box, (h.blocks.set _ _).congr fun j hj => ?_, h.pages.kept (Below.heap_setCell _ _ _ _ (Ne.symm n3)), h.plen, h.next, fun j hj => ?_, h.faults_tch hB (Tch.set (by simp) _)⟩
  · unfold Dv.bcell upd
    by_cases e : j = i * 3 + 2
    · subst e
      rw [if_pos rfl, if_neg (by omega), if_neg (by omega), show (i * 3 + 2) / 3 = i by omega]
      simp
    · rw [if_neg e]
      by_cases h3 : j % 3 = 0
      · rw [if_pos h3, if_pos h3]
      · rw [if_neg h3, if_neg h3]
        by_cases h4 : j % 3 = 1
        · rw [if_pos h4, if_pos h4]
        · rw [if_neg h4, if_neg h4]
          simp only
          rw [if_neg (by omega)]
  · show upd D.we i n j ≤ D.ops
    unfold upd
    split
    · exact hn
    · exact h.wear j hj
/-- A page written over. -/
theorem DevAt.set_page (h : DevAt w B0 B D k kb kp km) (hB : B ≤ w.heap.size) (i : Nat) (q : List UInt8) (hq : q.length = 256) : DevAt (w.setCells kp (i * 256) (bys q)) B0 B { D with pg := upd D.pg i q } k kb kp km := by
  obtain ⟨n1, n2, n3, _⟩ := h.ne
  have ht : Tch [kp] w (w.setCells kp (i * 256) (bys q)) := Tch.setCells (by simp) _ _ _
  have hs := h.hi
  refine ⟨h.right, h.lo, h.hi, (ht.block _ (by omega) (by simpa using n2)).trans h.box, h.blocks.kept (ht.block _ (by omega) (by simpa using n3)), (h.pages.setCells (bys q) (i * 256) w _).congr fun j hj => ?_, fun j hj => ?_, h.next, h.wear, h.faults_tch hB (ht.mono (by simp))⟩
  · rw [bys_len, hq]
    unfold Dv.pcell upd
    by_cases e : j / 256 = i
    · subst e
      rw [if_pos (by omega), show j - j / 256 * 256 = j % 256 by omega]
      simp only [if_pos]
      rw [List.getD_eq_getElem?_getD, bys_at _ _ (by omega)]
      simp [List.getD, List.getElem?_eq_getElem (show j % 256 < q.length by omega)]
    · rw [if_neg (by omega)]
      simp only
      rw [if_neg e]
  · show (upd D.pg i q j).length = 256
    unfold upd
    split
    · exact hq
    · exact h.plen j hj
end

/-- What begins: the fault's kind and mask; how it ends. -/
def Dv.kind (D : Dv) : Int := (D.ft D.ops).1
def Dv.mask (D : Dv) : List UInt8 := if D.kind = 1 ∨ D.kind = 2 then (D.ft D.ops).2 else [255]
def Dv.err (D : Dv) : Int := if D.kind = 1 then 10 else if D.kind = 2 then 9 else 0
def Dv.begun (D : Dv) : Dv := { D with ops := D.ops + 1, dn := if D.kind = 1 then D.dn else if D.kind = 2 then true else D.dn }
end
section
open Go.RowKit

/-- A struct out of the midst of a block. -/
theorem wpl_load_mid {P : Program} {ops : Array Oper} {rest : List Oper} {op : Oper} {a : Act} {w : World} {Q : Exit → Act → World → Prop} (hgd : op.guard = none) (ty : TypeId) (x : Operand) (ho : op.op = .load ty x) (b k : Nat) (cs : List Value) (hc : w.rangeAt b k cs)
    (hx : a.eval x = .pointer (some ⟨b, k, none⟩)) (d : TypeDesc) (hu : P.underlying ty = some d) (hd : d.isRow = true) (n : Nat) (hi : (P.info? ty).map (·.size) = some n) (hn : cs.length = n)
    (h : wpList P ops Q rest (a.put op.dst (.agg cs.toArray)) w) : wpList P ops Q (op :: rest) a w :=
  wpList_load_mid hgd ty x ho b k hx cs d hc hu hd (by rw [hi, hn]) h
end
section
open Go.RowKit

theorem i64w {n : Int} (h : -9223372036854775808 ≤ n ∧ n ≤ 9223372036854775807) : wrap64 n = n := by unfold wrap64; omega

/-- A result that lies in a cell of its own. -/
theorem results_cell1 {fn : Func} {p : Tmp} {ty : TypeId} (h : fn.results = #[.cell p ty]) (tmps : Array Value) (P : Program) (w : World) :
    (results fn tmps).run P w = ((asAddr (tmps.getD p undef)).run P w).andThen fun a w₁ => (loadVar ty a).run P w₁ := by
  simp only [results, h]
  simp [Sem.run_bind, Result.andThen]

section
variable {w : World} {B0 B : Nat} {D : Dv} {k kb kp km : Nat}
theorem block_none (h : DevAt w B0 B D k kb kp km) (z : Int) (hz : ¬ (0 ≤ z ∧ z < (D.nb : Int))) : Calls Tryz.prog 43 #[.pointer (some ⟨k, 0, none⟩), .int .i64 z] w fun e w' => e = .returned (.pointer none) ∧ w = w' := by
  have c3 := h.c3
  clear h
  generalize D.nb = n at *
  by_cases h0 : z < 0
  · clear hz
    go_enter Tryz.func43, Tryz.ntmps43
    go_wp2
    go_ret
    exact ⟨rfl, rfl⟩
  · have h1 : (n : Int) ≤ z := by omega
    clear hz
    go_enter Tryz.func43, Tryz.ntmps43
    go_wp2
    go_ret
    exact ⟨rfl, rfl⟩
theorem block_some (h : DevAt w B0 B D k kb kp km) (i : Nat) (hi : i < D.nb) : Calls Tryz.prog 43 #[.pointer (some ⟨k, 0, none⟩), .int .i64 (i : Int)] w fun e w' => e = .returned (.pointer (some ⟨kb, i * 3, none⟩)) ∧ w = w' := by
  have c3 := h.c3
  clear h
  generalize D.nb = n at *
  have h0 : ¬ (i : Int) < 0 := by omega
  have h1 : ¬ (n : Int) ≤ (i : Int) := by omega
  have h2 : (i : Int) < (n : Int) := by omega
  clear hi
  go_enter Tryz.func43, Tryz.ntmps43
  go_wp2
  go_ret
  exact ⟨rfl, rfl⟩

theorem marked_some (h : DevAt w B0 B D k kb kp km) (i : Nat) (hi : i < D.nb) : Calls Tryz.prog 56 #[.pointer (some ⟨k, 0, none⟩), .int .i64 (i : Int)] w fun e w' => e = .returned (.bool (D.bad i)) ∧ w = w' := by
  have fb := block_some h i hi
  have c := h.b0 hi
  clear h
  go_enter Tryz.func56, Tryz.ntmps56
  go_wp2_with (go_at_call 43; (with_reducible refine fb.mono ?_); rintro e w2 ⟨rfl, rfl⟩; clear fb)
  go_ret
  exact ⟨rfl, rfl⟩

theorem next_some (h : DevAt w B0 B D k kb kp km) (i : Nat) (hi : i < D.nb) : Calls Tryz.prog 48 #[.pointer (some ⟨k, 0, none⟩), .int .i64 (i : Int)] w fun e w' => e = .returned (.int .i64 (D.nx i : Int)) ∧ w = w' := by
  have fb := block_some h i hi
  have c := h.b1 hi
  clear h
  go_enter Tryz.func48, Tryz.ntmps48
  go_wp2_with (go_at_call 43; (with_reducible refine fb.mono ?_); rintro e w2 ⟨rfl, rfl⟩; clear fb)
  go_ret
  exact ⟨rfl, rfl⟩

theorem ops_any (h : DevAt w B0 B D k kb kp km) : Calls Tryz.prog 24 #[.pointer (some ⟨k, 0, none⟩)] w fun e w' => e = .returned (.int .i64 (D.ops : Int)) ∧ w = w' := by
  have c := h.c6
  clear h
  go_enter Tryz.func24, Tryz.ntmps24
  go_wp2
  go_ret
  exact ⟨rfl, rfl⟩

theorem down_any (h : DevAt w B0 B D k kb kp km) : Calls Tryz.prog 25 #[.pointer (some ⟨k, 0, none⟩)] w fun e w' => e = .returned (.bool D.dn) ∧ w = w' := by
  have c := h.c7
  clear h
  go_enter Tryz.func25, Tryz.ntmps25
  go_wp2
  go_ret
  exact ⟨rfl, rfl⟩

theorem infoG : (Tryz.prog.info? 40).map (·.size) = some 3 := by kernel_rfl
theorem sides_any (h : DevAt w B0 B D k kb kp km) : Calls Tryz.prog 49 #[.pointer (some ⟨k, 0, none⟩)] w fun e w' => e = .returned D.g.val ∧ Below w.heap.size w w' := by
  have R := World.rangeAt_alloc h.range (.cells #[.int .i64 0, .int .i64 0, .int .i64 0] 40)
  have Hb := hide (fun o => (Below.refl w.heap.size w).alloc (Nat.le_refl _) o)
  clear h
  unfold Gm.val Gm.cells at *
  go_enter Tryz.func49, Tryz.ntmps49
  go_wp2_with (with_reducible refine wpl_load_mid rfl 40 (.tmp 8) rfl k 0 _ R rfl _ Tryz.underlying40 rfl 3 infoG (by with_unfolding_all rfl) ?_)
  refine bodyPost_ret (v := .agg #[.int .i64 D.g.b, .int .i64 D.g.p, .int .i64 D.g.r]) ?_ rfl ⟨rfl, ?_⟩
  · rw [results_cell1 rfl]
    go_simp
  · repeat (refine Below.setCell ?_ (by simp) _)
    exact Hb.out _

theorem power_any (h : DevAt w B0 B D k kb kp km) (hB : B ≤ w.heap.size) : Calls Tryz.prog 27 #[.pointer (some ⟨k, 0, none⟩)] w fun e w' => e = .returned (.tuple #[]) ∧ DevAt w' B0 B { D with dn := false } k kb kp km ∧ Tch [k, kb, kp] w w' := by
  have c7 := h.c7
  have f7 := h.f 7
  have Hn := hide (h.set_down hB false)
  clear h
  go_enter Tryz.func27, Tryz.ntmps27
  go_wp2
  go_end0
  exact ⟨rfl, Hn.out, Tch.set (by simp) _⟩
end
end
section
open Go.RowKit

theorem cov_trans {a b c : List UInt8} (h : covB a b = true) (h2 : covB b c = true) : covB a c = true := by
  rw [covB_iff] at *
  exact ⟨h.1.trans h2.1, fun i hi => Nat.le_trans (h2.2 i hi) (h.2 i (by rw [h2.1]; exact hi))⟩
theorem cov_eras {a b : List UInt8} (m : List UInt8) (h : covB a b = true) : covB (erasL a m) b = true := cov_trans (eras_covers a m) h
theorem mix_all (x : UInt8) : mixB x 255 255 = 255 := by
  apply UInt8.toNat_inj.1
  rw [mixB_toNat]
  show x.toNat &&& 0 ||| 255 = 255
  rw [Nat.and_zero]
  rfl
theorem eras_all (o : List UInt8) (ho : o.length = 256) : erasL o [255] = List.replicate 256 255 := by
  unfold erasL
  rw [ho]
  apply List.ext_getElem
  · rw [List.length_map, List.length_range, List.length_replicate]
  · intro j h1 h2
    rw [List.getElem_map, List.getElem_range, List.getElem_replicate]
    unfold erasB maskB
    rw [if_neg (by decide), List.length_singleton, Nat.mod_one]
    exact mix_all _
theorem pos_inj {x x2 y y2 np : Nat} (hy : y < np) (hy2 : y2 < np) (h : x * np + y = x2 * np + y2) : x = x2 ∧ y = y2 := by
  have h1 : (x * np + y) / np = x := by rw [Nat.mul_comm, Nat.mul_add_div (by omega), Nat.div_eq_of_lt hy]; rfl
  have h2 : (x2 * np + y2) / np = x2 := by rw [Nat.mul_comm, Nat.mul_add_div (by omega), Nat.div_eq_of_lt hy2]; rfl
  have h3 : x = x2 := by rw [← h1, h, h2]
  subst h3
  exact ⟨rfl, by omega⟩

theorem rep_getD (j : Nat) (hj : j < 256) : (List.replicate 256 (255 : UInt8)).getD j 0 = 255 := by
  rw [List.getD_eq_getElem?_getD, List.getElem?_replicate, if_pos hj]; rfl
theorem lt_mul {x y nb np : Nat} (hx : x < nb) (hy : y < np) : x * np + y < nb * np := by
  have : (x + 1) * np ≤ nb * np := Nat.mul_le_mul_right _ hx
  rw [Nat.add_mul] at this
  omega
end
section
open Go.RowKit
open Go.Sort

section
variable {w : World} {B0 B : Nat} {D : Dv} {k kb kp km : Nat}
theorem Gm.place_nat {g : Gm} (h : g.Right) {x y nb np : Nat} (hb : g.b = (nb : Int)) (hp : g.p = (np : Int)) (hx : x < nb) (hy : y < np) : g.place (x : Int) (y : Int) = ((x * np + y : Nat) : Int) := by
  rw [Gm.place_ok h ⟨by omega, by omega, by omega, by omega⟩, hp]
  simp
set_option maxHeartbeats 1000000 in
theorem bytes_any (h : DevAt w B0 B D k kb kp km) (hB : B ≤ w.heap.size) (x y : Nat) (hx : x < D.nb) (hy : y < D.np) :
    Calls Tryz.prog 76 #[.pointer (some ⟨k, 0, none⟩), .agg #[.int .i64 (x : Int), .int .i64 (y : Int)]] w fun e w' => e = .returned (.slice (some ⟨kp, (x * D.np + y) * 256, none⟩) 256 256) ∧ Below w.heap.size w w' := by
  obtain ⟨s1, s2, s3, s4, s5, s6⟩ := h.sides
  have hk := h.hi.1
  have fp := fun W => place_any D.g (x : Int) (y : Int) W
  rw [Gm.place_nat h.right s5 s6 hx hy] at fp
  have hlt := lt_mul hx hy
  have hbig : D.nb * D.np ≤ 34 * 32 := Nat.mul_le_mul s2 s4
  have b1 := (Below.refl w.heap.size w).alloc (Nat.le_refl _) (.cells #[.int .i64 (x : Int), .int .i64 (y : Int)] 98)
  have Hb1 := hide b1
  have h1 := h.below (b1.mono hB)
  have c0 := h1.c0
  have c1 := h1.c1
  have c2 := h1.c2
  have c4 := h1.c4
  generalize hi : x * D.np + y = i at *
  generalize D.nb * D.np = n at *
  have p0 : (w.alloc (.cells #[.int .i64 (x : Int), .int .i64 (y : Int)] 98)).cell? ⟨w.heap.size, 0, none⟩ = some (.int .i64 (x : Int)) := by simp
  have p1 : (w.alloc (.cells #[.int .i64 (x : Int), .int .i64 (y : Int)] 98)).cell? ⟨w.heap.size, 1, none⟩ = some (.int .i64 (y : Int)) := by simp
  generalize hw1 : w.alloc (.cells #[.int .i64 (x : Int), .int .i64 (y : Int)] 98) = w1 at *
  have HW := hide hw1
  have q0 := fun d os => cell_regrown c0 d os
  have q1 := fun d os => cell_regrown c1 d os
  have q2 := fun d os => cell_regrown c2 d os
  have q4 := fun d os => cell_regrown c4 d os
  have r0 := fun d os => cell_regrown p0 d os
  have r1 := fun d os => cell_regrown p1 d os
  have hlt' : (i : Int) < (n : Int) := by omega
  rcases D with ⟨⟨gb, gp, gr⟩, D1, D2, D3, D4, D5, D6, D7⟩
  simp only [Gm.val] at *
  clear h h1 c0 c1 c2 c4 p0 p1 s1 s2 s3 s4 s5 s6 hk hi hbig b1 hx hy hlt hB
  go_enter Tryz.func76, Tryz.ntmps76
  go_upto_region 1 with fail
  clear hw1
  refine wp_region_quiet_below (by kernel_rfl) (by kernel_rfl) ?_
  repeat (go_big_quiet_step (exact Calls.regrown_of (fp _)))
  refine wpQuiet_nil ?_
  intro _ hw'
  obtain ⟨⟨dq, osq⟩, hw''⟩ := hw'
  subst hw''
  go_wp2
  go_ret
  exact ⟨rfl, Hb1.out.trans ((below_regrown w1 dq osq).mono Hb1.out.size)⟩

/-- What a page that is looked for answers. -/
def Dv.look (D : Dv) (x y : Int) : Int := if D.dn = true then 9 else if D.g.Has x y then 0 else 3

theorem page_down (h : DevAt w B0 B D k kb kp km) (hB : B ≤ w.heap.size) (x y : Int) (hd : D.dn = true) :
    Calls Tryz.prog 73 #[.pointer (some ⟨k, 0, none⟩), .agg #[.int .i64 x, .int .i64 y]] w fun e w' => e = .returned (.tuple #[.slice none 0 0, .int .i64 9]) ∧ Below w.heap.size w w' := by
  have b1 := (Below.refl w.heap.size w).alloc (Nat.le_refl _) (.cells #[.int .i64 x, .int .i64 y] 98)
  have Hb1 := hide b1
  have c7 := (h.below (b1.mono hB)).c7
  rw [hd] at c7
  clear h b1 hd hB
  go_enter Tryz.func73, Tryz.ntmps73
  go_wp2
  go_ret2
  exact ⟨rfl, Hb1.out⟩

set_option maxHeartbeats 1000000 in
theorem page_out (h : DevAt w B0 B D k kb kp km) (hB : B ≤ w.heap.size) (x y : Int) (hd : D.dn = false) (hx : ¬ D.g.Has x y) :
    Calls Tryz.prog 73 #[.pointer (some ⟨k, 0, none⟩), .agg #[.int .i64 x, .int .i64 y]] w fun e w' => e = .returned (.tuple #[.slice none 0 0, .int .i64 3]) ∧ Below w.heap.size w w' := by
  have hk := h.hi.1
  have fp := fun W => place_any D.g x y W
  rw [Gm.place_none hx] at fp
  have b1 := (Below.refl w.heap.size w).alloc (Nat.le_refl _) (.cells #[.int .i64 x, .int .i64 y] 98)
  have Hb1 := hide b1
  have h1 := h.below (b1.mono hB)
  have c0 := h1.c0
  have c1 := h1.c1
  have c2 := h1.c2
  have c7 := h1.c7
  rw [hd] at c7
  have p0 : (w.alloc (.cells #[.int .i64 x, .int .i64 y] 98)).cell? ⟨w.heap.size, 0, none⟩ = some (.int .i64 x) := by simp
  have p1 : (w.alloc (.cells #[.int .i64 x, .int .i64 y] 98)).cell? ⟨w.heap.size, 1, none⟩ = some (.int .i64 y) := by simp
  generalize hw1 : w.alloc (.cells #[.int .i64 x, .int .i64 y] 98) = w1 at *
  have q0 := fun d os => cell_regrown c0 d os
  have q1 := fun d os => cell_regrown c1 d os
  have q2 := fun d os => cell_regrown c2 d os
  have r0 := fun d os => cell_regrown p0 d os
  have r1 := fun d os => cell_regrown p1 d os
  rcases D with ⟨⟨gb, gp, gr⟩, D1, D2, D3, D4, D5, D6, D7⟩
  simp only [Gm.val] at *
  clear h h1 c0 c1 c2 p0 p1 hk b1 hx hB hd
  go_enter Tryz.func73, Tryz.ntmps73
  go_upto_region 5 with fail
  clear hw1 c7
  refine wp_region_quiet_below (by kernel_rfl) (by kernel_rfl) ?_
  repeat (go_big_quiet_step (exact Calls.regrown_of (fp _)))
  refine wpQuiet_nil ?_
  intro _ hw'
  obtain ⟨⟨dq, osq⟩, hw''⟩ := hw'
  subst hw''
  go_wp2
  go_ret2
  exact ⟨rfl, Hb1.out.trans ((below_regrown w1 dq osq).mono Hb1.out.size)⟩

set_option maxHeartbeats 1000000 in
theorem page_ok (h : DevAt w B0 B D k kb kp km) (hB : B ≤ w.heap.size) (x y : Nat) (hd : D.dn = false) (hx : x < D.nb) (hy : y < D.np) :
    Calls Tryz.prog 73 #[.pointer (some ⟨k, 0, none⟩), .agg #[.int .i64 (x : Int), .int .i64 (y : Int)]] w fun e w' => e = .returned (.tuple #[.slice (some ⟨kp, (x * D.np + y) * 256, none⟩) 256 256, .int .i64 0]) ∧ Below w.heap.size w w' := by
  obtain ⟨s1, s2, s3, s4, s5, s6⟩ := h.sides
  have hk := h.hi.1
  have fp := fun W => place_any D.g (x : Int) (y : Int) W
  rw [Gm.place_nat h.right s5 s6 hx hy] at fp
  have hpos : ¬ ((x * D.np + y : Nat) : Int) < 0 := by omega
  have b1 := (Below.refl w.heap.size w).alloc (Nat.le_refl _) (.cells #[.int .i64 (x : Int), .int .i64 (y : Int)] 98)
  have Hb1 := hide b1
  have h1 := h.below (b1.mono hB)
  have HB := hide (Nat.le_trans hB b1.size)
  have Fb := hide (fun W (hb : Below (w.alloc (.cells #[.int .i64 (x : Int), .int .i64 (y : Int)] 98)).heap.size (w.alloc (.cells #[.int .i64 (x : Int), .int .i64 (y : Int)] 98)) W) => bytes_any (h1.below (hb.mono HB.out)) (Nat.le_trans HB.out hb.size) x y hx hy)
  have c0 := h1.c0
  have c1 := h1.c1
  have c2 := h1.c2
  have c7 := h1.c7
  rw [hd] at c7
  generalize hi : x * D.np + y = i at *
  have p0 : (w.alloc (.cells #[.int .i64 (x : Int), .int .i64 (y : Int)] 98)).cell? ⟨w.heap.size, 0, none⟩ = some (.int .i64 (x : Int)) := by simp
  have p1 : (w.alloc (.cells #[.int .i64 (x : Int), .int .i64 (y : Int)] 98)).cell? ⟨w.heap.size, 1, none⟩ = some (.int .i64 (y : Int)) := by simp
  generalize hw1 : w.alloc (.cells #[.int .i64 (x : Int), .int .i64 (y : Int)] 98) = w1 at *
  have q0 := fun d os => cell_regrown c0 d os
  have q1 := fun d os => cell_regrown c1 d os
  have q2 := fun d os => cell_regrown c2 d os
  have r0 := fun d os => cell_regrown p0 d os
  have r1 := fun d os => cell_regrown p1 d os
  rcases D with ⟨⟨gb, gp, gr⟩, D1, D2, D3, D4, D5, D6, D7⟩
  simp only [Gm.val] at *
  clear h h1 c0 c1 c2 p0 p1 s1 s2 s3 s4 s5 s6 hk hi b1 hx hy hB hd HB
  go_enter Tryz.func73, Tryz.ntmps73
  go_upto_region 5 with fail
  clear hw1 c7
  refine wp_region_quiet_below (by kernel_rfl) (by kernel_rfl) ?_
  repeat (go_big_quiet_step (exact Calls.regrown_of (fp _)))
  refine wpQuiet_nil ?_
  intro _ hw'
  obtain ⟨⟨dq, osq⟩, hw''⟩ := hw'
  subst hw''
  have Fb2 := hide (Fb.out _ (below_regrown w1 dq osq))
  have Hb2 := hide (Hb1.out.trans ((below_regrown w1 dq osq).mono Hb1.out.size))
  have y0 := r0 dq osq
  have y1 := r1 dq osq
  clear q0 q1 q2 r0 r1 Fb Hb1 fp
  generalize grow (redrawn w1 dq) osq = w2 at *
  go_wp2_with fail
  (with_reducible refine Fb2.out.mono ?_)
  rintro e w3 ⟨rfl, hb⟩
  have Hb3 := hide (Hb2.out.trans (hb.mono Hb2.out.size))
  clear hb Fb2 Hb2
  go_wp2
  go_ret2
  exact ⟨rfl, Hb3.out⟩

theorem read_ok (h : DevAt w B0 B D k kb kp km) (hB : B ≤ w.heap.size) (x y : Nat) (hd : D.dn = false) (hx : x < D.nb) (hy : y < D.np) :
    Calls Tryz.prog 87 #[.pointer (some ⟨k, 0, none⟩), .agg #[.int .i64 (x : Int), .int .i64 (y : Int)]] w fun e w' => ∃ A' c', e = .returned (.tuple #[.slice A' 256 c', .int .i64 0]) ∧
      w'.ownsRow w.heap.size 5 1 (.slice A' 256 c') 256 (bys (D.pg (x * D.np + y))) ∧ Below w.heap.size w w' := by
  have b1 := (Below.refl w.heap.size w).alloc (Nat.le_refl _) (.cells #[.int .i64 (x : Int), .int .i64 (y : Int)] 98)
  have Hb1 := hide b1
  have h1 := h.below (b1.mono hB)
  have hB1 := Nat.le_trans hB b1.size
  have Hp := hide (page_ok h1 hB1 x y hd hx hy)
  have hlt := lt_mul hx hy
  have Hl := hide (fun W (hb : Below (w.alloc (.cells #[.int .i64 (x : Int), .int .i64 (y : Int)] 98)).heap.size (w.alloc (.cells #[.int .i64 (x : Int), .int .i64 (y : Int)] 98)) W) => (h1.below (hb.mono hB1)).page hlt)
  have Hn := hide (h.plen _ hlt)
  clear h1 h b1 hB hB1 hlt hx hy hd
  generalize x * D.np + y = i at *
  generalize D.pg i = l at *
  go_enter Tryz.func87, Tryz.ntmps87
  go_wp2_with fail
  (with_reducible refine Hp.out.mono ?_)
  rintro e w3 ⟨rfl, hb⟩
  have Hl3 := hide (Hl.out _ hb)
  have Hb3 := hide (Hb1.out.trans (hb.mono Hb1.out.size))
  clear hb Hp Hb1 Hl
  go_wp2_with fail
  (with_reducible refine (clone_any _ 256 256 B (bys l) _ Hl3.out (by rw [bys_len, Hn.out]) (bys_one l) (by decide)).mono ?_)
  rintro e w4 ⟨v', rfl, ho, hb⟩
  obtain ⟨A', c', rfl, _⟩ := own_form ho
  have Ho := hide ho
  have Hb4 := hide (Hb3.out.trans (hb.mono Hb3.out.size))
  clear ho hb
  go_wp2
  go_ret2
  exact ⟨A', c', rfl, own_up Ho.out Hb3.out.size, Hb4.out⟩
end
end
end Go.Proofs.YtigpplckddnghaaGreat
