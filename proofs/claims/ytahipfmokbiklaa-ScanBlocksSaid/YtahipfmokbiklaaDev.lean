/-
  A RAW DEVICE as mathematics, and as it lies in memory. Nothing here speaks of one function.
-/
import Derived.Test.YtahipfmokbiklaaGeoP
import Derived.Test.YtahipfmokbiklaaTch
import Derived.Maps.OwnSet
import Derived.Maps.Views
import Derived.Laws.IdiomCopy
import Derived.Deep.MidRow
namespace Go.Proofs.Ytahipfmokbiklaa
open Go.RowKit
open Go.Maps (Keyed)

/-! ### the faults of a device -/
/-- Whatever value, told by itself. -/
def anyV (v : Value) : Option (DataW Value × List MemPlace) := some (.held v, [])
def noFault : Value := .agg #[.int .i64 0, .slice none 0 0]
theorem intKeyed : Keyed Try.prog 3 := Maps.int_keyed Try.underlying3
def i64s_ok (a : Int) : Prop := -9223372036854775808 ≤ a ∧ a ≤ 9223372036854775807
theorem wf_of {a : Int} (h : i64s_ok a) : (Lit.int .i64 a).wf = true := by
  simp only [Lit.wf, Bool.and_eq_true, decide_eq_true_eq]
  exact ⟨h.1, h.2⟩
theorem keyN {a : Int} (h : i64s_ok a) : keyOf Try.prog 3 (.int .i64 a) = some (.int .i64 a) := Maps.keyOf_int_mk Try.underlying3 (wf_of h)

/-- Block km is the map of the faults F; the masks lie below B. -/
def FaultsAt (w : World) (B km : Nat) (F : Int → Int × List UInt8) : Prop :=
  km < B ∧ ∃ n, ∃ M : DataW Value, w.ownsMap Try.prog 3 anyV km n M ∧ ∀ a, i64s_ok a → ∃ A m c, M.atKey (.int .i64 a) (.held noFault) = .held (.agg #[.int .i64 (F a).1, .slice A m c]) ∧ m = (F a).2.length ∧ LiesT w B A (F a).2
theorem FaultsAt.kept {w w' : World} {B km : Nat} {F : Int → Int × List UInt8} (h : FaultsAt w B km F) (hk : ∀ b, b < B → (∃ cs fr, w.heap[b]? = some (.cells cs 5 fr)) → w'.heap[b]? = w.heap[b]?) (hm : w'.heap[km]? = w.heap[km]?) : FaultsAt w' B km F := by
  obtain ⟨hB, n, M, ⟨es, clock, hb, r⟩, hF⟩ := h
  refine ⟨hB, n, M, ⟨es, clock, hm.trans hb, r⟩, fun a ha => ?_⟩
  obtain ⟨A, m, c, h1, h2, h3⟩ := hF a ha
  exact ⟨A, m, c, h1, h2, h3.kept hk⟩
theorem FaultsAt.is_map {w : World} {B km : Nat} {F : Int → Int × List UInt8} (h : FaultsAt w B km F) : ∃ es clock, w.heap[km]? = some (.map es clock) := by
  obtain ⟨_, n, M, ⟨es, clock, hb, _⟩, _⟩ := h
  exact ⟨es, clock, hb⟩

/-! ### a device -/
/-- What is known of a device: sides; of each block: bad from the first, the next page, wear; each page's bytes; the faults; operations begun; down. -/
structure Dv where
  g : Gm
  bad : Nat → Bool
  nx : Nat → Nat
  we : Nat → Nat
  pg : Nat → List UInt8
  ft : Int → Int × List UInt8
  ops : Nat
  dn : Bool
def Dv.nb (D : Dv) : Nat := D.g.b.toNat
def Dv.np (D : Dv) : Nat := D.g.p.toNat
def Dv.cells (D : Dv) (kb kp km : Nat) : Array Value :=
  #[.int .i64 D.g.b, .int .i64 D.g.p, .int .i64 D.g.r, .slice (some ⟨kb, 0, none⟩) D.nb D.nb, .slice (some ⟨kp, 0, none⟩) (D.nb * D.np) (D.nb * D.np), .map (some km), .int .i64 (D.ops : Int), .bool D.dn]
def Dv.bcell (D : Dv) (j : Nat) : Value := if j % 3 = 0 then .bool (D.bad (j / 3)) else if j % 3 = 1 then .int .i64 (D.nx (j / 3) : Int) else .int .i64 (D.we (j / 3) : Int)
def Dv.pcell (D : Dv) (j : Nat) : Value := .int .u8 (((D.pg (j / 256)).getD (j % 256) 0).toNat : Int)
/-- The function f with another value at i. -/
def upd {α : Type} (f : Nat → α) (i : Nat) (v : α) : Nat → α := fun j => if j = i then v else f j
theorem upd_same {α : Type} (f : Nat → α) (i : Nat) (v : α) : upd f i v i = v := if_pos rfl
theorem upd_other {α : Type} {f : Nat → α} {i j : Nat} {v : α} (h : j ≠ i) : upd f i v j = f j := if_neg h

/-- The device D lies at block k, its blocks at kb, its pages at kp, its faults at km; all of it from B0 on and below B. -/
structure DevAt (w : World) (B0 B : Nat) (D : Dv) (k kb kp km : Nat) : Prop where
  right : D.g.Right
  lo : B0 ≤ k ∧ B0 ≤ kb ∧ B0 ≤ kp
  hi : k < B ∧ kb < B ∧ kp < B
  box : w.heap[k]? = some (.cells (D.cells kb kp km) 95 (0, 0))
  blocks : RowF w kb 99 (3 * D.nb) D.bcell
  pages : RowF w kp 100 (256 * (D.nb * D.np)) D.pcell
  plen : ∀ i, i < D.nb * D.np → (D.pg i).length = 256
  next : ∀ i, i < D.nb → D.nx i ≤ D.np
  wear : ∀ i, i < D.nb → D.we i ≤ D.ops
  faults : FaultsAt w B km D.ft

section
variable {w w' : World} {B0 B : Nat} {D : Dv} {k kb kp km : Nat}
theorem DevAt.sides (h : DevAt w B0 B D k kb kp km) : 8 ≤ D.nb ∧ D.nb ≤ 34 ∧ 4 ≤ D.np ∧ D.np ≤ 32 ∧ D.g.b = (D.nb : Int) ∧ D.g.p = (D.np : Int) := by
  obtain ⟨h1, h2, h3, h4, _⟩ := h.right
  unfold Dv.nb Dv.np
  omega
theorem DevAt.ne (h : DevAt w B0 B D k kb kp km) : k ≠ kb ∧ k ≠ kp ∧ kb ≠ kp ∧ k ≠ km ∧ kb ≠ km ∧ kp ≠ km := by
  obtain ⟨cb, h1, _⟩ := h.blocks
  obtain ⟨cp, h2, _⟩ := h.pages
  obtain ⟨es, cl, h3⟩ := h.faults.is_map
  have h0 := h.box
  refine ⟨?_, ?_, ?_, ?_, ?_, ?_⟩ <;> rintro rfl
  · rw [h0] at h1; simp at h1
  · rw [h0] at h2; simp at h2
  · rw [h1] at h2; simp at h2
  · rw [h0] at h3; simp at h3
  · rw [h1] at h3; simp at h3
  · rw [h2] at h3; simp at h3
theorem DevAt.below (h : DevAt w B0 B D k kb kp km) (hb : Below B w w') : DevAt w' B0 B D k kb kp km :=
  ⟨h.right, h.lo, h.hi, (hb.block _ h.hi.1).trans h.box, h.blocks.kept (hb.block _ h.hi.2.1), h.pages.kept (hb.block _ h.hi.2.2), h.plen, h.next, h.wear, h.faults.kept (fun b hB _ => hb.block b hB) (hb.block _ h.faults.1)⟩
/-- The masks are kept while the device itself is written. -/
theorem DevAt.faults_tch (h : DevAt w B0 B D k kb kp km) (hB : B ≤ w.heap.size) (ht : Tch [k, kb, kp] w w') : FaultsAt w' B km D.ft := by
  obtain ⟨n1, n2, n3, n4, n5, n6⟩ := h.ne
  obtain ⟨cb, h1, _⟩ := h.blocks
  obtain ⟨cp, h2, _⟩ := h.pages
  have h0 := h.box
  refine h.faults.kept (fun b hb ⟨cs, fr, hc⟩ => ht.block b (by omega) ?_) (ht.block km (by have := h.faults.1; omega) ?_)
  · simp only [List.mem_cons, List.not_mem_nil, or_false, not_or]
    refine ⟨?_, ?_, ?_⟩ <;> rintro rfl
    · rw [h0] at hc; simp at hc
    · rw [h1] at hc; simp at hc
    · rw [h2] at hc; simp at hc
  · simp only [List.mem_cons, List.not_mem_nil, or_false, not_or]
    exact ⟨Ne.symm n4, Ne.symm n5, Ne.symm n6⟩

theorem DevAt.c (h : DevAt w B0 B D k kb kp km) (j : Nat) (v : Value) (hj : (D.cells kb kp km)[j]? = some v) : w.cell? ⟨k, j, none⟩ = some v := by
  have h0 := h.box
  simp [World.cell?, h0, hj]
theorem DevAt.f (h : DevAt w B0 B D k kb kp km) (j : Nat) : w.frozen? ⟨k, j, none⟩ = false := by
  have h0 := h.box
  simp [World.frozen?, h0]
theorem DevAt.c0 (h : DevAt w B0 B D k kb kp km) : w.cell? ⟨k, 0, none⟩ = some (.int .i64 D.g.b) := h.c 0 _ rfl
theorem DevAt.c1 (h : DevAt w B0 B D k kb kp km) : w.cell? ⟨k, 1, none⟩ = some (.int .i64 D.g.p) := h.c 1 _ rfl
theorem DevAt.c2 (h : DevAt w B0 B D k kb kp km) : w.cell? ⟨k, 2, none⟩ = some (.int .i64 D.g.r) := h.c 2 _ rfl
theorem DevAt.c3 (h : DevAt w B0 B D k kb kp km) : w.cell? ⟨k, 3, none⟩ = some (.slice (some ⟨kb, 0, none⟩) D.nb D.nb) := h.c 3 _ rfl
theorem DevAt.c4 (h : DevAt w B0 B D k kb kp km) : w.cell? ⟨k, 4, none⟩ = some (.slice (some ⟨kp, 0, none⟩) (D.nb * D.np) (D.nb * D.np)) := h.c 4 _ rfl
theorem DevAt.c5 (h : DevAt w B0 B D k kb kp km) : w.cell? ⟨k, 5, none⟩ = some (.map (some km)) := h.c 5 _ rfl
theorem DevAt.c6 (h : DevAt w B0 B D k kb kp km) : w.cell? ⟨k, 6, none⟩ = some (.int .i64 (D.ops : Int)) := h.c 6 _ rfl
theorem DevAt.c7 (h : DevAt w B0 B D k kb kp km) : w.cell? ⟨k, 7, none⟩ = some (.bool D.dn) := h.c 7 _ rfl
theorem DevAt.range (h : DevAt w B0 B D k kb kp km) : w.rangeAt k 0 D.g.cells := by
  intro j v hv
  rw [Nat.zero_add]
  have hj : j < 3 := (List.getElem?_eq_some_iff.1 hv).1
  refine h.c j v ?_
  rcases (by omega : j = 0 ∨ j = 1 ∨ j = 2) with rfl | rfl | rfl <;> exact hv
theorem DevAt.b0 (h : DevAt w B0 B D k kb kp km) {i : Nat} (hi : i < D.nb) : w.cell? ⟨kb, i * 3, none⟩ = some (.bool (D.bad i)) := by
  rw [h.blocks.cell (by omega)]
  unfold Dv.bcell
  rw [if_pos (by omega), show i * 3 / 3 = i by omega]
theorem DevAt.b1 (h : DevAt w B0 B D k kb kp km) {i : Nat} (hi : i < D.nb) : w.cell? ⟨kb, i * 3 + 1, none⟩ = some (.int .i64 (D.nx i : Int)) := by
  rw [h.blocks.cell (by omega)]
  unfold Dv.bcell
  rw [if_neg (by omega), if_pos (by omega), show (i * 3 + 1) / 3 = i by omega]
theorem DevAt.b2 (h : DevAt w B0 B D k kb kp km) {i : Nat} (hi : i < D.nb) : w.cell? ⟨kb, i * 3 + 2, none⟩ = some (.int .i64 (D.we i : Int)) := by
  rw [h.blocks.cell (by omega)]
  unfold Dv.bcell
  rw [if_neg (by omega), if_neg (by omega), show (i * 3 + 2) / 3 = i by omega]
/-- A page's bytes lie where they ought to. -/
theorem DevAt.page (h : DevAt w B0 B D k kb kp km) {i : Nat} (hi : i < D.nb * D.np) : Lies w B (some ⟨kp, i * 256, none⟩) (bys (D.pg i)) := by
  refine .inr ⟨_, rfl, h.hi.2.2, fun j u hu => ?_⟩
  have hj : j < 256 := by
    have := (List.getElem?_eq_some_iff.1 hu).1
    rwa [bys_len, h.plen i hi] at this
  have e : (⟨kp, i * 256, none⟩ : Addr).add j = ⟨kp, i * 256 + j, none⟩ := by unfold Addr.add; split <;> simp_all
  rw [e, h.pages.cell (by omega)]
  unfold Dv.pcell
  rw [show (i * 256 + j) / 256 = i by omega, show (i * 256 + j) % 256 = j by omega, ← hu, bys_at _ _ (by rw [h.plen i hi]; exact hj)]
  simp [List.getD, List.getElem?_eq_getElem (show j < (D.pg i).length by rw [h.plen i hi]; exact hj)]

theorem DevAt.set_ops (h : DevAt w B0 B D k kb kp km) (hB : B ≤ w.heap.size) (n : Nat) (hn : D.ops ≤ n) : DevAt (w.setCell ⟨k, 6, none⟩ (.int .i64 (n : Int))) B0 B { D with ops := n } k kb kp km := by
  obtain ⟨n1, n2, _⟩ := h.ne
  exact ⟨h.right, h.lo, h.hi, heap_set h.box 6 _, h.blocks.kept (Below.heap_setCell _ _ _ _ (Ne.symm n1)), h.pages.kept (Below.heap_setCell _ _ _ _ (Ne.symm n2)), h.plen, h.next, fun i hi => Nat.le_trans (h.wear i hi) hn, h.faults_tch hB (Tch.set (by simp) _)⟩
theorem DevAt.set_down (h : DevAt w B0 B D k kb kp km) (hB : B ≤ w.heap.size) (b : Bool) : DevAt (w.setCell ⟨k, 7, none⟩ (.bool b)) B0 B { D with dn := b } k kb kp km := by
  obtain ⟨n1, n2, _⟩ := h.ne
  exact ⟨h.right, h.lo, h.hi, heap_set h.box 7 _, h.blocks.kept (Below.heap_setCell _ _ _ _ (Ne.symm n1)), h.pages.kept (Below.heap_setCell _ _ _ _ (Ne.symm n2)), h.plen, h.next, h.wear, h.faults_tch hB (Tch.set (by simp) _)⟩
theorem DevAt.set_mark (h : DevAt w B0 B D k kb kp km) (hB : B ≤ w.heap.size) (i : Nat) (b : Bool) : DevAt (w.setCell ⟨kb, i * 3, none⟩ (.bool b)) B0 B { D with bad := upd D.bad i b } k kb kp km := by
  obtain ⟨n1, n2, n3, _⟩ := h.ne
  refine ⟨h.right, h.lo, h.hi, (Below.heap_setCell _ _ _ _ n1).trans h.box, (h.blocks.set _ _).congr fun j hj => ?_, h.pages.kept (Below.heap_setCell _ _ _ _ (Ne.symm n3)), h.plen, h.next, h.wear, h.faults_tch hB (Tch.set (by simp) _)⟩
  unfold Dv.bcell upd
  by_cases e : j = i * 3
  · subst e
    rw [if_pos rfl, if_pos (by omega), show i * 3 / 3 = i by omega]
    simp
  · rw [if_neg e]
    by_cases h3 : j % 3 = 0
    · rw [if_pos h3, if_pos h3]
      simp only
      rw [if_neg (by omega)]
    · rw [if_neg h3, if_neg h3]
theorem DevAt.set_next (h : DevAt w B0 B D k kb kp km) (hB : B ≤ w.heap.size) (i n : Nat) (hn : n ≤ D.np) : DevAt (w.setCell ⟨kb, i * 3 + 1, none⟩ (.int .i64 (n : Int))) B0 B { D with nx := upd D.nx i n } k kb kp km := by
  obtain ⟨n1, n2, n3, _⟩ := h.ne
  refine ⟨h.right, h.lo, h.hi, (Below.heap_setCell _ _ _ _ n1).trans h.box, (h.blocks.set _ _).congr fun j hj => ?_, h.pages.kept (Below.heap_setCell _ _ _ _ (Ne.symm n3)), h.plen, fun j hj => ?_, h.wear, h.faults_tch hB (Tch.set (by simp) _)⟩
  · unfold Dv.bcell upd
    by_cases e : j = i * 3 + 1
    · subst e
      rw [if_pos rfl, if_neg (by omega), if_pos (by omega), show (i * 3 + 1) / 3 = i by omega]
      simp
    · rw [if_neg e]
      by_cases h3 : j % 3 = 0
      · rw [if_pos h3, if_pos h3]
      · rw [if_neg h3, if_neg h3]
        by_cases h4 : j % 3 = 1
        · rw [if_pos h4, if_pos h4]
          simp only
          rw [if_neg (by omega)]
        · rw [if_neg h4, if_neg h4]
  · show upd D.nx i n j ≤ D.np
    unfold upd
    split
    · exact hn
    · exact h.next j hj
theorem DevAt.set_wear (h : DevAt w B0 B D k kb kp km) (hB : B ≤ w.heap.size) (i n : Nat) (hn : n ≤ D.ops) : DevAt (w.setCell ⟨kb, i * 3 + 2, none⟩ (.int .i64 (n : Int))) B0 B { D with we := upd D.we i n } k kb kp km := by
  obtain ⟨n1, n2, n3, _⟩ := h.ne
  refine ⟨h.right, h.lo, h.hi, (Below.heap_setCell _ _ _ _ n1).trans h.box, (h.blocks.set _ _).congr fun j hj => ?_, h.pages.kept (Below.heap_setCell _ _ _ _ (Ne.symm n3)), h.plen, h.next, fun j hj => ?_, h.faults_tch hB (Tch.set (by simp) _)⟩
  · unfold Dv.bcell upd
    by_cases e : j = i * 3 + 2
    · subst e
      rw [if_pos rfl, if_neg (by omega), if_neg (by omega), show (i * 3 + 2) / 3 = i by omega]
      simp
    · rw [if_neg e]
      by_cases h3 : j % 3 = 0
      · rw [if_pos h3, if_pos h3]
      · rw [if_neg h3, if_neg h3]
        by_cases h4 : j % 3 = 1
        · rw [if_pos h4, if_pos h4]
        · rw [if_neg h4, if_neg h4]
          simp only
          rw [if_neg (by omega)]
  · show upd D.we i n j ≤ D.ops
    unfold upd
    split
    · exact hn
    · exact h.wear j hj
/-- A page written over. -/
theorem DevAt.set_page (h : DevAt w B0 B D k kb kp km) (hB : B ≤ w.heap.size) (i : Nat) (q : List UInt8) (hq : q.length = 256) : DevAt (w.setCells kp (i * 256) (bys q)) B0 B { D with pg := upd D.pg i q } k kb kp km := by
  obtain ⟨n1, n2, n3, _⟩ := h.ne
  have ht : Tch [kp] w (w.setCells kp (i * 256) (bys q)) := Tch.setCells (by simp) _ _ _
  have hs := h.hi
  refine ⟨h.right, h.lo, h.hi, (ht.block _ (by omega) (by simpa using n2)).trans h.box, h.blocks.kept (ht.block _ (by omega) (by simpa using n3)), (h.pages.setCells (bys q) (i * 256) w _).congr fun j hj => ?_, fun j hj => ?_, h.next, h.wear, h.faults_tch hB (ht.mono (by simp))⟩
  · rw [bys_len, hq]
    unfold Dv.pcell upd
    by_cases e : j / 256 = i
    · subst e
      rw [if_pos (by omega), show j - j / 256 * 256 = j % 256 by omega]
      simp only [if_pos]
      rw [List.getD_eq_getElem?_getD, bys_at _ _ (by omega)]
      simp [List.getD, List.getElem?_eq_getElem (show j % 256 < q.length by omega)]
    · rw [if_neg (by omega)]
      simp only
      rw [if_neg e]
  · show (upd D.pg i q j).length = 256
    unfold upd
    split
    · exact hq
    · exact h.plen j hj
end

/-- What begins: the fault's kind and mask; how it ends. -/
def Dv.kind (D : Dv) : Int := (D.ft D.ops).1
def Dv.mask (D : Dv) : List UInt8 := if D.kind = 1 ∨ D.kind = 2 then (D.ft D.ops).2 else [255]
def Dv.err (D : Dv) : Int := if D.kind = 1 then 10 else if D.kind = 2 then 9 else 0
def Dv.begun (D : Dv) : Dv := { D with ops := D.ops + 1, dn := if D.kind = 1 then D.dn else if D.kind = 2 then true else D.dn }

end Go.Proofs.Ytahipfmokbiklaa
