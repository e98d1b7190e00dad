/-
  CONTRACT of package nand: New.
-/
import Derived.Test.YtahipfmokbiklaaDev9
import Derived.Test.YtahipfmokbiklaaOnes
import Derived.Laws.MakeOwn
namespace Go.Proofs.Ytahipfmokbiklaa
open Go.RowKit

/-- A device that is made, before anything is marked or erased. -/
def Dv.raw (g : Gm) (l : List Flt) : Dv := { g := g, bad := fun _ => false, nx := fun _ => 0, we := fun _ => 0, pg := fun _ => List.replicate 256 0, ft := firstF l, ops := 0, dn := false }
/-- A new device. -/
def Dv.fresh (g : Gm) (bl : List Int) (l : List Flt) : Dv := { Dv.raw g l with bad := fun i => decide ((i : Int) ∈ bl), pg := fun _ => List.replicate 256 255 }

theorem infoBlk : (Try.prog.info? 99).map (fun i => (i.zero, i.size, i.bytes)) = some (some (.agg #[.bool false, .int .i64 0, .int .i64 0]), 3, 24) := by kernel_rfl
theorem infoArr : (Try.prog.info? 100).map (fun i => (i.zero, i.size, i.bytes)) = some (some (.agg (Array.replicate 256 (.int .u8 0))), 256, 256) := by kernel_rfl

theorem made_at (z : Array Value) (n j : Nat) (hj : j < n) : (madeCells z n)[j]? = some (z[j % z.size]!) := by
  simp [madeCells, hj]

theorem make_blocks (w : World) (D : Dv) (n : Nat) (hn : n ≤ 34) (hz : (∀ i, D.bad i = false) ∧ (∀ i, D.nx i = 0) ∧ (∀ i, D.we i = 0) ∧ ∀ i, D.pg i = List.replicate 256 0) :
    (Instr.makeSlice 90 (.int .i64 (n : Int)) (.int .i64 (n : Int))).run Try.prog w = .ok (.slice (some ⟨w.heap.size, 0, none⟩) n n) (w.alloc (.cells (madeCells #[.bool false, .int .i64 0, .int .i64 0] (n * 3)) 99)) ∧
      RowF (w.alloc (.cells (madeCells #[.bool false, .int .i64 0, .int .i64 0] (n * 3)) 99)) w.heap.size 99 (3 * n) D.bcell := by
  obtain ⟨i0, hi, hz0, hz1, hz2⟩ := info_parts infoBlk
  constructor
  · have := run_make (P := Try.prog) w 90 99 i0 _ Try.underlying90 hi hz0 .i64 .i64 (n : Int) (n : Int) (by omega) (Int.le_refl _) (by rw [hz2]; omega) (by omega)
    rw [hz1, Int.toNat_natCast] at this
    exact this
  · refine RowF.new w _ _ _ _ (by rw [size_madeCells]; omega) (fun j hj => ?_)
    rw [made_at _ _ _ (by omega)]
    unfold Dv.bcell
    rw [hz.1, hz.2.1, hz.2.2.1]
    have h3 : (#[Value.bool false, .int .i64 0, .int .i64 0] : Array Value).size = 3 := rfl
    rw [h3]
    rcases (by omega : j % 3 = 0 ∨ j % 3 = 1 ∨ j % 3 = 2) with h | h | h <;> rw [h] <;> rfl
theorem make_pages (w : World) (D : Dv) (n : Nat) (hn : n ≤ 1088) (hz : (∀ i, D.bad i = false) ∧ (∀ i, D.nx i = 0) ∧ (∀ i, D.we i = 0) ∧ ∀ i, D.pg i = List.replicate 256 0) :
    (Instr.makeSlice 91 (.int .i64 (n : Int)) (.int .i64 (n : Int))).run Try.prog w = .ok (.slice (some ⟨w.heap.size, 0, none⟩) n n) (w.alloc (.cells (madeCells (Array.replicate 256 (.int .u8 0)) (n * 256)) 100)) ∧
      RowF (w.alloc (.cells (madeCells (Array.replicate 256 (.int .u8 0)) (n * 256)) 100)) w.heap.size 100 (256 * n) D.pcell := by
  obtain ⟨i0, hi, hz0, hz1, hz2⟩ := info_parts infoArr
  constructor
  · have := run_make (P := Try.prog) w 91 100 i0 _ Try.underlying91 hi hz0 .i64 .i64 (n : Int) (n : Int) (by omega) (Int.le_refl _) (by rw [hz2]; omega) (by omega)
    rw [hz1, Int.toNat_natCast] at this
    exact this
  · refine RowF.new w _ _ _ _ (by rw [size_madeCells]; omega) (fun j hj => ?_)
    rw [made_at _ _ _ (by omega)]
    unfold Dv.pcell
    rw [hz.2.2.2]
    have h3 : (Array.replicate 256 (Value.int .u8 0)).size = 256 := Array.size_replicate
    rw [h3]
    have hlt : j % 256 < 256 := Nat.mod_lt _ (by decide)
    rw [List.getD_eq_getElem?_getD, List.getElem?_replicate, if_pos hlt]
    rw [getElem!_pos _ _ (by rw [h3]; exact hlt), Array.getElem_replicate]
    rfl

theorem FaultsAt.grow {w w' : World} {km : Nat} {F : Int → Int × List UInt8} (h : FaultsAt w w.heap.size km F) (hb : Below w.heap.size w w') : FaultsAt w' w'.heap.size km F := by
  have h2 := h.kept (w' := w') (fun b hB _ => hb.block b hB) (hb.block km h.1)
  obtain ⟨h3, n, M, ho, hF⟩ := h2
  refine ⟨Nat.lt_of_lt_of_le h3 hb.size, n, M, ho, fun a ha => ?_⟩
  obtain ⟨A, m, c, e1, e2, e3⟩ := hF a ha
  exact ⟨A, m, c, e1, e2, e3.up hb.size⟩
theorem DevAt.up {w : World} {B0 B B' : Nat} {D : Dv} {k kb kp km : Nat} (h : DevAt w B0 B D k kb kp km) (hB : B ≤ B') : DevAt w B0 B' D k kb kp km := by
  refine ⟨h.right, h.lo, ?_, h.box, h.blocks, h.pages, h.plen, h.next, h.wear, ?_⟩
  · have := h.hi; omega
  · obtain ⟨h3, n, M, ho, hF⟩ := h.faults
    refine ⟨Nat.lt_of_lt_of_le h3 hB, n, M, ho, fun a ha => ?_⟩
    obtain ⟨A, m, c, e1, e2, e3⟩ := hF a ha
    exact ⟨A, m, c, e1, e2, e3.up hB⟩
theorem dev_new {w : World} {g : Gm} {l : List Flt} {D : Dv} {kb kp km S nb np N : Nat} (hb : RowF w kb 99 (3 * nb) D.bcell) (hp : RowF w kp 100 (256 * N) D.pcell) (hF : FaultsAt w w.heap.size km (firstF l)) (hD : D = Dv.raw g l ∧ D.nb = nb ∧ D.np = np) (hN : N = nb * np) (hR : g.Right)
    (h1 : S ≤ w.heap.size) (h2 : S ≤ kb) (h3 : S ≤ kp) : DevAt (w.alloc (.cells (D.cells kb kp km) 95)) S (w.alloc (.cells (D.cells kb kp km) 95)).heap.size D w.heap.size kb kp km := by
  obtain ⟨hD, rfl, rfl⟩ := hD
  subst hN
  have hbl := (Below.refl w.heap.size w).alloc (Nat.le_refl _) (.cells (D.cells kb kp km) 95)
  have hlb := hb.lt
  have hlp := hp.lt
  refine ⟨by rw [hD]; exact hR, ⟨h1, h2, h3⟩, by simp; omega, heap_alloc_new w _, hb.kept (hbl.block _ hlb), hp.kept (hbl.block _ hlp), fun i _ => by rw [hD]; exact List.length_replicate, fun i _ => by rw [hD]; exact Nat.zero_le _, fun i _ => by rw [hD]; exact Nat.zero_le _, ?_⟩
  have := hF.grow hbl
  rw [hD] at this ⊢
  exact this

theorem DevAt.bad_congr {w : World} {B0 B : Nat} {D : Dv} {k kb kp km : Nat} (h : DevAt w B0 B D k kb kp km) (f : Nat → Bool) (hf : ∀ i, i < D.nb → D.bad i = f i) : DevAt w B0 B { D with bad := f } k kb kp km := by
  refine ⟨h.right, h.lo, h.hi, h.box, h.blocks.congr fun j hj => ?_, h.pages, h.plen, h.next, h.wear, h.faults⟩
  unfold Dv.bcell
  simp only
  rw [hf (j / 3) (by omega)]
theorem DevAt.pg_congr {w : World} {B0 B : Nat} {D : Dv} {k kb kp km : Nat} (h : DevAt w B0 B D k kb kp km) (f : Nat → List UInt8) (hf : ∀ i, i < D.nb * D.np → D.pg i = f i) : DevAt w B0 B { D with pg := f } k kb kp km := by
  refine ⟨h.right, h.lo, h.hi, h.box, h.blocks, h.pages.congr fun j hj => ?_, fun i hi => ?_, h.next, h.wear, h.faults⟩
  · unfold Dv.pcell
    simp only
    rw [hf (j / 256) (by omega)]
  · show (f i).length = 256
    rw [← hf i hi]
    exact h.plen i hi
/-- Bytes 255 lie nowhere in a device whose pages are 0. -/
theorem dev_not255 {w : World} {B0 B : Nat} {D : Dv} {k kb kp km : Nat} (h : DevAt w B0 B D k kb kp km) (hz : ∀ i, D.pg i = List.replicate 256 0) {a : Addr} (hc : w.cell? a = some (.int .u8 255)) : a.block ∉ [k, kb, kp] := by
  rcases a with ⟨g, o, s⟩
  have hs : s = none := by
    cases s with
    | none => rfl
    | some s => exfalso; simp only [World.cell?] at hc; split at hc <;> simp at hc
  subst hs
  simp only [List.mem_cons, List.not_mem_nil, or_false, not_or]
  obtain ⟨cb, hb, hbs, hbc⟩ := h.blocks
  obtain ⟨cp, hp, hps, hpc⟩ := h.pages
  refine ⟨?_, ?_, ?_⟩ <;> rintro rfl
  · have h0 := h.box
    simp only [World.cell?, h0, Option.isSome_none, Bool.false_eq_true, if_false] at hc
    have ho : o < 8 := (Array.getElem?_eq_some_iff.1 hc).1
    rcases (by omega : o = 0 ∨ o = 1 ∨ o = 2 ∨ o = 3 ∨ o = 4 ∨ o = 5 ∨ o = 6 ∨ o = 7) with rfl | rfl | rfl | rfl | rfl | rfl | rfl | rfl <;> simp [Dv.cells] at hc
  · simp only [World.cell?, hb, Option.isSome_none, Bool.false_eq_true, if_false] at hc
    have ho : o < cb.size := (Array.getElem?_eq_some_iff.1 hc).1
    rw [hbc o (by omega)] at hc
    unfold Dv.bcell at hc
    split at hc
    · simp at hc
    · split at hc <;> simp at hc
  · simp only [World.cell?, hp, Option.isSome_none, Bool.false_eq_true, if_false] at hc
    have ho : o < cp.size := (Array.getElem?_eq_some_iff.1 hc).1
    rw [hpc o (by omega)] at hc
    unfold Dv.pcell at hc
    rw [hz, List.getD_eq_getElem?_getD, List.getElem?_replicate, if_pos (Nat.mod_lt _ (by decide))] at hc
    simp at hc
/-- An assignment. -/
theorem wp_assign_run {P : Program} {o : Oper} {a : Act} {w : World} {K : Act → World → Prop} {Q : Exit → Act → World → Prop} (x : Operand) (hop : o.op = .assign x) {v : Value} (hx : a.eval x = v) (h : K (a.put o.dst v) w) : o.wp P a w K Q := by
  unfold Oper.wp
  simp [execOp, hop, hx]
  exact h

set_option maxRecDepth 4000 in
set_option maxHeartbeats 4000000 in
theorem new_ok (g : Gm) (A A2 : Option Addr) (n c n2 c2 B : Nat) (bl : List Int) (l : List Flt) (w : World) (hg : g.Right) (hl1 : Lies w B A (i64s bl)) (hn : n = bl.length) (hn1 : n ≤ 1000)
    (hl : Lies w B A2 (l.flatMap Flt.cells)) (hn2 : n2 = l.length) (hn2b : n2 ≤ 1000) (hok : ∀ f ∈ l, f.Ok w B) (hB : B ≤ w.heap.size) :
    Calls Try.prog 21 #[g.val, .slice A n c, .slice A2 n2 c2] w fun e w' => ∃ k kb kp km, e = .returned (.tuple #[.pointer (some ⟨k, 0, none⟩), .int .i64 0]) ∧ DevAt w' w.heap.size w'.heap.size (Dv.fresh g bl l) k kb kp km ∧ Below w.heap.size w w' := by
  have Hc := hide (check_any g)
  rw [Gm.check_ok hg] at Hc
  have HR := hide hg
  obtain ⟨nb, np, hnb, hnp, hgb, hgp⟩ : ∃ nb np : Nat, nb ≤ 34 ∧ np ≤ 32 ∧ g.b = (nb : Int) ∧ g.p = (np : Int) := by
    obtain ⟨h1, h2, h3, h4, _⟩ := hg
    exact ⟨g.b.toNat, g.p.toNat, by omega, by omega, by omega, by omega⟩
  have hmn : nb * np ≤ 34 * 32 := Nat.mul_le_mul hnb hnp
  obtain ⟨N, hN⟩ : ∃ N, N = nb * np := ⟨_, rfl⟩
  rw [← hN] at hmn
  have HN := hide hN
  obtain ⟨D0, hD0⟩ : ∃ D0, D0 = Dv.raw g l := ⟨_, rfl⟩
  have HD0 : Hid (D0 = Dv.raw g l ∧ D0.nb = nb ∧ D0.np = np) := hide ⟨hD0, by rw [hD0]; show g.b.toNat = nb; omega, by rw [hD0]; show g.p.toNat = np; omega⟩
  have Hz : Hid ((∀ i, D0.bad i = false) ∧ (∀ i, D0.nx i = 0) ∧ (∀ i, D0.we i = 0) ∧ ∀ i, D0.pg i = List.replicate 256 0) := hide (by rw [hD0]; exact ⟨fun _ => rfl, fun _ => rfl, fun _ => rfl, fun _ => rfl⟩)
  have HDc := hide (fun kb kp km => show D0.cells kb kp km = #[.int .i64 g.b, .int .i64 g.p, .int .i64 g.r, .slice (some ⟨kb, 0, none⟩) nb nb, .slice (some ⟨kp, 0, none⟩) N N, .map (some km), .int .i64 0, .bool false] from by
    have h1 := HD0.out.2.1
    have h2 := HD0.out.2.2
    unfold Dv.cells
    rw [h1, h2, ← hN, hD0]
    rfl)
  have Hmul := hide (show IntKind.i64.wrap (g.b * g.p) = (N : Int) from by rw [hgb, hgp, ← Int.natCast_mul, ← hN]; exact IntWalk.i64_in _ (by omega))
  have Hgb := hide hgb
  have Hnb := hide hnb
  have Hnp := hide hmn
  have Hn := hide hn
  have Hn2 := hide hn2
  have Hn2b := hide hn2b
  have b1 := (Below.refl w.heap.size w).alloc (Nat.le_refl _) (.cells #[.int .i64 g.b, .int .i64 g.p, .int .i64 g.r] 23)
  have x1 := Boxed.new g w
  have HL0 := hide hl
  have HL10 := hide hl1
  have Hok0 := hide hok
  have HB := hide hB
  have Hb1 := hide b1
  have Hx1 := hide x1
  clear hl hl1 hok hn hn2 hn2b hB b1 x1 hg hmn hnb hnp hgb hgp hD0 hN
  rcases g with ⟨gb, gp, gr⟩
  unfold Gm.val at *
  simp only at Hc Hb1 HDc Hmul Hgb ⊢
  go_enter Try.func21, Try.ntmps21
  go_wp2_with fail
  (with_reducible refine (Hc.out _).mono ?_)
  rintro e w3 ⟨rfl, hb⟩
  have b3 := Hb1.out.trans (hb.mono Hb1.out.size)
  have hbx := Hx1.out.below hb (by simp)
  have hs3 : w.heap.size < w3.heap.size := by have := hb.size; simp at this; omega
  have C0 : Hid (w3.cell? ⟨w.heap.size, 0, none⟩ = some (.int .i64 gb)) := hide hbx.b
  have C1 : Hid (w3.cell? ⟨w.heap.size, 1, none⟩ = some (.int .i64 gp)) := hide hbx.p
  have C2 : Hid (w3.cell? ⟨w.heap.size, 2, none⟩ = some (.int .i64 gr)) := hide hbx.r
  have HS := hide hs3
  have Hs1 := hide b3.size
  have HB1 := hide (Nat.le_trans HB.out b3.size)
  have HL2 := hide (HL0.out.below (b3.mono HB.out))
  have HL1 := hide (HL10.out.below (b3.mono HB.out))
  have Hok := hide (fun f hf => (Hok0.out f hf).below (b3.mono HB.out))
  have Hb3 := hide b3
  try simp only at C0 C1 C2
  clear hb b3 hbx hs3 Hc Hx1 Hb1 HL0 HL10 Hok0
  go_upto_region 4 with fail
  refine Flo3.wp_region_last (by kernel_rfl) (fun d => match d with | 20 => is (.agg #[.int .i64 gb, .int .i64 gp, .int .i64 gr]) | 21 => is (.pointer (some ⟨w.heap.size, 0, none⟩)) | 22 => is (.int .i64 gb) | 23 => fun v W => ∃ kb, v = .slice (some ⟨kb, 0, none⟩) nb nb ∧ w.heap.size ≤ kb ∧ RowF W kb 99 (3 * nb) D0.bcell | 24 => is (.pointer (some ⟨w.heap.size, 0, none⟩)) | 25 => is (.int .i64 gb) | 26 => is (.pointer (some ⟨w.heap.size, 1, none⟩)) | 27 => is (.int .i64 gp) | 28 => is (.int .i64 (N : Int)) | 29 => fun v W => ∃ kp, v = .slice (some ⟨kp, 0, none⟩) N N ∧ w.heap.size ≤ kp ∧ RowF W kp 100 (256 * N) D0.pcell | 30 => is (.slice A2 n2 c2) | 31 => fun v W => ∃ km, v = .map (some km) ∧ FaultsAt W W.heap.size km (firstF l) | 32 => fun v W => ∃ kb kp km, v = .agg (D0.cells kb kp km) ∧ w.heap.size ≤ kb ∧ w.heap.size ≤ kp ∧ RowF W kb 99 (3 * nb) D0.bcell ∧ RowF W kp 100 (256 * N) D0.pcell ∧ FaultsAt W W.heap.size km (firstF l) | 33 => fun v W => ∃ k kb kp km, v = .pointer (some ⟨k, 0, none⟩) ∧ DevAt W w.heap.size W.heap.size D0 k kb kp km | _ => fun _ _ => True) (by kernel_rfl) (by kernel_rfl) ⟨?_, ?_, ?_, ?_, ?_, ?_, ?_, ?_, ?_, ?_, ?_, ?_, ?_, ?_, trivial⟩ ?_
  · intro a' w' hb' h'
    have e3 := sb h' 3 (by kernel_rfl) (by kernel_rfl) rfl
    have c0 := (hb'.cell (p := ⟨w.heap.size, 0, none⟩) HS.out).trans C0.out
    have c1 := (hb'.cell (p := ⟨w.heap.size, 1, none⟩) HS.out).trans C1.out
    have c2 := (hb'.cell (p := ⟨w.heap.size, 2, none⟩) HS.out).trans C2.out
    exact .val (want0 rfl) rfl (by simp [Act.eval, e3, c0, c1, c2, go_sem]) (Keeps.is rfl)
  · intro a' w' hb' h'
    have e3 := sb h' 3 (by kernel_rfl) (by kernel_rfl) rfl
    exact .val (want0 rfl) rfl (by simp [Act.eval, e3, go_sem]) (Keeps.is rfl)
  · intro a' w' hb' h'
    have cc := (hb'.cell (p := ⟨w.heap.size, 0, none⟩) HS.out).trans C0.out
    have e21 := (sw h' 21 (by kernel_rfl) (by kernel_rfl)).eq
    exact .val (want0 rfl) rfl (by simp [Act.eval, e21, cc, go_sem]) (Keeps.is rfl)
  · intro a' w' hb' h'
    have e22 := (sw h' 22 (by kernel_rfl) (by kernel_rfl)).eq
    have hm := make_blocks w' D0 nb Hnb.out Hz.out
    rw [Hgb.out] at e22
    exact .made (d := 23) (want0 rfl) rfl (by simp [Act.eval, e22, hm.1, go_sem]) ((Below.refl _ _).alloc (Nat.le_refl _) _) (fun W hW => ⟨_, rfl, Nat.le_trans Hs1.out hb'.size, hm.2.kept (hW.block _ (by simp))⟩)
  · intro a' w' hb' h'
    have e3 := sb h' 3 (by kernel_rfl) (by kernel_rfl) rfl
    exact .val (want0 rfl) rfl (by simp [Act.eval, e3, go_sem]) (Keeps.is rfl)
  · intro a' w' hb' h'
    have cc := (hb'.cell (p := ⟨w.heap.size, 0, none⟩) HS.out).trans C0.out
    have e24 := (sw h' 24 (by kernel_rfl) (by kernel_rfl)).eq
    exact .val (want0 rfl) rfl (by simp [Act.eval, e24, cc, go_sem]) (Keeps.is rfl)
  · intro a' w' hb' h'
    have e3 := sb h' 3 (by kernel_rfl) (by kernel_rfl) rfl
    exact .val (want0 rfl) rfl (by simp [Act.eval, e3, go_sem]) (Keeps.is rfl)
  · intro a' w' hb' h'
    have cc := (hb'.cell (p := ⟨w.heap.size, 1, none⟩) HS.out).trans C1.out
    have e26 := (sw h' 26 (by kernel_rfl) (by kernel_rfl)).eq
    exact .val (want0 rfl) rfl (by simp [Act.eval, e26, cc, go_sem]) (Keeps.is rfl)
  · intro a' w' hb' h'
    have e25 := (sw h' 25 (by kernel_rfl) (by kernel_rfl)).eq
    have e27 := (sw h' 27 (by kernel_rfl) (by kernel_rfl)).eq
    exact .val (want0 rfl) rfl (by simp [Act.eval, e25, e27, Hmul.out, go_sem]) (Keeps.is rfl)
  · intro a' w' hb' h'
    have e28 := (sw h' 28 (by kernel_rfl) (by kernel_rfl)).eq
    have hm := make_pages w' D0 N Hnp.out Hz.out
    exact .made (d := 29) (want0 rfl) rfl (by simp [Act.eval, e28, hm.1, go_sem]) ((Below.refl _ _).alloc (Nat.le_refl _) _) (fun W hW => ⟨_, rfl, Nat.le_trans Hs1.out hb'.size, hm.2.kept (hW.block _ (by simp))⟩)
  · intro a' w' hb' h'
    have e2 := sb h' 2 (by kernel_rfl) (by kernel_rfl) rfl
    exact .val (want0 rfl) rfl (by simp [Act.eval, e2, go_sem]) (Keeps.is rfl)
  · intro a' w' hb' h'
    have e30 := (sw h' 30 (by kernel_rfl) (by kernel_rfl)).eq
    refine .called (d := 31) (want0 rfl) rfl (by simp [Act.eval, e30, go_sem]) ((first_any A2 n2 c2 B l w' (HL2.out.below (hb'.mono HB1.out)) Hn2.out Hn2b.out (fun f hf => (Hok.out f hf).below (hb'.mono HB1.out)) (Nat.le_trans HB1.out hb'.size)).mono ?_)
    rintro e w9 ⟨km, rfl, hF, _, hb9⟩
    exact ⟨_, rfl, hb9, fun W hW => ⟨km, rfl, hF.grow hW⟩⟩
  · intro a' w' hb' h'
    have e20 := (sw h' 20 (by kernel_rfl) (by kernel_rfl)).eq
    have k23 := sw h' 23 (by kernel_rfl) (by kernel_rfl)
    have k29 := sw h' 29 (by kernel_rfl) (by kernel_rfl)
    have k31 := sw h' 31 (by kernel_rfl) (by kernel_rfl)
    obtain ⟨kb, e23, hkb, hrb⟩ := k23.now
    obtain ⟨kp, e29, hkp, hrp⟩ := k29.now
    obtain ⟨km, e31, hF⟩ := k31.now
    have e20' : a'.tmps[20]?.getD undef = .agg #[.int .i64 gb, .int .i64 gp, .int .i64 gr] := by simpa using e20
    have e23' : a'.tmps[23]?.getD undef = .slice (some ⟨kb, 0, none⟩) nb nb := by simpa using e23
    have e29' : a'.tmps[29]?.getD undef = .slice (some ⟨kp, 0, none⟩) N N := by simpa using e29
    have e31' : a'.tmps[31]?.getD undef = .map (some km) := by simpa using e31
    exact .val (d := 32) (want0 rfl) rfl (by simp [Act.eval, e20', e23', e29', e31', go_sem]; rfl) (fun W hW => ⟨kb, kp, km, (by rw [HDc.out]), hkb, hkp, hrb.kept (hW.block _ hrb.lt), hrp.kept (hW.block _ hrp.lt), hF.grow hW⟩)
  · intro a' w' hb' h'
    obtain ⟨kb, kp, km, e32, hkb, hkp, hrb, hrp, hF⟩ := (sw h' 32 (by kernel_rfl) (by kernel_rfl)).now
    have hbl := (Below.refl w'.heap.size w').alloc (Nat.le_refl _) (.cells (D0.cells kb kp km) 95)
    have hd : DevAt (w'.alloc (.cells (D0.cells kb kp km) 95)) w.heap.size (w'.alloc (.cells (D0.cells kb kp km) 95)).heap.size D0 w'.heap.size kb kp km := dev_new hrb hrp hF HD0.out HN.out HR.out (Nat.le_trans Hs1.out hb'.size) hkb hkp
    exact .made (d := 33) (want0 rfl) rfl (by simp [Act.eval, e32, go_sem]) hbl (fun W hW => ⟨_, kb, kp, km, rfl, (hd.below hW).up hW.size⟩)
  · intro o a' w' ho hA
    obtain rfl := Option.some.inj ho.symm
    rw [if_pos (want0 rfl)]
    obtain ⟨k, kb, kp, km, e33, hd⟩ := (hA.done 13 _ 33 (by decide) rfl rfl).now
    refine wp_assign_run (.tmp 33) rfl e33 ?_
    obtain ⟨v20, e20⟩ : ∃ v, a'.tmps.getD 20 undef = v := ⟨_, rfl⟩
    obtain ⟨v21, e21⟩ : ∃ v, a'.tmps.getD 21 undef = v := ⟨_, rfl⟩
    obtain ⟨v22, e22⟩ : ∃ v, a'.tmps.getD 22 undef = v := ⟨_, rfl⟩
    obtain ⟨v23, e23⟩ : ∃ v, a'.tmps.getD 23 undef = v := ⟨_, rfl⟩
    obtain ⟨v24, e24⟩ : ∃ v, a'.tmps.getD 24 undef = v := ⟨_, rfl⟩
    obtain ⟨v25, e25⟩ : ∃ v, a'.tmps.getD 25 undef = v := ⟨_, rfl⟩
    obtain ⟨v26, e26⟩ : ∃ v, a'.tmps.getD 26 undef = v := ⟨_, rfl⟩
    obtain ⟨v27, e27⟩ : ∃ v, a'.tmps.getD 27 undef = v := ⟨_, rfl⟩
    obtain ⟨v28, e28⟩ : ∃ v, a'.tmps.getD 28 undef = v := ⟨_, rfl⟩
    obtain ⟨v29, e29⟩ : ∃ v, a'.tmps.getD 29 undef = v := ⟨_, rfl⟩
    obtain ⟨v30, e30⟩ : ∃ v, a'.tmps.getD 30 undef = v := ⟨_, rfl⟩
    obtain ⟨v31, e31⟩ : ∃ v, a'.tmps.getD 31 undef = v := ⟨_, rfl⟩
    obtain ⟨v32, e32⟩ : ∃ v, a'.tmps.getD 32 undef = v := ⟨_, rfl⟩
    change Exit.then _ _ .normal (a'.put (some 9) (.pointer (some ⟨k, 0, none⟩))) w'
    have hfr := Flo2.frame_eq [(20, v20), (21, v21), (22, v22), (23, v23), (24, v24), (25, v25), (26, v26), (27, v27), (28, v28), (29, v29), (30, v30), (31, v31), (32, v32), (33, .pointer (some ⟨k, 0, none⟩)), (9, .pointer (some ⟨k, 0, none⟩))] (a'.put (some 9) (.pointer (some ⟨k, 0, none⟩))).tmps _ ((Flo3.put_size _ _ _).trans hA.size) (by
      intro x hx
      simp only [List.mem_cons, List.not_mem_nil, or_false] at hx
      rcases hx with h | h | h | h | h | h | h | h | h | h | h | h | h | h | h <;> subst h
      · exact (Flo3.put_other _ _ (by simp)).trans e20
      · exact (Flo3.put_other _ _ (by simp)).trans e21
      · exact (Flo3.put_other _ _ (by simp)).trans e22
      · exact (Flo3.put_other _ _ (by simp)).trans e23
      · exact (Flo3.put_other _ _ (by simp)).trans e24
      · exact (Flo3.put_other _ _ (by simp)).trans e25
      · exact (Flo3.put_other _ _ (by simp)).trans e26
      · exact (Flo3.put_other _ _ (by simp)).trans e27
      · exact (Flo3.put_other _ _ (by simp)).trans e28
      · exact (Flo3.put_other _ _ (by simp)).trans e29
      · exact (Flo3.put_other _ _ (by simp)).trans e30
      · exact (Flo3.put_other _ _ (by simp)).trans e31
      · exact (Flo3.put_other _ _ (by simp)).trans e32
      · exact (Flo3.put_other _ _ (by simp)).trans e33
      · exact Flo3.put_same _ _ (by rw [hA.size]; simp)) (fun t ht => (Flo3.put_other _ _ (Ne.symm (fun h => ht (9, .pointer (some ⟨k, 0, none⟩)) (by simp) h.symm))).trans (hA.kept t (Flo3.writes_not _ _ (by kernel_rfl) ht)))
    have ha := Flo3.act_ext hfr (show (a'.put (some 9) (.pointer (some ⟨k, 0, none⟩))).defers = _ from hA.defers)
    rw [ha]
    have Hb4 := hide (Hb3.out.trans (hA.below.mono Hb3.out.size))
    have HL4 := hide (HL1.out.below (hA.below.mono HB1.out))
    have Hd := hide hd
    clear hfr ha hA e33 e20 e21 e22 e23 e24 e25 e26 e27 e28 e29 e30 e31 e32 ho hd C0 C1 C2 HL2 Hok HL1
    simp only [Flo2.puts, List.foldl_cons, List.foldl_nil, List.setIfInBounds_toArray, List.set, Exit.then]
    go_wp2
    generalize hB4 : w'.heap.size = B4 at *
    have HB4 := hide hB4
    clear hB4
    go_loopw [36] (fun i wr => ∃ j : Nat, j ≤ n ∧ i = .int .i64 (j : Int) ∧ DevAt wr w.heap.size B4 { D0 with bad := fun i => decide ((i : Int) ∈ bl.take j) } k kb kp km ∧ Tch [k, kb, kp] w' wr) (fun i _ => n - (intOf i).toNat)
    case atStart =>
      refine ⟨0, Nat.zero_le _, rfl, ?_, Tch.refl _ _⟩
      exact Hd.out.bad_congr _ (fun i _ => by rw [Hz.out.1]; simp)
    case round =>
      obtain ⟨j, hj, rfl, hd, ht⟩ := hrel
      have hBr : B4 ≤ wr.heap.size := by have := ht.size; rw [HB4.out] at this; exact this
      have hlo := hd.lo
      have hS : ∀ q ∈ [k, kb, kp], w.heap.size ≤ q := by
        intro q hq
        simp only [List.mem_cons, List.not_mem_nil, or_false] at hq
        omega
      by_cases hlt : j < n
      · have hjl : j < bl.length := by rw [← Hn.out]; exact hlt
        have hlt' : (j : Int) < (n : Int) := by omega
        have hbB : Below B w' wr := (ht.below (by have := Hb4.out.size; exact this) hS).mono HB.out
        obtain ⟨a, rfl, hab, hca⟩ := (HL4.out.below hbB).int hjl
        have Htk := hide (show bl.take (j + 1) = bl.take j ++ [bl[j]] from by rw [List.take_append_getElem])
        have e1 : wrap64 ((j : Int) + 1) = ((j + 1 : Nat) : Int) := by rw [i64w (by omega)]; rfl
        generalize bl[j] = z at *
        generalize bl.take j = t at *
        have hnbD : ({ D0 with bad := fun i => decide ((i : Int) ∈ t) } : Dv).nb = nb := HD0.out.2.1
        by_cases hz : 0 ≤ z ∧ z < (nb : Int)
        · obtain ⟨i, rfl⟩ := Int.eq_ofNat_of_zero_le hz.1
          have hi : i < nb := by omega
          have fb := block_some hd i (by rw [hnbD]; exact hi)
          have f0 := hd.blocks.free (i * 3)
          have cc := hd.b0 (i := i) (by rw [hnbD]; exact hi)
          have Hd2 := hide (hd.set_mark hBr i true)
          have Ht2 := hide (ht.trans (Tch.set (S := [k, kb, kp]) (p := ⟨kb, i * 3, none⟩) (by simp) (.bool true)))
          clear hd ht hS hlo hbB hz hjl hlt hnbD
          go_wp2_with (go_at_call 44; (with_reducible refine fb.mono ?_); rintro e w9 ⟨rfl, rfl⟩; clear fb)
          go_roundw
          case rel =>
            refine ⟨j + 1, by omega, rfl, ?_, Ht2.out⟩
            rw [Htk.out]
            refine Hd2.out.bad_congr _ (fun q _ => ?_)
            show upd (fun i => decide ((i : Int) ∈ t)) i true q = decide ((q : Int) ∈ t ++ [(i : Int)])
            unfold upd
            by_cases hq : q = i
            · subst hq; simp
            · rw [if_neg hq]
              exact decide_eq_decide.2 ⟨fun h => List.mem_append_left _ h, fun h => (List.mem_append.1 h).resolve_right (fun h2 => by simp at h2; omega)⟩
          case measure => simp [intOf]; omega
        · have fb := block_none hd z (by rw [hnbD]; exact hz)
          have Hd2 := hide hd
          have Ht2 := hide ht
          have Hzz := hide hz
          have HnbD := hide hnbD
          clear hd ht hS hlo hbB hz hjl hlt hnbD
          go_wp2_with (go_at_call 44; (with_reducible refine fb.mono ?_); rintro e w9 ⟨rfl, rfl⟩; clear fb)
          go_roundw
          case rel =>
            refine ⟨j + 1, by omega, rfl, ?_, Ht2.out⟩
            rw [Htk.out]
            refine Hd2.out.bad_congr _ (fun q hq => ?_)
            rw [HnbD.out] at hq
            have hne : ¬ (q : Int) = z := fun h => Hzz.out ⟨by omega, by omega⟩
            show decide ((q : Int) ∈ t) = decide ((q : Int) ∈ t ++ [z])
            simp [hne]
          case measure => simp [intOf]; omega
      · obtain rfl : j = n := by omega
        have htk : bl.take j = bl := List.take_of_length_le (Nat.le_of_eq Hn.out.symm)
        rw [htk] at hd
        obtain ⟨D1, hD1⟩ : ∃ D1 : Dv, D1 = { D0 with bad := fun i => decide ((i : Int) ∈ bl) } := ⟨_, rfl⟩
        rw [← hD1] at hd
        have Ht2 := hide ht
        have Hd2 := hide hd
        have HBr := hide hBr
        have HS2 := hide hS
        have HZ : Hid (∀ i, D1.pg i = List.replicate 256 0) := hide (by rw [hD1]; exact Hz.out.2.2.2)
        have HN1 : Hid (D1.nb * D1.np = N) := hide (by
          rw [hD1]
          show D0.nb * D0.np = N
          rw [HD0.out.2.1, HD0.out.2.2, HN.out])
        have HF : Hid (({ D1 with pg := fun _ => List.replicate 256 255 } : Dv) = Dv.fresh ⟨gb, gp, gr⟩ bl l) := hide (by rw [hD1, HD0.out.1]; rfl)
        clear hd ht hS hlo hBr htk hlt hj HL4 Hd Hz HD0 HN Hmul HDc hD1
        have FO := hide (ones_any 256 wr)
        rw [show (min (max 256 0) 1048576 : Int).toNat = 256 from rfl] at FO
        go_wp2_with fail
        (with_reducible refine FO.out.mono ?_)
        rintro e w5 ⟨A5, c5, rfl, hl5, hb5⟩
        have hd5 := Hd2.out.below (hb5.mono HBr.out)
        have hc4 := hd5.c4
        rw [HN1.out] at hc4
        obtain ⟨a5, rfl, hc5⟩ : ∃ a5, A5 = some a5 ∧ ∀ j u, (bys (List.replicate 256 255))[j]? = some u → w5.cell? (a5.add j) = some u := by
          rcases hl5 with h | ⟨a5, h1, h2, h3⟩
          · have := congrArg List.length h
            rw [bys_len, List.length_replicate] at this
            cases this
          · exact ⟨a5, h1, h3⟩
        have hoff : a5.block ∉ [k, kb, kp] := by
          have h0 := hc5 0 (.int .u8 255) (by rw [bys_at _ _ (by rw [List.length_replicate]; decide)]; simp)
          rw [show a5.add 0 = a5 by unfold Addr.add; simp] at h0
          exact dev_not255 hd5 HZ.out h0
        have Hc5 := hide hc5
        have Hoff := hide hoff
        have Hd5 := hide hd5
        have Ht5 := hide (Ht2.out.trans (Tch.of_below hb5))
        have HB5 := hide (Nat.le_trans HBr.out hb5.size)
        have hN1 : N ≤ 1088 := Hnp.out
        clear hl5 hb5 hd5 hc5 hoff FO Ht2 Hd2 HBr
        go_wp2
        clear hc4
        generalize wr = wA at *
        go_loopw [55] (fun i wr2 => ∃ j : Nat, j ≤ N ∧ i = .int .i64 (j : Int) ∧ DevAt wr2 w.heap.size B4 { D1 with pg := fun q => if q < j then List.replicate 256 255 else List.replicate 256 0 } k kb kp km ∧ Tch [k, kb, kp] w5 wr2) (fun i _ => N - (intOf i).toNat)
        case atStart =>
          refine ⟨0, Nat.zero_le _, rfl, ?_, Tch.refl _ _⟩
          exact Hd5.out.pg_congr _ (fun i _ => by rw [HZ.out, if_neg (by omega)])
        case round =>
          obtain ⟨j2, hj2, rfl, hd, ht⟩ := hrel
          have hBr := Nat.le_trans HB5.out ht.size
          have hc4 := hd.c4
          rw [show ({ D1 with pg := fun q => if q < j2 then List.replicate 256 255 else List.replicate 256 0 } : Dv).nb * ({ D1 with pg := fun q => if q < j2 then List.replicate 256 255 else List.replicate 256 0 } : Dv).np = N from HN1.out] at hc4
          by_cases hlt2 : j2 < N
          · have hlt3 : (j2 : Int) < (N : Int) := by omega
            have e1 : wrap64 ((j2 : Int) + 1) = ((j2 + 1 : Nat) : Int) := by rw [i64w (by omega)]; rfl
            obtain ⟨hr, hd2, ht2⟩ := copy_page hd hBr j2 (by rw [show ({ D1 with pg := fun q => if q < j2 then List.replicate 256 255 else List.replicate 256 0 } : Dv).nb * ({ D1 with pg := fun q => if q < j2 then List.replicate 256 255 else List.replicate 256 0 } : Dv).np = N from HN1.out]; exact hlt2) (List.replicate 256 255) List.length_replicate a5 256 c5 (Nat.le_refl _) (fun i u hu => DevAt.tch_cell ht (by have e : (a5.add i).block = a5.block := by { unfold Addr.add; split <;> rfl }; rw [e]; exact Hoff.out) (Hc5.out i u hu)) 3
            have Hd2 := hide hd2
            have Ht2 := hide (ht.trans ht2)
            clear hd ht hd2 ht2 hBr
            generalize hw6 : wr.setCells kp (j2 * 256) (bys (List.replicate 256 255)) = w6 at *
            clear hw6
            go_wp2_with (at_builtin; refine wpl_copy _ rfl _ _ 65 65 rfl _ _ rfl rfl hr ?_)
            clear hr
            go_roundw
            case rel =>
              refine ⟨j2 + 1, by omega, rfl, ?_, Ht2.out⟩
              refine Hd2.out.pg_congr _ (fun q _ => ?_)
              show upd (fun q => if q < j2 then List.replicate 256 255 else List.replicate 256 0) j2 (List.replicate 256 255) q = if q < j2 + 1 then List.replicate 256 255 else List.replicate 256 0
              unfold upd
              by_cases hq : q = j2
              · subst hq; rw [if_pos rfl, if_pos (by omega)]
              · rw [if_neg hq]
                show (if q < j2 then List.replicate 256 255 else List.replicate 256 0) = _
                by_cases hq2 : q < j2
                · rw [if_pos hq2, if_pos (by omega)]
                · rw [if_neg hq2, if_neg (by omega)]
            case measure => simp [intOf]; omega
          · obtain rfl : j2 = N := by omega
            have h9 := hd.pg_congr (fun _ => List.replicate 256 255) (fun i hi => by
              rw [show ({ D1 with pg := fun q => if q < j2 then List.replicate 256 255 else List.replicate 256 0 } : Dv).nb * ({ D1 with pg := fun q => if q < j2 then List.replicate 256 255 else List.replicate 256 0 } : Dv).np = j2 from HN1.out] at hi
              exact if_pos hi)
            have H9 := hide (h9.up hBr)
            have Ht9 := hide ((Ht5.out.trans ht).below Hb4.out.size HS2.out)
            clear h9 hd ht hBr
            go_wp2
            go_ret2
            refine ⟨k, rfl, ⟨kb, kp, km, ?_⟩, Hb4.out.trans Ht9.out⟩
            rw [← HF.out]
            exact H9.out
end Go.Proofs.Ytahipfmokbiklaa
