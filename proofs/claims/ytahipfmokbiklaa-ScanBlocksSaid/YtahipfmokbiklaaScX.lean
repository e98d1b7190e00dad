/-
  The walk of ScanAll.
-/
import Derived.Test.YtahipfmokbiklaaScB
import Derived.Test.YtahipfmokbiklaaScL
import Derived.Test.YtahipfmokbiklaaVarR
import Derived.Test.YtahipfmokbiklaaOnes
namespace Go.Proofs.Ytahipfmokbiklaa
open Go.RowKit
open Go.Sort
set_option maxRecDepth 8000

theorem findAt_mem {D : Dv} {i : Nat} {f : Fd} (h : f ∈ D.findAt i) : f.x = i / D.np ∧ f.y = i % D.np ∧ rightB (D.pg i) = true ∧ f.h = headOf (D.pg i) := by
  unfold Dv.findAt at h
  by_cases hk : findOk D i = true
  · rw [if_pos hk] at h
    obtain rfl := List.mem_singleton.1 h
    unfold findOk at hk
    simp only [Bool.and_eq_true] at hk
    exact ⟨rfl, rfl, hk.1.1, rfl⟩
  · rw [if_neg hk] at h
    cases h
theorem findsF_mem (D : Dv) {f : Fd} : ∀ n, f ∈ findsF D n → ∃ i, i < 2 * D.np + n ∧ f ∈ D.findAt i
  | 0, h => by cases h
  | n + 1, h => by
    rcases List.mem_append.1 h with h | h
    · obtain ⟨i, hi, h⟩ := findsF_mem D n h
      exact ⟨i, by omega, h⟩
    · exact ⟨2 * D.np + n, by omega, h⟩
/-- What is known of a find. -/
theorem finds_mem {D : Dv} (h2 : 2 ≤ D.nb) (hp : 0 < D.np) {f : Fd} (h : f ∈ D.finds) : f.x < D.nb ∧ f.y < D.np ∧ rightB (D.pg (f.x * D.np + f.y)) = true ∧ f.h = headOf (D.pg (f.x * D.np + f.y)) := by
  obtain ⟨i, hi, hm⟩ := findsF_mem D _ h
  obtain ⟨e1, e2, e3, e4⟩ := findAt_mem hm
  have hN : 2 * D.np + (D.nb - 2) * D.np = D.nb * D.np := by rw [← Nat.add_mul]; congr 1; omega
  rw [hN] at hi
  have ei : f.x * D.np + f.y = i := by rw [e1, e2, Nat.mul_comm]; exact Nat.div_add_mod i D.np
  rw [ei]
  exact ⟨by rw [e1]; exact Nat.div_lt_of_lt_mul (by rw [Nat.mul_comm]; exact hi), by rw [e2]; exact Nat.mod_lt _ hp, e3, e4⟩
/-- What the laws know behind Laid. -/
structure LawS (w w1 : World) (q : Pn) (D : Dv) (m : Bl) (W : World) : Prop where
  s : TS w1 q D D m W
  box : BoxQ q w.heap.size W
  below : Below w.heap.size w W
  lt : w.heap.size < W.heap.size
theorem LawS.next {w w1 W W' : World} {q : Pn} {D : Dv} {m : Bl} (h : LawS w w1 q D m W) (hb : Below W.heap.size W W') : LawS w w1 q D m W' :=
  ⟨h.s.next hb, h.box.below hb h.lt, h.below.trans (hb.mono h.below.size), Nat.lt_of_lt_of_le h.lt hb.size⟩
theorem LawS.cells {w w1 W : World} {q : Pn} {D : Dv} {m : Bl} (h : LawS w w1 q D m W) : W.cell? ⟨w.heap.size, 0, none⟩ = some (.int .i64 (D.nb : Int)) ∧ W.cell? ⟨w.heap.size, 1, none⟩ = some (.int .i64 (D.np : Int)) := by
  obtain ⟨_, _, _, _, h5, h6⟩ := h.s.dev.sides
  rw [h.s.g.1] at h5 h6
  exact ⟨by rw [h.box.c 0 _ rfl, h5], by rw [h.box.c 1 _ rfl, h6]⟩
/-- The beginning of each law: awake, and Laid. -/
theorem laidS {w w1 w2 : World} {q : Pn} {D : Dv} {m : Bl} (h : LdS w1 q D m 60 w2) (hb1 : Below w.heap.size w w1) (hx : BoxQ q w.heap.size w1) (hlt : w.heap.size < w1.heap.size) : LawS w w1 q D m w2 :=
  ⟨h.s, hx.below h.s.below hlt, hb1.trans (h.s.below.mono hb1.size), Nat.lt_of_lt_of_le hlt h.s.below.size⟩

set_option maxHeartbeats 4000000 in
theorem scanAll_off (q : Pn) (A : Option Addr) (n c : Nat) (w : World) (hq : q.Ok w w.heap.size) (hl : ¬ (q.light = true ∧ q.g.Right)) :
    Calls Try.prog 3 #[q.val, .slice A n c] w fun e w' => e = .returned (.bool true) ∧ Below w.heap.size w w' := by
  have b1 := (Below.refl w.heap.size w).alloc (Nat.le_refl _) (.cells #[.int .i64 q.g.b, .int .i64 q.g.p, .int .i64 q.g.r, .slice q.A1 q.n1 q.c1, .slice q.A2 q.n2 q.c2] 27)
  have hx1 : BoxQ q w.heap.size (w.alloc (.cells #[.int .i64 q.g.b, .int .i64 q.g.p, .int .i64 q.g.r, .slice q.A1 q.n1 q.c1, .slice q.A2 q.n2 q.c2] 27)) := heap_alloc_new w _
  have hs1 : w.heap.size < (w.alloc (.cells #[.int .i64 q.g.b, .int .i64 q.g.p, .int .i64 q.g.r, .slice q.A1 q.n1 q.c1, .slice q.A2 q.n2 q.c2] 27)).heap.size := by simp
  have Hb1 := hide b1
  have Hx1 := hide hx1
  have Hs1 := hide hs1
  have FL := hide (fun W (hW : Below w.heap.size w W) => laid_off q A n c W ((hq.below hW).up hW.size) hl)
  clear b1 hx1 hs1 hq hl
  unfold Pn.val at *
  go_enter Try.func3, Try.ntmps3
  go_wp2_with fail
  (with_reducible refine (awake18_any _).mono ?_)
  rintro e w1 ⟨rfl, hb⟩
  have Hb2 := hide (Hb1.out.trans (hb.mono Hb1.out.size))
  have Hx2 := hide (Hx1.out.below hb Hs1.out)
  clear hb Hb1 Hx1 Hs1
  have c0 := Hx2.out.c 0 _ rfl
  have c1 := Hx2.out.c 1 _ rfl
  have c2 := Hx2.out.c 2 _ rfl
  have c3 := Hx2.out.c 3 _ rfl
  have c4 := Hx2.out.c 4 _ rfl
  go_wp2_with fail
  (with_reducible refine (FL.out _ Hb2.out).mono ?_)
  rintro e w3 ⟨rfl, hb⟩
  have Hb3 := hide (Hb2.out.trans (hb.mono Hb2.out.size))
  clear hb FL Hb2 Hx2 c0 c1 c2 c3 c4
  go_wp2
  go_ret
  exact ⟨rfl, Hb3.out⟩
/-- What the loop of ScanAll keeps. -/
def HdE (w : World) (h : Hd) (g : Nat) (W : World) : Prop := BoxH h g W ∧ Below w.heap.size w W
theorem HdE.after {w w4 : World} (hb : Below w.heap.size w w4) (kd ix ct : Int) (bt op : Nat) (lp ln : Int) : HdE w ⟨kd, ix, ct, bt, op, lp, ln⟩ w4.heap.size (w4.alloc (.cells #[.int .i64 kd, .int .i64 ix, .int .i64 ct, .int .u64 (bt : Int), .int .u64 (op : Int), .int .i64 lp, .int .i64 ln] 42)) := ⟨heap_alloc_new w4 _, hb.alloc hb.size _⟩
theorem HdE.ahead {w w4 : World} (hz : BoxH zeroHd w.heap.size w4) (hb : Below w.heap.size w w4) (kd ix ct : Int) (bt op : Nat) (lp ln : Int) : HdE w ⟨kd, ix, ct, bt, op, lp, ln⟩ w.heap.size (((((((w4.setCell ⟨w.heap.size, 0, none⟩ (.int .i64 kd)).setCell ⟨w.heap.size, 1, none⟩ (.int .i64 ix)).setCell ⟨w.heap.size, 2, none⟩ (.int .i64 ct)).setCell ⟨w.heap.size, 3, none⟩ (.int .u64 (bt : Int))).setCell ⟨w.heap.size, 4, none⟩ (.int .u64 (op : Int))).setCell ⟨w.heap.size, 5, none⟩ (.int .i64 lp)).setCell ⟨w.heap.size, 6, none⟩ (.int .i64 ln)) := ⟨box7 hz kd ix ct bt op lp ln, below7 hb (Nat.le_refl _) kd ix ct bt op lp ln⟩
structure AllL (w w1 : World) (q : Pn) (D : Dv) (m : Bl) (A : Option Addr) (W : World) : Prop where
  l : LawS w w1 q D m W
  row : Lies W W.heap.size A (rowD D.finds)
theorem AllL.next {w w1 W W' : World} {q : Pn} {D : Dv} {m : Bl} {A : Option Addr} (h : AllL w w1 q D m A W) (hb : Below W.heap.size W W') : AllL w w1 q D m A W' := ⟨h.l.next hb, (h.row.below hb).up hb.size⟩
theorem AllL.elt {w w1 W : World} {q : Pn} {D : Dv} {m : Bl} {a : Addr} (h : AllL w w1 q D m (some a) W) {i : Nat} {f : Fd} (hi : D.finds[i]? = some f) : ∀ j v, f.cells[j]? = some v → W.cell? ((a.add (i * 9)).add j) = some v := by
  obtain ⟨hl, rfl⟩ := List.getElem?_eq_some_iff.1 hi
  obtain ⟨a', ha, _, hc⟩ := h.row.elem Fd.cells_len hl (by decide)
  injection ha with ha
  subst ha
  exact hc
set_option maxHeartbeats 8000000 in
theorem scanAll_on (q : Pn) (A : Option Addr) (n c : Nat) (al : List Ly) (w : World) (hq : q.Ok w w.heap.size) (hl : q.light = true) (hr : q.g.Right) (hA : Lies w w.heap.size A (al.flatMap Ly.cells)) (hn : n = al.length) :
    Calls Try.prog 3 #[q.val, .slice A n c] w fun e w' => e = .returned (.bool true) ∧ Below w.heap.size w w' := by
  have b1 := (Below.refl w.heap.size w).alloc (Nat.le_refl _) (.cells #[.int .i64 q.g.b, .int .i64 q.g.p, .int .i64 q.g.r, .slice q.A1 q.n1 q.c1, .slice q.A2 q.n2 q.c2] 27)
  have hx1 : BoxQ q w.heap.size (w.alloc (.cells #[.int .i64 q.g.b, .int .i64 q.g.p, .int .i64 q.g.r, .slice q.A1 q.n1 q.c1, .slice q.A2 q.n2 q.c2] 27)) := heap_alloc_new w _
  have hs1 : w.heap.size < (w.alloc (.cells #[.int .i64 q.g.b, .int .i64 q.g.p, .int .i64 q.g.r, .slice q.A1 q.n1 q.c1, .slice q.A2 q.n2 q.c2] 27)).heap.size := by simp
  have Hb1 := hide b1
  have Hx1 := hide hx1
  have Hs1 := hide hs1
  have FL := hide (fun W (hW : Below w.heap.size w W) => laid_on q A n c al W ((hq.below hW).up hW.size) hl hr ((hA.below hW).up hW.size) hn)
  clear b1 hx1 hs1 hq hl hr hA hn
  unfold Pn.val LaidPost at *
  go_enter Try.func3, Try.ntmps3
  go_wp2_with fail
  (with_reducible refine (awake18_any _).mono ?_)
  rintro e w1 ⟨rfl, hb⟩
  have Hb2 := hide (Hb1.out.trans (hb.mono Hb1.out.size))
  have Hx2 := hide (Hx1.out.below hb Hs1.out)
  have Hs2 := hide (Nat.lt_of_lt_of_le Hs1.out hb.size)
  clear hb Hb1 Hx1 Hs1
  have c0 := Hx2.out.c 0 _ rfl
  have c1 := Hx2.out.c 1 _ rfl
  have c2 := Hx2.out.c 2 _ rfl
  have c3 := Hx2.out.c 3 _ rfl
  have c4 := Hx2.out.c 4 _ rfl
  go_wp2_with fail
  (with_reducible refine (FL.out _ Hb2.out).mono ?_)
  rintro e w2 ⟨D, m, rfl, hL, hdn⟩
  have HL := hide (laidS hL Hb2.out Hx2.out Hs2.out)
  have Hdn := hide hdn
  clear hL hdn FL Hb2 Hx2 Hs2 c0 c1 c2 c3 c4
  go_wp2_with fail
  (with_reducible refine (all_any HL.out.s.dev HL.out.s.bigB Hdn.out).mono ?_)
  rintro e w3 ⟨A3, c3, rfl, ho, hb⟩
  have HR3 := hide (Lies.of_own ho)
  have HL3 := hide (HL.out.next hb)
  clear ho hb HL
  go_wp2_with fail
  (with_reducible refine (refAll_any HL3.out.s.ref HL3.out.s.pos.2.2.2 HL3.out.s.dev.plen).mono ?_)
  rintro e w4 ⟨A4, c4, rfl, ho, hb⟩
  have HR4 := hide ((HR3.out.below hb).up hb.size)
  have HQ4 := hide (Lies.of_own ho)
  have HL4 := hide (HL3.out.next hb)
  clear ho hb HL3 HR3
  have Hfew := hide (show D.finds.length ≤ 2000 from Nat.le_trans (findsF_few _ _) (by
    have hs := HL4.out.s.dev.sides
    exact Nat.le_trans (Nat.mul_le_mul (show D.nb - 2 ≤ 32 by omega) hs.2.2.2.1) (by decide)))
  go_wp2_with fail
  (with_reducible refine (same18_same A3 A4 D.finds.length c3 c4 w4.heap.size D.finds w4 HR4.out HQ4.out rfl (by have := Hfew.out; omega) (Nat.le_refl _)).mono ?_)
  rintro e w5 ⟨rfl, hb⟩
  have HQ5 := hide ((HQ4.out.below hb).up hb.size)
  have HL5 := hide (HL4.out.next hb)
  clear hb HR4 HQ4 HL4
  go_wp2
  have HA5 := hide (show AllL w w1 q D m A4 w5 from ⟨HL5.out, HQ5.out⟩)
  clear HL5 HQ5
  go_loopw [10] (fun i wr => ∃ j : Nat, j ≤ D.finds.length ∧ i = .int .i64 (j : Int) ∧ Hid (AllL w w1 q D m A4 wr)) (fun i _ => D.finds.length - (intOf i).toNat)
  case atStart => exact ⟨0, Nat.zero_le _, rfl, HA5⟩
  case round =>
    clear HA5
    obtain ⟨j, hj, rfl, HA⟩ := hrel
    by_cases hlt : j < D.finds.length
    · have hlt' : (j : Int) < (D.finds.length : Int) := by omega
      have e7 : wrap64 ((j : Int) + 1) = ((j + 1 : Nat) : Int) := by have := Hfew.out; unfold wrap64; omega
      obtain ⟨f, hf⟩ : ∃ f, D.finds[j]? = some f := ⟨_, List.getElem?_eq_getElem hlt⟩
      have hs := HA.out.l.s.dev.sides
      obtain ⟨hx, hy, hrt, hh⟩ := finds_mem (by omega) (by omega) (List.mem_of_getElem? hf)
      have hHas : D.g.Has (f.x : Int) (f.y : Int) := ⟨by omega, by rw [hs.2.2.2.2.1]; omega, by omega, by rw [hs.2.2.2.2.2]; omega⟩
      have Hf := hide hf
      have Hlt := hide hlt
      obtain ⟨a, rfl⟩ : ∃ a, A4 = some a := by
        obtain ⟨a, ha, _⟩ := HA.out.row.elem Fd.cells_len hlt (by decide)
        exact ⟨a, ha⟩
      obtain ⟨Z, I, N, hN, hZ, hI, hIN, hIN2, hNb, k1, k2, k3, k4⟩ := pg_nums hx hs.2.1 hs.2.2.2.1 hy
      rw [← hI] at hrt hh
      have hdata : D.dataR (f.x : Int) (f.y : Int) = (f.h, dataOf (D.pg I), 0) := by
        have e : D.readR (f.x : Int) (f.y : Int) = (0, D.pg I) := by
          unfold Dv.readR
          rw [if_neg (by rw [Hdn.out]; exact Bool.false_ne_true), if_neg (not_not_intro hHas), Int.toNat_natCast, Int.toNat_natCast, ← hI]
        unfold Dv.dataR
        rw [e, if_pos rfl]
        unfold getR
        rw [(class_one _).2 hrt, hh]
        rfl
      have hget : get15 (D.pg I) = (f.h, dataOf (D.pg I)) := by unfold get15; rw [if_pos hrt, hh]
      have FD := hide (fun W (hW : LawS w w1 q D m W) => sdata_any hW.s.dev hW.s.bigB (f.x : Int) (f.y : Int))
      rw [hdata] at FD
      have hlen : (D.pg I).length = 256 := HA.out.l.s.dev.plen I (by rw [← hN]; exact hIN)
      have FG := hide (fun W => get15_any (D.pg I) W (by rw [hlen]; decide))
      rw [hget, hrt] at FG
      have HN := hide hN
      have HI := hide hIN
      clear hHas hf hlt hj hs hx hy hrt hh hdata hget hlen hI hZ hNb hN hIN
      rcases f with ⟨x, y, ⟨kd, ix, ct, bt, op, lp, ln⟩⟩
      dsimp only at k1 k2 k3 k4
      generalize dataOf (D.pg I) = dat at *
      have FD := hide (show ∀ W, LawS w w1 q D m W → Calls Try.prog 11 #[.pointer (some ⟨m.k, 0, none⟩), .agg #[.int .i64 (x : Int), .int .i64 (y : Int)]] W fun e w' => e = .returned (.tuple #[.agg #[.int .i64 kd, .int .i64 ix, .int .i64 ct, .int .u64 (bt : Int), .int .u64 (op : Int), .int .i64 lp, .int .i64 ln], .string (str dat), .int .i64 0]) ∧ Below W.heap.size W w' from FD.out)
      have FG := hide (show ∀ W, Calls Try.prog 12 #[.string (str (D.pg I))] W fun e w' => e = .returned (.tuple #[.agg #[.int .i64 kd, .int .i64 ix, .int .i64 ct, .int .u64 (bt : Int), .int .u64 (op : Int), .int .i64 lp, .int .i64 ln], .string (str dat), .bool true]) ∧ Below W.heap.size W w' from FG.out)
      obtain ⟨a0, a1, _⟩ := fd_cells (HA.out.elt Hf.out)
      dsimp only at a0 a1
      go_wp2_with fail
      (with_reducible refine (FD.out _ HA.out.l).mono ?_)
      rintro e w6 ⟨rfl, hb⟩
      have hb7 := hb.alloc hb.size (.cells #[.int .i64 kd, .int .i64 ix, .int .i64 ct, .int .u64 (bt : Int), .int .u64 (op : Int), .int .i64 lp, .int .i64 ln] 42)
      have HA7 := hide (HA.out.next hb7)
      have HX7 : Hid (BoxH ⟨kd, ix, ct, bt, op, lp, ln⟩ w6.heap.size (w6.alloc (.cells #[.int .i64 kd, .int .i64 ix, .int .i64 ct, .int .u64 (bt : Int), .int .u64 (op : Int), .int .i64 lp, .int .i64 ln] 42))) := hide (heap_alloc_new w6 _)
      clear hb hb7 FD HA a0 a1
      go_upto_region 14 with fail
      generalize w6.alloc (.cells #[.int .i64 kd, .int .i64 ix, .int .i64 ct, .int .u64 (bt : Int), .int .u64 (op : Int), .int .i64 lp, .int .i64 ln] 42) = w7 at *
      generalize w6.heap.size = hk at *
      refine Free.wp_region_free (by kernel_rfl) (fun d v => match d with | 64 => v = .pointer (some ⟨m.r, 0, none⟩) | 65 => v = .pointer (some ⟨m.r, 0, none⟩) | 66 => v = .pointer (some ⟨m.r, 4, none⟩) | 67 => v = .slice (some ⟨m.rp, 0, none⟩) N m.cp | 68 => v = .slice (some a) D.finds.length c4 | 69 => v = .int .i64 (j : Int) | 70 => v = .pointer (some (a.add (j * 9))) | 71 => v = .pointer (some (a.add (j * 9))) | 72 => v = .pointer (some (a.add (j * 9))) | 73 => v = .int .i64 (x : Int) | 74 => v = .pointer (some ⟨w.heap.size, 0, none⟩) | 75 => v = .pointer (some ⟨w.heap.size, 1, none⟩) | 76 => v = .int .i64 (D.np : Int) | 77 => v = .int .i64 (Z : Int) | 78 => v = .slice (some a) D.finds.length c4 | 79 => v = .int .i64 (j : Int) | 80 => v = .pointer (some (a.add (j * 9))) | 81 => v = .pointer (some (a.add (j * 9))) | 82 => v = .pointer (some ⟨(a.add (j * 9)).block, (a.add (j * 9)).off + 1, none⟩) | 83 => v = .int .i64 (y : Int) | 84 => v = .int .i64 (I : Int) | 85 => v = .pointer (some ⟨m.rp, I, none⟩) | 86 => v = .string (str (D.pg I)) | 87 => v = .tuple #[.agg #[.int .i64 kd, .int .i64 ix, .int .i64 ct, .int .u64 (bt : Int), .int .u64 (op : Int), .int .i64 lp, .int .i64 ln], .string (str dat), .bool true] | 63 => v = .tuple #[.agg #[.int .i64 kd, .int .i64 ix, .int .i64 ct, .int .u64 (bt : Int), .int .u64 (op : Int), .int .i64 lp, .int .i64 ln], .string (str dat), .bool true] | 88 => v = .agg #[.int .i64 kd, .int .i64 ix, .int .i64 ct, .int .u64 (bt : Int), .int .u64 (op : Int), .int .i64 lp, .int .i64 ln] | 89 => v = .string (str dat) | 90 => v = .bool true | 15 => v = .string (str dat) | 16 => v = .bool true | _ => True) (PhiV 28 29 14 42 #[.int .i64 0, .int .i64 0, .int .i64 0, .int .u64 0, .int .u64 0, .int .i64 0, .int .i64 0] #[.int .i64 kd, .int .i64 ix, .int .i64 ct, .int .u64 (bt : Int), .int .u64 (op : Int), .int .i64 lp, .int .i64 ln] w7) [23, 28, 29] [14] (by kernel_rfl) (by kernel_rfl) (PhiV.loc (by decide) (by decide) (by decide)) PhiV.start ⟨?_, ?_, ?_, ?_, ?_, ?_, ?_, ?_, ?_, ?_, ?_, ?_, ?_, ?_, ?_, ?_, ?_, ?_, ?_, ?_, ?_, ?_, ?_, ?_, ?_, ?_, ?_, ?_, ?_, ?_, ?_, ?_, trivial⟩ ?_
      · refine Free.small (by decide) ?_
        intro L' a' w' hΦ h'
        have hb := hΦ.1
        have e6 : a'.tmps.getD 6 undef = .pointer (some ⟨m.r, 0, none⟩) := Free.sb h' 6 (by kernel_rfl) (by kernel_rfl) rfl
        exact .val (want0 rfl) rfl (by simp [Act.eval, e6, go_sem]) rfl
      · refine Free.small (by decide) ?_
        intro L' a' w' hΦ h'
        have hb := hΦ.1
        have e64 : a'.tmps.getD 64 undef = .pointer (some ⟨m.r, 0, none⟩) := Free.sw h' 64 (by kernel_rfl) (by kernel_rfl)
        exact .val (want0 rfl) rfl (by simp [Act.eval, e64, go_sem]) rfl
      · refine Free.small (by decide) ?_
        intro L' a' w' hΦ h'
        have hb := hΦ.1
        have e65 : a'.tmps.getD 65 undef = .pointer (some ⟨m.r, 0, none⟩) := Free.sw h' 65 (by kernel_rfl) (by kernel_rfl)
        exact .val (want0 rfl) rfl (by simp [Act.eval, e65, go_sem]) rfl
      · refine Free.small (by decide) ?_
        intro L' a' w' hΦ h'
        have hb := hΦ.1
        have e66 : a'.tmps.getD 66 undef = .pointer (some ⟨m.r, 4, none⟩) := Free.sw h' 66 (by kernel_rfl) (by kernel_rfl)
        have hS := HA7.out.next hb
        have c4' : w'.cell? ⟨m.r, 4, none⟩ = some (.slice (some ⟨m.rp, 0, none⟩) N m.cp) := hS.l.s.ref.c 4 _ (by rw [HN.out]; rfl)
        exact .val (want0 rfl) rfl (by simp [Act.eval, e66, c4', go_sem]) rfl
      · refine Free.small (by decide) ?_
        intro L' a' w' hΦ h'
        have hb := hΦ.1
        have e9 : a'.tmps.getD 9 undef = .slice (some a) D.finds.length c4 := Free.sb h' 9 (by kernel_rfl) (by kernel_rfl) rfl
        exact .val (want0 rfl) rfl (by simp [Act.eval, e9, go_sem]) rfl
      · refine Free.small (by decide) ?_
        intro L' a' w' hΦ h'
        have hb := hΦ.1
        have e10 : a'.tmps.getD 10 undef = .int .i64 (j : Int) := Free.sb h' 10 (by kernel_rfl) (by kernel_rfl) rfl
        exact .val (want0 rfl) rfl (by simp [Act.eval, e10, go_sem]) rfl
      · refine Free.small (by decide) ?_
        intro L' a' w' hΦ h'
        have hb := hΦ.1
        have e68 : a'.tmps.getD 68 undef = .slice (some a) D.finds.length c4 := Free.sw h' 68 (by kernel_rfl) (by kernel_rfl)
        have e69 : a'.tmps.getD 69 undef = .int .i64 (j : Int) := Free.sw h' 69 (by kernel_rfl) (by kernel_rfl)
        exact .val (want0 rfl) rfl (by simp [Act.eval, e68, e69, hlt', go_sem]) rfl
      · refine Free.small (by decide) ?_
        intro L' a' w' hΦ h'
        have hb := hΦ.1
        have e70 : a'.tmps.getD 70 undef = .pointer (some (a.add (j * 9))) := Free.sw h' 70 (by kernel_rfl) (by kernel_rfl)
        exact .val (want0 rfl) rfl (by simp [Act.eval, e70, go_sem]) rfl
      · refine Free.small (by decide) ?_
        intro L' a' w' hΦ h'
        have hb := hΦ.1
        have e71 : a'.tmps.getD 71 undef = .pointer (some (a.add (j * 9))) := Free.sw h' 71 (by kernel_rfl) (by kernel_rfl)
        exact .val (want0 rfl) rfl (by simp [Act.eval, e71, go_sem]) rfl
      · refine Free.small (by decide) ?_
        intro L' a' w' hΦ h'
        have hb := hΦ.1
        have e72 : a'.tmps.getD 72 undef = .pointer (some (a.add (j * 9))) := Free.sw h' 72 (by kernel_rfl) (by kernel_rfl)
        have hS := HA7.out.next hb
        have a0 := (fd_cells (hS.elt Hf.out)).1
        dsimp only at a0
        exact .val (want0 rfl) rfl (by simp [Act.eval, e72, a0, go_sem]) rfl
      · refine Free.small (by decide) ?_
        intro L' a' w' hΦ h'
        have hb := hΦ.1
        have e2 : a'.tmps.getD 2 undef = .pointer (some ⟨w.heap.size, 0, none⟩) := Free.sb h' 2 (by kernel_rfl) (by kernel_rfl) rfl
        exact .val (want0 rfl) rfl (by simp [Act.eval, e2, go_sem]) rfl
      · refine Free.small (by decide) ?_
        intro L' a' w' hΦ h'
        have hb := hΦ.1
        have e74 : a'.tmps.getD 74 undef = .pointer (some ⟨w.heap.size, 0, none⟩) := Free.sw h' 74 (by kernel_rfl) (by kernel_rfl)
        exact .val (want0 rfl) rfl (by simp [Act.eval, e74, go_sem]) rfl
      · refine Free.small (by decide) ?_
        intro L' a' w' hΦ h'
        have hb := hΦ.1
        have e75 : a'.tmps.getD 75 undef = .pointer (some ⟨w.heap.size, 1, none⟩) := Free.sw h' 75 (by kernel_rfl) (by kernel_rfl)
        have hS := HA7.out.next hb
        have q1 := hS.l.cells.2
        exact .val (want0 rfl) rfl (by simp [Act.eval, e75, q1, go_sem]) rfl
      · refine Free.small (by decide) ?_
        intro L' a' w' hΦ h'
        have hb := hΦ.1
        have e73 : a'.tmps.getD 73 undef = .int .i64 (x : Int) := Free.sw h' 73 (by kernel_rfl) (by kernel_rfl)
        have e76 : a'.tmps.getD 76 undef = .int .i64 (D.np : Int) := Free.sw h' 76 (by kernel_rfl) (by kernel_rfl)
        exact .val (want0 rfl) rfl (by simp [Act.eval, e73, e76, k2, go_sem]) rfl
      · refine Free.small (by decide) ?_
        intro L' a' w' hΦ h'
        have hb := hΦ.1
        have e9 : a'.tmps.getD 9 undef = .slice (some a) D.finds.length c4 := Free.sb h' 9 (by kernel_rfl) (by kernel_rfl) rfl
        exact .val (want0 rfl) rfl (by simp [Act.eval, e9, go_sem]) rfl
      · refine Free.small (by decide) ?_
        intro L' a' w' hΦ h'
        have hb := hΦ.1
        have e10 : a'.tmps.getD 10 undef = .int .i64 (j : Int) := Free.sb h' 10 (by kernel_rfl) (by kernel_rfl) rfl
        exact .val (want0 rfl) rfl (by simp [Act.eval, e10, go_sem]) rfl
      · refine Free.small (by decide) ?_
        intro L' a' w' hΦ h'
        have hb := hΦ.1
        have e78 : a'.tmps.getD 78 undef = .slice (some a) D.finds.length c4 := Free.sw h' 78 (by kernel_rfl) (by kernel_rfl)
        have e79 : a'.tmps.getD 79 undef = .int .i64 (j : Int) := Free.sw h' 79 (by kernel_rfl) (by kernel_rfl)
        exact .val (want0 rfl) rfl (by simp [Act.eval, e78, e79, hlt', go_sem]) rfl
      · refine Free.small (by decide) ?_
        intro L' a' w' hΦ h'
        have hb := hΦ.1
        have e80 : a'.tmps.getD 80 undef = .pointer (some (a.add (j * 9))) := Free.sw h' 80 (by kernel_rfl) (by kernel_rfl)
        exact .val (want0 rfl) rfl (by simp [Act.eval, e80, go_sem]) rfl
      · refine Free.small (by decide) ?_
        intro L' a' w' hΦ h'
        have hb := hΦ.1
        have e81 : a'.tmps.getD 81 undef = .pointer (some (a.add (j * 9))) := Free.sw h' 81 (by kernel_rfl) (by kernel_rfl)
        exact .val (want0 rfl) rfl (by simp [Act.eval, e81, go_sem]) rfl
      · refine Free.small (by decide) ?_
        intro L' a' w' hΦ h'
        have hb := hΦ.1
        have e82 : a'.tmps.getD 82 undef = .pointer (some ⟨(a.add (j * 9)).block, (a.add (j * 9)).off + 1, none⟩) := Free.sw h' 82 (by kernel_rfl) (by kernel_rfl)
        have hS := HA7.out.next hb
        have a1 := (fd_cells (hS.elt Hf.out)).2.1
        dsimp only at a1
        exact .val (want0 rfl) rfl (by simp [Act.eval, e82, a1, go_sem]) rfl
      · refine Free.small (by decide) ?_
        intro L' a' w' hΦ h'
        have hb := hΦ.1
        have e77 : a'.tmps.getD 77 undef = .int .i64 (Z : Int) := Free.sw h' 77 (by kernel_rfl) (by kernel_rfl)
        have e83 : a'.tmps.getD 83 undef = .int .i64 (y : Int) := Free.sw h' 83 (by kernel_rfl) (by kernel_rfl)
        exact .val (want0 rfl) rfl (by simp [Act.eval, e77, e83, k4, go_sem]) rfl
      · refine Free.small (by decide) ?_
        intro L' a' w' hΦ h'
        have hb := hΦ.1
        have e67 : a'.tmps.getD 67 undef = .slice (some ⟨m.rp, 0, none⟩) N m.cp := Free.sw h' 67 (by kernel_rfl) (by kernel_rfl)
        have e84 : a'.tmps.getD 84 undef = .int .i64 (I : Int) := Free.sw h' 84 (by kernel_rfl) (by kernel_rfl)
        exact .val (want0 rfl) rfl (by simp [Act.eval, e67, e84, hIN2, go_sem]) rfl
      · refine Free.small (by decide) ?_
        intro L' a' w' hΦ h'
        have hb := hΦ.1
        have e85 : a'.tmps.getD 85 undef = .pointer (some ⟨m.rp, I, none⟩) := Free.sw h' 85 (by kernel_rfl) (by kernel_rfl)
        have hS := HA7.out.next hb
        have cp := hS.l.s.ref.pages.cell (j := I) (by rw [← HN.out]; exact HI.out)
        exact .val (want0 rfl) rfl (by simp [Act.eval, e85, cp, go_sem]) rfl
      · refine Free.great (by decide) ?_
        intro L' a' w' hsz' hL' hA' hΦ h'
        have hb := hΦ.1
        have e86 : a'.tmps.getD 86 undef = .string (str (D.pg I)) := Free.sw h' 86 (by kernel_rfl) (by kernel_rfl)
        refine .called (d := 87) (want0 rfl) rfl (by simp [Act.eval, e86, go_sem]) ((FG.out w').mono ?_)
        rintro e w9 ⟨rfl, hb9⟩
        exact ⟨_, rfl, rfl, hΦ.call hb9 (by decide) (by decide) (Free.slots_other (by decide))⟩
      · refine Free.small (by decide) ?_
        intro L' a' w' hΦ h'
        have hb := hΦ.1
        have e87 : a'.tmps.getD 87 undef = .tuple #[.agg #[.int .i64 kd, .int .i64 ix, .int .i64 ct, .int .u64 (bt : Int), .int .u64 (op : Int), .int .i64 lp, .int .i64 ln], .string (str dat), .bool true] := Free.sw h' 87 (by kernel_rfl) (by kernel_rfl)
        exact .val (want0 rfl) rfl (by simp [Act.eval, e87, go_sem]) rfl
      · refine Free.small (by decide) ?_
        intro L' a' w' hΦ h'
        have hb := hΦ.1
        have e63 : a'.tmps.getD 63 undef = .tuple #[.agg #[.int .i64 kd, .int .i64 ix, .int .i64 ct, .int .u64 (bt : Int), .int .u64 (op : Int), .int .i64 lp, .int .i64 ln], .string (str dat), .bool true] := Free.sw h' 63 (by kernel_rfl) (by kernel_rfl)
        exact .val (want0 rfl) rfl (by simp [Act.eval, e63, go_sem]) rfl
      · refine Free.small (by decide) ?_
        intro L' a' w' hΦ h'
        have hb := hΦ.1
        have e63 : a'.tmps.getD 63 undef = .tuple #[.agg #[.int .i64 kd, .int .i64 ix, .int .i64 ct, .int .u64 (bt : Int), .int .u64 (op : Int), .int .i64 lp, .int .i64 ln], .string (str dat), .bool true] := Free.sw h' 63 (by kernel_rfl) (by kernel_rfl)
        exact .val (want0 rfl) rfl (by simp [Act.eval, e63, go_sem]) rfl
      · refine Free.small (by decide) ?_
        intro L' a' w' hΦ h'
        have hb := hΦ.1
        have e63 : a'.tmps.getD 63 undef = .tuple #[.agg #[.int .i64 kd, .int .i64 ix, .int .i64 ct, .int .u64 (bt : Int), .int .u64 (op : Int), .int .i64 lp, .int .i64 ln], .string (str dat), .bool true] := Free.sw h' 63 (by kernel_rfl) (by kernel_rfl)
        exact .val (want0 rfl) rfl (by simp [Act.eval, e63, go_sem]) rfl
      · refine Free.great (by decide) ?_
        intro L' a' w' hsz' hL' hA' hΦ h'
        exact .made (d := 14) (v := .pointer (some ⟨w'.heap.size, 0, none⟩)) (w' := w'.alloc (.cells #[.int .i64 0, .int .i64 0, .int .i64 0, .int .u64 0, .int .u64 0, .int .i64 0, .int .i64 0] 42)) (want0 rfl) rfl (by simp [go_sem]) trivial (hΦ.alloc hL' (by decide) (Free.slots_put (by rw [hsz']; simp)))
      · refine Free.great (by decide) ?_
        intro L' a' w' hsz' hL' hA' hΦ h'
        have e88 : a'.tmps.getD 88 undef = .agg #[.int .i64 kd, .int .i64 ix, .int .i64 ct, .int .u64 (bt : Int), .int .u64 (op : Int), .int .i64 lp, .int .i64 ln] := Free.sw h' 88 (by kernel_rfl) (by kernel_rfl)
        obtain ⟨g2, f2, hz2, hn2⟩ := hΦ.box (hA' ⟨28, .data⟩ (by simp) rfl) hL'
        have f2' : a'.tmps.getD 14 undef = .pointer (some ⟨g2, 0, none⟩) := f2
        intro K' Q' hK
        rw [if_pos (want0 rfl)]
        exact wp_store_row 42 (.tmp 14) (.tmp 88) rfl g2 #[.int .i64 kd, .int .i64 ix, .int .i64 ct, .int .u64 (bt : Int), .int .u64 (op : Int), .int .i64 lp, .int .i64 ln] f2' e88 42 _ hz2 infoHd rfl (by simp [Value.oneCell']) (hK undef _ (fun d hd => by cases hd) (hn2 (by decide)))
      · refine Free.small (by decide) ?_
        intro L' a' w' hΦ h'
        have hb := hΦ.1
        have e89 : a'.tmps.getD 89 undef = .string (str dat) := Free.sw h' 89 (by kernel_rfl) (by kernel_rfl)
        exact .val (want0 rfl) rfl (by simp [Act.eval, e89, go_sem]) rfl
      · refine Free.small (by decide) ?_
        intro L' a' w' hΦ h'
        have hb := hΦ.1
        have e90 : a'.tmps.getD 90 undef = .bool true := Free.sw h' 90 (by kernel_rfl) (by kernel_rfl)
        exact .val (want0 rfl) rfl (by simp [Act.eval, e90, go_sem]) rfl
      · intro a' w' hdf hsz hwr hkp hΦ
        obtain ⟨g2, f14, hg2, hz, hbE⟩ := hΦ.done (by kernel_rfl) (by kernel_rfl)
        have f14 : a'.tmps.getD 14 undef = .pointer (some ⟨g2, 0, none⟩) := f14
        have f64 : a'.tmps.getD 64 undef = .pointer (some ⟨m.r, 0, none⟩) := hwr 64 (by kernel_rfl)
        have f65 : a'.tmps.getD 65 undef = .pointer (some ⟨m.r, 0, none⟩) := hwr 65 (by kernel_rfl)
        have f66 : a'.tmps.getD 66 undef = .pointer (some ⟨m.r, 4, none⟩) := hwr 66 (by kernel_rfl)
        have f67 : a'.tmps.getD 67 undef = .slice (some ⟨m.rp, 0, none⟩) N m.cp := hwr 67 (by kernel_rfl)
        have f68 : a'.tmps.getD 68 undef = .slice (some a) D.finds.length c4 := hwr 68 (by kernel_rfl)
        have f69 : a'.tmps.getD 69 undef = .int .i64 (j : Int) := hwr 69 (by kernel_rfl)
        have f70 : a'.tmps.getD 70 undef = .pointer (some (a.add (j * 9))) := hwr 70 (by kernel_rfl)
        have f71 : a'.tmps.getD 71 undef = .pointer (some (a.add (j * 9))) := hwr 71 (by kernel_rfl)
        have f72 : a'.tmps.getD 72 undef = .pointer (some (a.add (j * 9))) := hwr 72 (by kernel_rfl)
        have f73 : a'.tmps.getD 73 undef = .int .i64 (x : Int) := hwr 73 (by kernel_rfl)
        have f74 : a'.tmps.getD 74 undef = .pointer (some ⟨w.heap.size, 0, none⟩) := hwr 74 (by kernel_rfl)
        have f75 : a'.tmps.getD 75 undef = .pointer (some ⟨w.heap.size, 1, none⟩) := hwr 75 (by kernel_rfl)
        have f76 : a'.tmps.getD 76 undef = .int .i64 (D.np : Int) := hwr 76 (by kernel_rfl)
        have f77 : a'.tmps.getD 77 undef = .int .i64 (Z : Int) := hwr 77 (by kernel_rfl)
        have f78 : a'.tmps.getD 78 undef = .slice (some a) D.finds.length c4 := hwr 78 (by kernel_rfl)
        have f79 : a'.tmps.getD 79 undef = .int .i64 (j : Int) := hwr 79 (by kernel_rfl)
        have f80 : a'.tmps.getD 80 undef = .pointer (some (a.add (j * 9))) := hwr 80 (by kernel_rfl)
        have f81 : a'.tmps.getD 81 undef = .pointer (some (a.add (j * 9))) := hwr 81 (by kernel_rfl)
        have f82 : a'.tmps.getD 82 undef = .pointer (some ⟨(a.add (j * 9)).block, (a.add (j * 9)).off + 1, none⟩) := hwr 82 (by kernel_rfl)
        have f83 : a'.tmps.getD 83 undef = .int .i64 (y : Int) := hwr 83 (by kernel_rfl)
        have f84 : a'.tmps.getD 84 undef = .int .i64 (I : Int) := hwr 84 (by kernel_rfl)
        have f85 : a'.tmps.getD 85 undef = .pointer (some ⟨m.rp, I, none⟩) := hwr 85 (by kernel_rfl)
        have f86 : a'.tmps.getD 86 undef = .string (str (D.pg I)) := hwr 86 (by kernel_rfl)
        have f87 : a'.tmps.getD 87 undef = .tuple #[.agg #[.int .i64 kd, .int .i64 ix, .int .i64 ct, .int .u64 (bt : Int), .int .u64 (op : Int), .int .i64 lp, .int .i64 ln], .string (str dat), .bool true] := hwr 87 (by kernel_rfl)
        have f63 : a'.tmps.getD 63 undef = .tuple #[.agg #[.int .i64 kd, .int .i64 ix, .int .i64 ct, .int .u64 (bt : Int), .int .u64 (op : Int), .int .i64 lp, .int .i64 ln], .string (str dat), .bool true] := hwr 63 (by kernel_rfl)
        have f88 : a'.tmps.getD 88 undef = .agg #[.int .i64 kd, .int .i64 ix, .int .i64 ct, .int .u64 (bt : Int), .int .u64 (op : Int), .int .i64 lp, .int .i64 ln] := hwr 88 (by kernel_rfl)
        have f89 : a'.tmps.getD 89 undef = .string (str dat) := hwr 89 (by kernel_rfl)
        have f90 : a'.tmps.getD 90 undef = .bool true := hwr 90 (by kernel_rfl)
        have f15 : a'.tmps.getD 15 undef = .string (str dat) := hwr 15 (by kernel_rfl)
        have f16 : a'.tmps.getD 16 undef = .bool true := hwr 16 (by kernel_rfl)
        have hfr := Flo2.frame_eq [(64, .pointer (some ⟨m.r, 0, none⟩)), (65, .pointer (some ⟨m.r, 0, none⟩)), (66, .pointer (some ⟨m.r, 4, none⟩)), (67, .slice (some ⟨m.rp, 0, none⟩) N m.cp), (68, .slice (some a) D.finds.length c4), (69, .int .i64 (j : Int)), (70, .pointer (some (a.add (j * 9)))), (71, .pointer (some (a.add (j * 9)))), (72, .pointer (some (a.add (j * 9)))), (73, .int .i64 (x : Int)), (74, .pointer (some ⟨w.heap.size, 0, none⟩)), (75, .pointer (some ⟨w.heap.size, 1, none⟩)), (76, .int .i64 (D.np : Int)), (77, .int .i64 (Z : Int)), (78, .slice (some a) D.finds.length c4), (79, .int .i64 (j : Int)), (80, .pointer (some (a.add (j * 9)))), (81, .pointer (some (a.add (j * 9)))), (82, .pointer (some ⟨(a.add (j * 9)).block, (a.add (j * 9)).off + 1, none⟩)), (83, .int .i64 (y : Int)), (84, .int .i64 (I : Int)), (85, .pointer (some ⟨m.rp, I, none⟩)), (86, .string (str (D.pg I))), (87, .tuple #[.agg #[.int .i64 kd, .int .i64 ix, .int .i64 ct, .int .u64 (bt : Int), .int .u64 (op : Int), .int .i64 lp, .int .i64 ln], .string (str dat), .bool true]), (63, .tuple #[.agg #[.int .i64 kd, .int .i64 ix, .int .i64 ct, .int .u64 (bt : Int), .int .u64 (op : Int), .int .i64 lp, .int .i64 ln], .string (str dat), .bool true]), (88, .agg #[.int .i64 kd, .int .i64 ix, .int .i64 ct, .int .u64 (bt : Int), .int .u64 (op : Int), .int .i64 lp, .int .i64 ln]), (89, .string (str dat)), (90, .bool true), (14, .pointer (some ⟨g2, 0, none⟩)), (15, .string (str dat)), (16, .bool true)] a'.tmps _ hsz (by
          intro x' hx'
          simp only [List.mem_cons, List.not_mem_nil, or_false] at hx'
          rcases hx' with h | h | h | h | h | h | h | h | h | h | h | h | h | h | h | h | h | h | h | h | h | h | h | h | h | h | h | h | h | h | h <;> subst h
          · exact f64
          · exact f65
          · exact f66
          · exact f67
          · exact f68
          · exact f69
          · exact f70
          · exact f71
          · exact f72
          · exact f73
          · exact f74
          · exact f75
          · exact f76
          · exact f77
          · exact f78
          · exact f79
          · exact f80
          · exact f81
          · exact f82
          · exact f83
          · exact f84
          · exact f85
          · exact f86
          · exact f87
          · exact f63
          · exact f88
          · exact f89
          · exact f90
          · exact f14
          · exact f15
          · exact f16) (fun t ht => hkp t (Flo3.writes_not _ _ (by kernel_rfl) ht))
        have ha := Flo3.act_ext hfr hdf
        clear hfr hwr hkp hsz hdf hΦ f64 f65 f66 f67 f68 f69 f70 f71 f72 f73 f74 f75 f76 f77 f78 f79 f80 f81 f82 f83 f84 f85 f86 f87 f63 f88 f89 f90 f14 f15 f16
        subst ha
        simp only [Flo2.puts, List.foldl_cons, List.foldl_nil, List.setIfInBounds_toArray, List.set, Exit.then]
        have HA9 := hide (HA7.out.next hbE)
        have HX9 := hide (HX7.out.below hbE HX7.out.lt)
        have HY9 : Hid (BoxH ⟨kd, ix, ct, bt, op, lp, ln⟩ g2 w') := hide hz
        clear hz hbE HA7 HX7 FG k1 k2 k3 k4 hIN2
        obtain ⟨a0, a1, a2, a3, a4, a5, a6, a7, a8⟩ := fd_cells (HA9.out.elt Hf.out)
        dsimp only at a0 a1 a2 a3 a4 a5 a6 a7 a8
        have h0 := HX9.out.c 0 _ rfl
        have h1 := HX9.out.c 1 _ rfl
        have h2 := HX9.out.c 2 _ rfl
        have h3 := HX9.out.c 3 _ rfl
        have h4 := HX9.out.c 4 _ rfl
        have h5 := HX9.out.c 5 _ rfl
        have h6 := HX9.out.c 6 _ rfl
        dsimp only at h0 h1 h2 h3 h4 h5 h6
        go_upto_region 15 with fail
        go_quiet (fail)
        go_wp2
        go_roundw
        case rel => first | exact ⟨j + 1, Hlt.out, congrArg (Value.int .i64) e7, hide (HA9.out.next (bel_drewN (Below.refl _ _) _))⟩ | exact ⟨j + 1, Hlt.out, congrArg (Value.int .i64) (Int.natCast_succ j).symm, hide (HA9.out.next (bel_drewN (Below.refl _ _) _))⟩
        case measure => first | exact measT Hlt.out | exact measT2 e7 Hlt.out | exact measT2 (Int.natCast_succ j).symm Hlt.out
    · obtain rfl : j = D.finds.length := by omega
      go_wp2
      go_ret
      exact ⟨rfl, HA.out.l.below⟩
end Go.Proofs.Ytahipfmokbiklaa
