/-
  CONTRACT of page.read: the head that stands in 256 bytes. (By gen/PgS.gen.py.)
-/
import Derived.Test.YtahipfmokbiklaaPgR
import Derived.Test.YtahipfmokbiklaaBig
namespace Go.Proofs.Ytahipfmokbiklaa
open Go.RowKit
set_option maxRecDepth 8000

def zeroHd : Hd := ⟨0, 0, 0, 0, 0, 0, 0⟩
/-- Where the reader stands, and what the head holds, while both long numbers are read. -/
def offI (i : Nat) : Nat := if i = 0 then 4 else if i = 1 then 12 else 20
def hdI (K I C bt op i : Nat) : Hd := if i ≤ 2 then ⟨K, I, C, 0, 0, 0, 0⟩ else if i = 3 then ⟨K, I, C, bt, 0, 0, 0⟩ else ⟨K, I, C, bt, op, 0, 0⟩
def PhiHd (w : World) (rb g kb : Nat) (b : List UInt8) (K I C bt op : Nat) (i : Nat) (_f : Nat → Value) (W : World) : Prop :=
  RdS w rb g b (offI i) W ∧ BoxH (hdI K I C bt op i) kb W ∧ BoxH zeroHd w.heap.size W
theorem PhiHd.loc (w : World) (rb g kb : Nat) (b : List UInt8) (K I C bt op : Nat) : ∀ i f f' W, (∀ t ∈ ([] : List Nat), f t = f' t) → PhiHd w rb g kb b K I C bt op i f W → PhiHd w rb g kb b K I C bt op i f' W :=
  fun _ _ _ _ _ h => h
theorem BoxH.grown {h : Hd} {k g : Nat} {W W' : World} (hx : BoxH h k W) (hg : W.grownBy W' (some g)) (hn : k ≠ g) : BoxH h k W' :=
  (hg.block k hx.lt (fun e => hn (by injection e))).trans hx
theorem RdS.set {w0 W : World} {rb g off k : Nat} {b : List UInt8} (h : RdS w0 rb g b off W) (hk : rb < k) (j : Nat) (v : Value) : RdS w0 rb g b off (W.setCell ⟨k, j, none⟩ v) := by
  have hp := h.pos
  obtain ⟨A, n, c, h1, h2, h3, h4, h5, h6⟩ := h.rdr
  exact ⟨(Below.heap_setCell _ _ _ _ (show rb ≠ k by omega)).trans h.box, ⟨A, n, c, (Below.heap_setCell _ _ _ _ (show g ≠ k by omega)).trans h1, h2, h3, h4, h5, h6.below ((Below.refl g W).setCell (show g ≤ k by omega) v)⟩, h.below.setCell (show w0.heap.size ≤ k by omega) v, hp⟩

set_option maxRecDepth 4000 in
set_option maxHeartbeats 8000000 in
theorem read_any (A : Option Addr) (c B : Nat) (b : List UInt8) (w : World) (hl : Lies w B A (bys b)) (hb : b.length = 256) (hc : 256 ≤ c) (hB : B ≤ w.heap.size) :
    Calls Try.prog 63 #[.slice A 256 c] w fun e w' => e = .returned (headOf b).val ∧ Below w.heap.size w w' := by
  have hb1 := (Below.refl w.heap.size w).alloc (Nat.le_refl _) (.cells #[.int .i64 0, .int .i64 0, .int .i64 0, .int .u64 0, .int .u64 0, .int .i64 0, .int .i64 0] 42)
  have hl2 := (hl.below (hb1.mono hB)).take 24
  rw [← bys_take] at hl2
  have Fo := hide (over_any A 24 c B (b.take 24) _ hl2 (by rw [List.length_take, hb]; rfl) (by omega))
  have i2 : (24 : Int) ≤ (c : Int) := by omega
  have hz : w.heap.size < (w.alloc (.cells #[.int .i64 0, .int .i64 0, .int .i64 0, .int .u64 0, .int .u64 0, .int .i64 0, .int .i64 0] 42)).heap.size := by simp
  have HB := hide hb1
  have HL := hide hb
  have HZ := hide hz
  have X0 : Hid (BoxH zeroHd w.heap.size (w.alloc (.cells #[.int .i64 0, .int .i64 0, .int .i64 0, .int .u64 0, .int .u64 0, .int .i64 0, .int .i64 0] 42))) := hide (heap_alloc_new w _)
  clear hl hl2 hb1 hb hc
  go_enter Try.func63, Try.ntmps63
  go_wp2_with fail
  (with_reducible refine Fo.out.mono ?_)
  rintro e w1 ⟨g, rfl, hg, hr, hb⟩
  have hgl := (Array.getElem?_eq_some_iff.1 hr.choose_spec.choose_spec.choose_spec.1).1
  have HG := hide (Nat.lt_of_lt_of_le hz hg)
  have hB2 : Below w1.heap.size w1 (w1.alloc (.cells #[.pointer (some ⟨g, 0, none⟩)] 127)) := (Below.refl _ _).alloc (Nat.le_refl _) _
  have S0 := hide (show RdS w w1.heap.size g b 0 (w1.alloc (.cells #[.pointer (some ⟨g, 0, none⟩)] 127)) from
    ⟨heap_alloc_new w1 _, hr.keep hB2, (HB.out.trans (hb.mono HB.out.size)).trans (hB2.mono (HB.out.trans (hb.mono HB.out.size)).size), ⟨Nat.le_of_lt HG.out, hgl⟩⟩)
  have X1 := hide ((X0.out.below hb HZ.out).below hB2 (Nat.lt_trans HG.out hgl))
  clear hb hr hg Fo HB X0 i2 hgl hB2 HZ hz
  go_upto_region 3 with fail
  generalize hw2 : w1.alloc (.cells #[.pointer (some ⟨g, 0, none⟩)] 127) = w2 at *
  clear hw2
  generalize w1.heap.size = rb at *
  obtain ⟨K, eK⟩ : ∃ x, x = numAt b ((0 : Nat) : Int) 1 := ⟨_, rfl⟩
  have F := hide (S0.out.n1 HL.out 1 1 rfl (by omega) (by omega) (by omega))
  rw [← eK] at F
  have EK := hide eK
  clear eK
  go_wp2_with fail
  (with_reducible refine F.out.mono ?_)
  rintro e wd0 ⟨rfl, hS, hg⟩
  have S1 := hide hS
  have X2 := hide (X1.out.grown hg (Nat.ne_of_lt HG.out))
  clear hS hg F S0 X1
  obtain ⟨I, eI⟩ : ∃ x, x = numAt b ((1 : Nat) : Int) 1 := ⟨_, rfl⟩
  have F := hide (S1.out.n1 HL.out 1 1 rfl (by omega) (by omega) (by omega))
  rw [← eI] at F
  have EI := hide eI
  clear eI
  go_wp2_with fail
  (with_reducible refine F.out.mono ?_)
  rintro e wd1 ⟨rfl, hS, hg⟩
  have S2 := hide hS
  have X3 := hide (X2.out.grown hg (Nat.ne_of_lt HG.out))
  clear hS hg F S1 X2
  obtain ⟨C, eC⟩ : ∃ x, x = numAt b ((2 : Nat) : Int) 1 := ⟨_, rfl⟩
  have F := hide (S2.out.n1 HL.out 1 1 rfl (by omega) (by omega) (by omega))
  rw [← eC] at F
  have EC := hide eC
  clear eC
  go_wp2_with fail
  (with_reducible refine F.out.mono ?_)
  rintro e wd2 ⟨rfl, hS, hg⟩
  have S3 := hide hS
  have X4 := hide (X3.out.grown hg (Nat.ne_of_lt HG.out))
  clear hS hg F S2 X3
  have hB3 : Below wd2.heap.size wd2 (wd2.alloc (.cells #[.int .i64 (K : Int), .int .i64 (I : Int), .int .i64 (C : Int), .int .u64 0, .int .u64 0, .int .i64 0, .int .i64 0] 42)) := (Below.refl _ _).alloc (Nat.le_refl _) _
  have hbx : BoxH ⟨K, I, C, 0, 0, 0, 0⟩ wd2.heap.size (wd2.alloc (.cells #[.int .i64 (K : Int), .int .i64 (I : Int), .int .i64 (C : Int), .int .u64 0, .int .u64 0, .int .i64 0, .int .i64 0] 42)) := heap_alloc_new wd2 _
  have HK := hide hbx
  have HKr := hide S3.out.lt
  have S3b := hide (S3.out.keep hB3)
  have X5 := hide (X4.out.below hB3 (Nat.lt_of_lt_of_le HG.out (Nat.le_trans (Nat.le_of_lt S3.out.pos.2) (Nat.le_of_lt HKr.out))))
  clear hB3 hbx S3 X4
  go_upto_region 4 with fail
  generalize hw3 : wd2.alloc (.cells #[.int .i64 (K : Int), .int .i64 (I : Int), .int .i64 (C : Int), .int .u64 0, .int .u64 0, .int .i64 0, .int .i64 0] 42) = w3 at *
  clear hw3
  generalize wd2.heap.size = kb at *
  have cr := S3b.out.cell
  have F := hide (S3b.out.n HL.out 1 1 rfl (by omega) (by omega) (by omega))
  go_wp2_with fail
  (with_reducible refine F.out.mono ?_)
  rintro e w4 ⟨rfl, hS, hg⟩
  have S4 := hide hS
  have X6 := hide (X5.out.grown hg (Nat.ne_of_lt HG.out))
  have HK2 := hide (HK.out.grown hg (Nat.ne_of_gt (Nat.lt_trans S4.out.pos.2 HKr.out)))
  clear hS hg F S3b X5 HK cr
  obtain ⟨bt, ebt⟩ : ∃ x, x = numAt b ((4 : Nat) : Int) 8 := ⟨_, rfl⟩
  obtain ⟨op, eop⟩ : ∃ x, x = numAt b ((12 : Nat) : Int) 8 := ⟨_, rfl⟩
  have EBT := hide ebt
  have EOP := hide eop
  clear ebt eop
  go_upto_region 5 with fail
  refine Big.wp_region_big (by kernel_rfl) (fun d v => match d with | 19 => v = .pointer (some ⟨g, 0, none⟩) | 20 => v = .int .u64 (bt : Int) | 21 => v = .pointer (some ⟨g, 0, none⟩) | 22 => v = .int .u64 (op : Int) | 23 => v = .pointer (some ⟨kb, 3, none⟩) | 24 => v = .pointer (some ⟨kb, 4, none⟩) | _ => True) (PhiHd w rb g kb b K I C bt op) [1, 3, 5, 7] [] (by kernel_rfl) (by kernel_rfl) (by decide) (PhiHd.loc _ _ _ _ _ _ _ _ _ _) (⟨S4.out.drew, HK2.out, X6.out⟩) ⟨?_, ?_, ?_, ?_, ?_, ?_, ?_, ?_, trivial⟩ ?_
  · refine Big.small (by decide) ?_
    intro i' a' w' hi' hΦ h'
    have cr := hΦ.1.cell
    have e3 : a'.tmps.getD 3 undef = .pointer (some ⟨rb, 0, none⟩) := Big.sb h' 3 (by kernel_rfl) (by kernel_rfl) rfl
    exact .val (want0 rfl) rfl (by simp [Act.eval, e3, cr, go_sem]) rfl
  · refine Big.great (i := 0) rfl (by decide) ?_
    intro a' w' hsz' hΦ h'
    have e19 : a'.tmps.getD 19 undef = .pointer (some ⟨g, 0, none⟩) := Big.sw h' 19 (by kernel_rfl) (by kernel_rfl)
    have F := (show RdS w rb g b 4 w' from hΦ.1).n HL.out 8 8 rfl (by omega) (by omega) (by omega)
    rw [← EBT.out] at F
    refine .called (d := 20) (want0 rfl) rfl (by simp [Act.eval, e19, go_sem]) (F.mono ?_)
    rintro e w9 ⟨rfl, hS9, hg9⟩
    exact ⟨_, rfl, rfl, hS9, hΦ.2.1.grown hg9 (Nat.ne_of_gt (Nat.lt_trans hS9.pos.2 HKr.out)), hΦ.2.2.grown hg9 (Nat.ne_of_lt HG.out)⟩
  · refine Big.small (by decide) ?_
    intro i' a' w' hi' hΦ h'
    have cr := hΦ.1.cell
    have e3 : a'.tmps.getD 3 undef = .pointer (some ⟨rb, 0, none⟩) := Big.sb h' 3 (by kernel_rfl) (by kernel_rfl) rfl
    exact .val (want0 rfl) rfl (by simp [Act.eval, e3, cr, go_sem]) rfl
  · refine Big.great (i := 1) rfl (by decide) ?_
    intro a' w' hsz' hΦ h'
    have e21 : a'.tmps.getD 21 undef = .pointer (some ⟨g, 0, none⟩) := Big.sw h' 21 (by kernel_rfl) (by kernel_rfl)
    have F := (show RdS w rb g b 12 w' from hΦ.1).n HL.out 8 8 rfl (by omega) (by omega) (by omega)
    rw [← EOP.out] at F
    refine .called (d := 22) (want0 rfl) rfl (by simp [Act.eval, e21, go_sem]) (F.mono ?_)
    rintro e w9 ⟨rfl, hS9, hg9⟩
    exact ⟨_, rfl, rfl, hS9, hΦ.2.1.grown hg9 (Nat.ne_of_gt (Nat.lt_trans hS9.pos.2 HKr.out)), hΦ.2.2.grown hg9 (Nat.ne_of_lt HG.out)⟩
  · refine Big.small (by decide) ?_
    intro i' a' w' hi' hΦ h'
    have cr := hΦ.1.cell
    have e5 : a'.tmps.getD 5 undef = .pointer (some ⟨kb, 0, none⟩) := Big.sb h' 5 (by kernel_rfl) (by kernel_rfl) rfl
    exact .val (want0 rfl) rfl (by simp [Act.eval, e5, go_sem]) rfl
  · refine Big.great (i := 2) rfl (by decide) ?_
    intro a' w' hsz' hΦ h'
    have e23 : a'.tmps.getD 23 undef = .pointer (some ⟨kb, 3, none⟩) := Big.sw h' 23 (by kernel_rfl) (by kernel_rfl)
    have e20 : a'.tmps.getD 20 undef = .int .u64 (bt : Int) := Big.sw h' 20 (by kernel_rfl) (by kernel_rfl)
    have cf := hΦ.2.1.c 3 _ rfl
    have ff := hΦ.2.1.free 3
    exact .stored (w' := w'.setCell ⟨kb, 3, none⟩ (.int .u64 (bt : Int))) (want0 rfl) rfl (by simp [Act.eval, e23, e20, cf, ff, go_sem]) ⟨hΦ.1.set HKr.out _ _, heap_set hΦ.2.1 3 _, (Below.heap_setCell _ _ _ _ (Nat.ne_of_lt (Nat.lt_trans HG.out (Nat.lt_trans hΦ.1.pos.2 HKr.out)))).trans hΦ.2.2⟩
  · refine Big.small (by decide) ?_
    intro i' a' w' hi' hΦ h'
    have cr := hΦ.1.cell
    have e5 : a'.tmps.getD 5 undef = .pointer (some ⟨kb, 0, none⟩) := Big.sb h' 5 (by kernel_rfl) (by kernel_rfl) rfl
    exact .val (want0 rfl) rfl (by simp [Act.eval, e5, go_sem]) rfl
  · refine Big.great (i := 3) rfl (by decide) ?_
    intro a' w' hsz' hΦ h'
    have e24 : a'.tmps.getD 24 undef = .pointer (some ⟨kb, 4, none⟩) := Big.sw h' 24 (by kernel_rfl) (by kernel_rfl)
    have e22 : a'.tmps.getD 22 undef = .int .u64 (op : Int) := Big.sw h' 22 (by kernel_rfl) (by kernel_rfl)
    have cf := hΦ.2.1.c 4 _ rfl
    have ff := hΦ.2.1.free 4
    exact .stored (w' := w'.setCell ⟨kb, 4, none⟩ (.int .u64 (op : Int))) (want0 rfl) rfl (by simp [Act.eval, e24, e22, cf, ff, go_sem]) ⟨hΦ.1.set HKr.out _ _, heap_set hΦ.2.1 4 _, (Below.heap_setCell _ _ _ _ (Nat.ne_of_lt (Nat.lt_trans HG.out (Nat.lt_trans hΦ.1.pos.2 HKr.out)))).trans hΦ.2.2⟩
  · intro a' w' hdf hsz hwr hkp hΦ
    have S5 := hide (show RdS w rb g b 20 w' from hΦ.1)
    have HK3 := hide (show BoxH ⟨K, I, C, bt, op, 0, 0⟩ kb w' from hΦ.2.1)
    have X7 := hide hΦ.2.2
    have f19 : a'.tmps.getD 19 undef = .pointer (some ⟨g, 0, none⟩) := hwr 19 (by kernel_rfl)
    have f20 : a'.tmps.getD 20 undef = .int .u64 (bt : Int) := hwr 20 (by kernel_rfl)
    have f21 : a'.tmps.getD 21 undef = .pointer (some ⟨g, 0, none⟩) := hwr 21 (by kernel_rfl)
    have f22 : a'.tmps.getD 22 undef = .int .u64 (op : Int) := hwr 22 (by kernel_rfl)
    have f23 : a'.tmps.getD 23 undef = .pointer (some ⟨kb, 3, none⟩) := hwr 23 (by kernel_rfl)
    have f24 : a'.tmps.getD 24 undef = .pointer (some ⟨kb, 4, none⟩) := hwr 24 (by kernel_rfl)
    have hfr := Flo2.frame_eq [(19, .pointer (some ⟨g, 0, none⟩)), (20, .int .u64 (bt : Int)), (21, .pointer (some ⟨g, 0, none⟩)), (22, .int .u64 (op : Int)), (23, .pointer (some ⟨kb, 3, none⟩)), (24, .pointer (some ⟨kb, 4, none⟩))] a'.tmps _ hsz (by
      intro x hx
      simp only [List.mem_cons, List.not_mem_nil, or_false] at hx
      rcases hx with h | h | h | h | h | h <;> subst h
      · exact f19
      · exact f20
      · exact f21
      · exact f22
      · exact f23
      · exact f24) (fun t ht => hkp t (Flo3.writes_not _ _ (by kernel_rfl) ht))
    have ha := Flo3.act_ext hfr hdf
    clear hfr hwr hkp hsz hdf hΦ S4 X6 HK2 f19 f20 f21 f22 f23 f24
    subst ha
    simp only [Flo2.puts, List.foldl_cons, List.foldl_nil, List.setIfInBounds_toArray, List.set, Exit.then]
    generalize w' = w5 at *
    obtain ⟨P, ep⟩ : ∃ x, x = numAt b ((20 : Nat) : Int) 2 := ⟨_, rfl⟩
    have F := hide (S5.out.n1 HL.out 2 2 rfl (by omega) (by omega) (by omega))
    rw [← ep] at F
    have EP := hide ep
    clear ep
    go_wp2_with fail
    (with_reducible refine F.out.mono ?_)
    rintro e w6 ⟨rfl, hS, hg⟩
    have S6 := hide hS
    have X8 := hide (X7.out.grown hg (Nat.ne_of_lt HG.out))
    have HK4 := hide (HK3.out.grown hg (Nat.ne_of_gt (Nat.lt_trans S6.out.pos.2 HKr.out)))
    clear hS hg F S5 X7 HK3
    obtain ⟨n, en⟩ : ∃ x, x = numAt b ((22 : Nat) : Int) 2 := ⟨_, rfl⟩
    have F := hide (S6.out.n1 HL.out 2 2 rfl (by omega) (by omega) (by omega))
    rw [← en] at F
    have EN := hide en
    clear en
    go_wp2_with fail
    (with_reducible refine F.out.mono ?_)
    rintro e w7 ⟨rfl, hS, hg⟩
    have HBz := hide hS.below
    have Hgk := hide (Nat.lt_trans S6.out.pos.2 HKr.out)
    have X9 := hide (X8.out.grown hg (Nat.ne_of_lt HG.out))
    have HK5 := hide (HK4.out.grown hg (Nat.ne_of_gt (Nat.lt_trans S6.out.pos.2 HKr.out)))
    have Hne := hide (Nat.ne_of_lt (Nat.lt_trans HG.out (Nat.lt_trans S6.out.pos.2 HKr.out)))
    clear hS hg F S6 X8 HK4
    have c5 := HK5.out.c 5 _ rfl
    have c6 := HK5.out.c 6 _ rfl
    have f5 := HK5.out.free 5
    have f6 := HK5.out.free 6
    dsimp only at c5 c6
    go_upto_region 7 with fail
    clear c5 c6 f5 f6
    have X10 : Hid (BoxH zeroHd w.heap.size ((w7.setCell ⟨kb, 5, none⟩ (.int .i64 (P : Int))).setCell ⟨kb, 6, none⟩ (.int .i64 (n : Int)))) := hide (((Below.heap_setCell (w7.setCell ⟨kb, 5, none⟩ (.int .i64 (P : Int))) ⟨kb, 6, none⟩ (.int .i64 (n : Int)) _ Hne.out).trans (Below.heap_setCell w7 ⟨kb, 5, none⟩ (.int .i64 (P : Int)) _ Hne.out)).trans X9.out)
    have HK6 := hide (show BoxH ⟨K, I, C, bt, op, P, n⟩ kb ((w7.setCell ⟨kb, 5, none⟩ (.int .i64 (P : Int))).setCell ⟨kb, 6, none⟩ (.int .i64 (n : Int))) from heap_set (heap_set HK5.out 5 _) 6 _)
    have HBy := hide ((HBz.out.setCell (p := ⟨kb, 5, none⟩) (Nat.le_trans (Nat.le_of_lt HG.out) (Nat.le_of_lt Hgk.out)) (.int .i64 (P : Int))).setCell (p := ⟨kb, 6, none⟩) (Nat.le_trans (Nat.le_of_lt HG.out) (Nat.le_of_lt Hgk.out)) (.int .i64 (n : Int)))
    clear X9 HK5 HBz
    generalize hw8 : (w7.setCell ⟨kb, 5, none⟩ (.int .i64 (P : Int))).setCell ⟨kb, 6, none⟩ (.int .i64 (n : Int)) = w8 at *
    clear hw8
    have R := HK6.out.range
    unfold Hd.cells at R
    dsimp only at R
    have z0 := X10.out.c 0 _ rfl
    have z1 := X10.out.c 1 _ rfl
    have z2 := X10.out.c 2 _ rfl
    have z3 := X10.out.c 3 _ rfl
    have z4 := X10.out.c 4 _ rfl
    have z5 := X10.out.c 5 _ rfl
    have z6 := X10.out.c 6 _ rfl
    have y0 := X10.out.free 0
    have y1 := X10.out.free 1
    have y2 := X10.out.free 2
    have y3 := X10.out.free 3
    have y4 := X10.out.free 4
    have y5 := X10.out.free 5
    have y6 := X10.out.free 6
    go_wp2_with (with_reducible refine wpl_load_mid rfl 42 (.tmp 5) rfl kb 0 _ R rfl _ Try.underlying42 rfl 7 infoHd (by with_unfolding_all rfl) ?_)
    clear R z0 z1 z2 z3 z4 z5 z6 y0 y1 y2 y3 y4 y5 y6
    have hH : headOf b = ⟨K, I, C, bt, op, P, n⟩ := by rw [EK.out, EI.out, EC.out, EBT.out, EOP.out, EP.out, EN.out]; rfl
    have HR : BoxH ⟨K, I, C, bt, op, P, n⟩ w.heap.size (((((((w8.setCell ⟨w.heap.size, 0, none⟩ (.int .i64 (K : Int))).setCell ⟨w.heap.size, 1, none⟩ (.int .i64 (I : Int))).setCell ⟨w.heap.size, 2, none⟩ (.int .i64 (C : Int))).setCell ⟨w.heap.size, 3, none⟩ (.int .u64 (bt : Int))).setCell ⟨w.heap.size, 4, none⟩ (.int .u64 (op : Int))).setCell ⟨w.heap.size, 5, none⟩ (.int .i64 (P : Int))).setCell ⟨w.heap.size, 6, none⟩ (.int .i64 (n : Int))) := (heap_set (heap_set (heap_set (heap_set (heap_set (heap_set (heap_set X10.out 0 _) 1 _) 2 _) 3 _) 4 _) 5 _) 6 _)
    have HW : Below w.heap.size w (((((((w8.setCell ⟨w.heap.size, 0, none⟩ (.int .i64 (K : Int))).setCell ⟨w.heap.size, 1, none⟩ (.int .i64 (I : Int))).setCell ⟨w.heap.size, 2, none⟩ (.int .i64 (C : Int))).setCell ⟨w.heap.size, 3, none⟩ (.int .u64 (bt : Int))).setCell ⟨w.heap.size, 4, none⟩ (.int .u64 (op : Int))).setCell ⟨w.heap.size, 5, none⟩ (.int .i64 (P : Int))).setCell ⟨w.heap.size, 6, none⟩ (.int .i64 (n : Int))) := (((((((HBy.out.setCell (p := ⟨w.heap.size, 0, none⟩) (Nat.le_refl _) _).setCell (p := ⟨w.heap.size, 1, none⟩) (Nat.le_refl _) _).setCell (p := ⟨w.heap.size, 2, none⟩) (Nat.le_refl _) _).setCell (p := ⟨w.heap.size, 3, none⟩) (Nat.le_refl _) _).setCell (p := ⟨w.heap.size, 4, none⟩) (Nat.le_refl _) _).setCell (p := ⟨w.heap.size, 5, none⟩) (Nat.le_refl _) _).setCell (p := ⟨w.heap.size, 6, none⟩) (Nat.le_refl _) _)
    generalize (((((((w8.setCell ⟨w.heap.size, 0, none⟩ (.int .i64 (K : Int))).setCell ⟨w.heap.size, 1, none⟩ (.int .i64 (I : Int))).setCell ⟨w.heap.size, 2, none⟩ (.int .i64 (C : Int))).setCell ⟨w.heap.size, 3, none⟩ (.int .u64 (bt : Int))).setCell ⟨w.heap.size, 4, none⟩ (.int .u64 (op : Int))).setCell ⟨w.heap.size, 5, none⟩ (.int .i64 (P : Int))).setCell ⟨w.heap.size, 6, none⟩ (.int .i64 (n : Int))) = w9 at *
    have c0 := HR.c 0 _ rfl
    have c1 := HR.c 1 _ rfl
    have c2 := HR.c 2 _ rfl
    have c3 := HR.c 3 _ rfl
    have c4 := HR.c 4 _ rfl
    have c5 := HR.c 5 _ rfl
    have c6 := HR.c 6 _ rfl
    dsimp only at c0 c1 c2 c3 c4 c5 c6
    rw [hH]
    refine bodyPost_ret (v := .agg #[.int .i64 (K : Int), .int .i64 (I : Int), .int .i64 (C : Int), .int .u64 (bt : Int), .int .u64 (op : Int), .int .i64 (P : Int), .int .i64 (n : Int)]) ?_ rfl ⟨rfl, HW⟩
    rw [results_cell1P rfl]
    go_simp
end Go.Proofs.Ytahipfmokbiklaa
