/-
  LAYER 18: what the statements' awake finds, plain.
  LAYER 18, CONTRACTS of package scan: finder and its closure.
-/
import Derived.Test.YtahipfmokbiklaaScS
import Derived.Test.YtahipfmokbiklaaDev10
import Derived.Test.YtahipfmokbiklaaPgF
import Derived.Test.YtahipfmokbiklaaScN
namespace Go.Proofs.Ytahipfmokbiklaa
section
open Go.RowKit
set_option maxRecDepth 8000

def awH : Hd := ⟨3, 0, 1, 0, 0, 3, 1⟩
def awP : List UInt8 := pageB awH [120]
def ones256 : List UInt8 := List.replicate 256 255
theorem awP_len : awP.length = 256 := pageB_len _ _ (by decide)
def sD0 : Dv := Dv.fresh ⟨8, 4, 0⟩ [4] []
def sD1 : Dv := (sD0.progR 2 0 awP).2
theorem sD0_kind : sD0.kind = 0 := rfl
theorem sProg : sD0.progR 2 0 awP = (0, sD0.progd 2 awP) := by
  unfold Dv.progR
  rw [if_neg (show ¬ sD0.dn = true from Bool.false_ne_true), if_neg (not_not_intro (show sD0.g.Has 2 0 by decide)), if_neg (show ¬ sD0.bad (2 : Int).toNat = true by decide), if_neg (show ¬ ((0 : Int) ≠ (sD0.nx (2 : Int).toNat : Int)) from not_not_intro rfl)]
  rfl
theorem sErr : (sD0.progR 2 0 awP).1 = 0 := by rw [sProg]
theorem sD1_eq : sD1 = sD0.progd 2 awP := by unfold sD1; rw [sProg]
theorem sMask : sD0.mask = [255] := by
  unfold Dv.mask
  rw [sD0_kind, if_neg (by decide)]
theorem sPg (i : Nat) : sD1.pg i = if i = 8 then awP else ones256 := by
  rw [sD1_eq]
  show upd sD0.pg 8 (progL (sD0.pg 8) awP sD0.mask) i = _
  rw [sMask]
  unfold upd
  split
  · show progL (List.replicate 256 255) awP [255] = awP
    exact prog_full _ awP_len
  · rfl
theorem sBad (i : Nat) : sD1.bad i = decide ((i : Int) ∈ [4]) := by rw [sD1_eq]; rfl
theorem sNp : sD1.np = 4 := by rw [sD1_eq]; rfl
theorem sNb : sD1.nb = 8 := by rw [sD1_eq]; rfl
theorem sDn : sD1.dn = false := by rw [sD1_eq]; rfl
theorem awP_right : rightB awP = true := page_right awH [120] (by decide) rfl
theorem awP_get : getR awP = (awH, [120], 0) := by
  have hm : awH.May := by decide
  have h1 : classN awP = 1 := class_page awH [120] hm rfl
  obtain ⟨h2, h3⟩ := page_back awH [120] hm rfl
  unfold getR
  rw [if_neg (by omega), if_pos h1]
  show (headOf (pageB awH [120]), dataOf (pageB awH [120]), (0 : Int)) = _
  rw [h2, h3]
theorem ones_class : classN ones256 = 0 := if_pos (show ones256 = List.replicate 256 255 from rfl)
theorem ones_right : rightB ones256 = false := by
  cases h : rightB ones256 with
  | false => rfl
  | true => exact absurd rfl (right_not_blank _ h)
theorem sFindNone {i : Nat} (h : i ≠ 8) : sD1.findAt i = [] := findAt_none (.inl (by rw [sPg, if_neg h]; exact ones_right))
theorem sFind : sD1.findAt 8 = [⟨2, 0, awH⟩] := by
  have hh : headOf awP = awH := (page_back awH [120] (by decide) rfl).1
  have e1 : sD1.pg 8 = awP := by rw [sPg, if_pos rfl]
  have e2 : sD1.bad (8 / sD1.np) = false := by rw [sBad, sNp]; decide
  have e3 : (headOf (sD1.pg 8)).kind ≠ 1 := by rw [e1, hh]; decide
  have e4 : rightB (sD1.pg 8) = true := by rw [e1]; exact awP_right
  have e5 : headOf (sD1.pg 8) = awH := by rw [e1]; exact hh
  have h := findAt_has e4 e3 e2
  rw [e5, sNp] at h
  exact h
theorem sFinds : ∀ n, findsF sD1 (n + 1) = [⟨2, 0, awH⟩]
  | 0 => by
    show [] ++ sD1.findAt (2 * sD1.np + 0) = _
    rw [sNp, show 2 * 4 + 0 = 8 from rfl, sFind]
    rfl
  | n + 1 => by
    show findsF sD1 (n + 1) ++ sD1.findAt (2 * sD1.np + (n + 1)) = _
    rw [sFinds n, sNp, sFindNone (by omega)]
    rfl
theorem sFindsAll : sD1.finds = [⟨2, 0, awH⟩] := by
  unfold Dv.finds
  rw [sNb, sNp]
  exact sFinds 23
theorem sData : sD1.dataR 2 0 = (awH, [120], 0) := by
  have e : sD1.readR 2 0 = (0, awP) := by
    unfold Dv.readR
    rw [if_neg (by rw [sDn]; exact Bool.false_ne_true), if_neg (not_not_intro (show sD1.g.Has 2 0 by rw [sD1_eq]; decide)), sNp, sPg]
    rfl
  unfold Dv.dataR
  rw [e, if_pos rfl]
  exact awP_get
theorem sBlank2 : sD1.blank 2 = false := by
  unfold Dv.blank
  rw [sDn, sNb, sNp, decide_eq_true (by decide)]
  show (true && blankF sD1 2 4) = false
  have h : blankF sD1 2 1 = false := by
    show (true && decide (classN (sD1.pg (2 * sD1.np + 0)) = 0)) = false
    rw [sNp, sPg, if_pos rfl, (class_one awP).2 awP_right]
    rfl
  have := blankF_no sD1 2 h 3
  rw [show 1 + 3 = 4 from rfl] at this
  rw [this]
  rfl
theorem sBlank3 : sD1.blank 3 = true := by
  unfold Dv.blank
  rw [sDn, sNb, sNp, decide_eq_true (by decide)]
  have h : ∀ n, n ≤ 4 → blankF sD1 3 n = true := by
    intro n
    induction n with
    | zero => intro _; rfl
    | succ n ih =>
      intro hn
      show (blankF sD1 3 n && decide (classN (sD1.pg (3 * sD1.np + n)) = 0)) = true
      rw [ih (by omega), sNp, sPg, if_neg (by omega), ones_class]
      rfl
  show (true && blankF sD1 3 4) = true
  rw [h 4 (Nat.le_refl _)]
  rfl
theorem sBlocks (m : Bool) : sD1.blocks m = if m then [4] else [2, 3, 5, 6, 7] := by
  unfold Dv.blocks
  rw [sNb]
  simp only [blocksF, sBad]
  cases m <;> decide
end
section
open Go.RowKit
set_option maxRecDepth 8000

theorem box9 {f : Fd} {k : Nat} {W : World} (hx : BoxF f k W) (x y : Nat) (kd ix ct : Int) (bt op : Nat) (lp ln : Int) : BoxF ⟨x, y, ⟨kd, ix, ct, bt, op, lp, ln⟩⟩ k (((((((((W.setCell ⟨k, 0, none⟩ (.int .i64 (x : Int))).setCell ⟨k, 1, none⟩ (.int .i64 (y : Int))).setCell ⟨k, 2, none⟩ (.int .i64 kd)).setCell ⟨k, 3, none⟩ (.int .i64 ix)).setCell ⟨k, 4, none⟩ (.int .i64 ct)).setCell ⟨k, 5, none⟩ (.int .u64 (bt : Int))).setCell ⟨k, 6, none⟩ (.int .u64 (op : Int))).setCell ⟨k, 7, none⟩ (.int .i64 lp)).setCell ⟨k, 8, none⟩ (.int .i64 ln)) := by
  have h0 := heap_set hx 0 (.int .i64 (x : Int))
  have h1 := heap_set h0 1 (.int .i64 (y : Int))
  have h2 := heap_set h1 2 (.int .i64 kd)
  have h3 := heap_set h2 3 (.int .i64 ix)
  have h4 := heap_set h3 4 (.int .i64 ct)
  have h5 := heap_set h4 5 (.int .u64 (bt : Int))
  have h6 := heap_set h5 6 (.int .u64 (op : Int))
  have h7 := heap_set h6 7 (.int .i64 lp)
  have h8 := heap_set h7 8 (.int .i64 ln)
  have e : (((((((((f.cells.toArray.setIfInBounds 0 (.int .i64 (x : Int))).setIfInBounds 1 (.int .i64 (y : Int))).setIfInBounds 2 (.int .i64 kd)).setIfInBounds 3 (.int .i64 ix)).setIfInBounds 4 (.int .i64 ct)).setIfInBounds 5 (.int .u64 (bt : Int))).setIfInBounds 6 (.int .u64 (op : Int))).setIfInBounds 7 (.int .i64 lp)).setIfInBounds 8 (.int .i64 ln)) = (Fd.mk x y ⟨kd, ix, ct, bt, op, lp, ln⟩).cells.toArray := by
    rcases f with ⟨a, b, ⟨c, d, e, f, g, h, i⟩⟩
    simp [Fd.cells]
  rw [e] at h8
  exact h8
theorem below9 {B k : Nat} {w W : World} (hb : Below B w W) (hk : B ≤ k) (x y : Nat) (kd ix ct : Int) (bt op : Nat) (lp ln : Int) : Below B w (((((((((W.setCell ⟨k, 0, none⟩ (.int .i64 (x : Int))).setCell ⟨k, 1, none⟩ (.int .i64 (y : Int))).setCell ⟨k, 2, none⟩ (.int .i64 kd)).setCell ⟨k, 3, none⟩ (.int .i64 ix)).setCell ⟨k, 4, none⟩ (.int .i64 ct)).setCell ⟨k, 5, none⟩ (.int .u64 (bt : Int))).setCell ⟨k, 6, none⟩ (.int .u64 (op : Int))).setCell ⟨k, 7, none⟩ (.int .i64 lp)).setCell ⟨k, 8, none⟩ (.int .i64 ln)) := (((((((((hb.setCell (p := ⟨k, 0, none⟩) hk _).setCell (p := ⟨k, 1, none⟩) hk _).setCell (p := ⟨k, 2, none⟩) hk _).setCell (p := ⟨k, 3, none⟩) hk _).setCell (p := ⟨k, 4, none⟩) hk _).setCell (p := ⟨k, 5, none⟩) hk _).setCell (p := ⟨k, 6, none⟩) hk _).setCell (p := ⟨k, 7, none⟩) hk _).setCell (p := ⟨k, 8, none⟩) hk _)
theorem load_fd {k : Nat} {W : World} {f : Fd} (hx : BoxF f k W) : (loadVar 48 ⟨k, 0, none⟩).run Try.prog W = .ok f.val W :=
  run_loadVar_row W k 48 48 f.cells.toArray (0, 0) _ hx Try.underlying48 rfl infoFd
theorem results_fd1 {fn : Func} {p u : Tmp} (h : fn.results = #[.cell p 48, .tmp u]) (tmps : Array Value) (W : World) (f : Fd) (k : Nat) (hp : tmps.getD p undef = .pointer (some ⟨k, 0, none⟩)) (hx : BoxF f k W) :
    (results fn tmps).run Try.prog W = .ok (.tuple #[f.val, tmps.getD u undef]) W := by
  have hp' : tmps[p]?.getD undef = .pointer (some ⟨k, 0, none⟩) := by simpa using hp
  simp [results, h, hp', asAddr, load_fd hx, Result.andThen]

theorem finder_any (p : Option Addr) (w : World) : Calls Try.prog 35 #[.pointer p] w fun e w' => e = .returned (.func (.func 60) #[] #[.pointer (some ⟨w.heap.size, 0, none⟩)]) ∧ w' = w.alloc (.cells #[.pointer p] 30) := by
  go_enter Try.func35, Try.ntmps35
  go_wp2
  go_ret
  exact ⟨rfl, rfl⟩

/-- What is told of a page of a data block. -/
def Dv.findR (D : Dv) (b n : Nat) : Fd × Int :=
  if D.bad b = true then (zeroFd, 12) else if (getR (D.pg (b * D.np + n))).2.2 ≠ 0 then (zeroFd, (getR (D.pg (b * D.np + n))).2.2) else if (getR (D.pg (b * D.np + n))).1.kind = 1 then (zeroFd, 8) else (⟨b, n, (getR (D.pg (b * D.np + n))).1⟩, 0)
/-- Where the closure's variables lie. -/
structure FdS (w : World) (k g b n : Nat) (W : World) : Prop where
  box : W.heap[g]? = some (.cells #[.pointer (some ⟨k, 0, none⟩)] 30 (0, 0))
  pl : BoxedP (b : Int) (n : Int) w.heap.size W
  res : BoxF zeroFd (w.heap.size + 1) W
  below : Below w.heap.size w W
theorem FdS.later {w W W' : World} {k g b n : Nat} (h : FdS w k g b n W) (hb : Below W.heap.size W W') : FdS w k g b n W' :=
  ⟨(hb.block g (Array.getElem?_eq_some_iff.1 h.box).1).trans h.box, h.pl.below hb (Nat.lt_of_succ_lt h.res.lt), h.res.below hb h.res.lt, h.below.trans (hb.mono h.below.size)⟩
section
variable {w : World} {B0 B : Nat} {D : Dv} {k kb kp km : Nat}
set_option maxHeartbeats 4000000 in
theorem find_any (h : DevAt w B0 B D k kb kp km) (hB : B ≤ w.heap.size) (hd : D.dn = false) (b n g : Nat) (hb : b < D.nb) (hn : n < D.np) (hg : w.heap[g]? = some (.cells #[.pointer (some ⟨k, 0, none⟩)] 30 (0, 0))) :
    Calls Try.prog 60 #[.agg #[.int .i64 (b : Int), .int .i64 (n : Int)], .pointer (some ⟨g, 0, none⟩)] w fun e w' => e = .returned (.tuple #[(D.findR b n).1.val, .int .i64 (D.findR b n).2]) ∧ Below w.heap.size w w' := by
  have S0 : Hid (FdS w k g b n ((w.alloc (.cells #[.int .i64 (b : Int), .int .i64 (n : Int)] 46)).alloc (.cells zeroFd.cells.toArray 48))) := by
    have b1 := (Below.refl w.heap.size w).alloc (Nat.le_refl _) (.cells #[.int .i64 (b : Int), .int .i64 (n : Int)] 46)
    have b2 := b1.alloc b1.size (.cells zeroFd.cells.toArray 48)
    have hx := BoxF.new zeroFd (w.alloc (.cells #[.int .i64 (b : Int), .int .i64 (n : Int)] 46))
    rw [show (w.alloc (.cells #[.int .i64 (b : Int), .int .i64 (n : Int)] 46)).heap.size = w.heap.size + 1 by simp] at hx
    exact ⟨(b2.block g (Array.getElem?_eq_some_iff.1 hg).1).trans hg, (BoxedP.new (b : Int) (n : Int) w).below ((Below.refl _ _).alloc (by simp) _) (Nat.lt_succ_self _), hx, b2⟩
  rw [show zeroFd.cells.toArray = #[.int .i64 0, .int .i64 0, .int .i64 0, .int .i64 0, .int .i64 0, .int .u64 0, .int .u64 0, .int .i64 0, .int .i64 0] from rfl] at S0
  have HD := hide (fun W (hW : Below w.heap.size w W) => h.below (hW.mono hB))
  have HBB := hide hB
  have FD := hide (fun W (hW : Below w.heap.size w W) => sdata_any (h.below (hW.mono hB)) (Nat.le_trans hB hW.size) (b : Int) (n : Int))
  have FM := hide (fun W (hW : Below w.heap.size w W) => marked_some (h.below (hW.mono hB)) b hb)
  have hdr : D.dataR (b : Int) (n : Int) = getR (D.pg (b * D.np + n)) := by
    have hs := h.sides
    have e : D.readR (b : Int) (n : Int) = (0, D.pg (b * D.np + n)) := by
      unfold Dv.readR
      rw [if_neg (show ¬ D.dn = true by rw [hd]; intro h; cases h), if_neg (not_not_intro (show D.g.Has (b : Int) (n : Int) from ⟨by omega, by rw [hs.2.2.2.2.1]; omega, by omega, by rw [hs.2.2.2.2.2]; omega⟩)), Int.toNat_natCast, Int.toNat_natCast]
    unfold Dv.dataR
    rw [e, if_pos rfl]
  rw [hdr] at FD
  obtain ⟨R, hR⟩ : ∃ R, R = D.findR b n := ⟨_, rfl⟩
  rw [← hR]
  unfold Dv.findR at hR
  generalize getR (D.pg (b * D.np + n)) = gr at *
  clear h hB hd hb hn hg hdr HD
  by_cases hbad : D.bad b = true
  · rw [if_pos hbad] at hR
    subst hR
    rw [hbad] at FM
    clear hbad
    go_enter Try.func60, Try.ntmps60
    go_upto_region 1 with fail
    generalize (w.alloc (.cells #[.int .i64 (b : Int), .int .i64 (n : Int)] 46)).alloc _ = w2 at *
    have c0 := cell_of_one S0.out.box
    have p0 := S0.out.pl.x
    go_wp2_with fail
    (with_reducible refine (FM.out _ S0.out.below).mono ?_)
    rintro e w3 ⟨rfl, rfl⟩
    have z0 := S0.out.res.c 0 _ rfl
    have z1 := S0.out.res.c 1 _ rfl
    have z2 := S0.out.res.c 2 _ rfl
    have z3 := S0.out.res.c 3 _ rfl
    have z4 := S0.out.res.c 4 _ rfl
    have z5 := S0.out.res.c 5 _ rfl
    have z6 := S0.out.res.c 6 _ rfl
    have z7 := S0.out.res.c 7 _ rfl
    have z8 := S0.out.res.c 8 _ rfl
    have y0 := S0.out.res.free 0
    have y1 := S0.out.res.free 1
    have y2 := S0.out.res.free 2
    have y3 := S0.out.res.free 3
    have y4 := S0.out.res.free 4
    have y5 := S0.out.res.free 5
    have y6 := S0.out.res.free 6
    have y7 := S0.out.res.free 7
    have y8 := S0.out.res.free 8
    go_wp2
    refine bodyPost_ret (results_fd1 rfl _ _ zeroFd (w.heap.size + 1) rfl (box9 S0.out.res 0 0 0 0 0 0 0 0 0)) rfl ⟨rfl, below9 S0.out.below (Nat.le_succ _) 0 0 0 0 0 0 0 0 0⟩
  · rw [if_neg hbad] at hR
    have hbad2 : D.bad b = false := by simpa using hbad
    rw [hbad2] at FM
    clear hbad hbad2
    rcases gr with ⟨⟨kd, ix, ct, bt, op, lp, ln⟩, gd, er⟩
    unfold Hd.val at FD
    dsimp only at FD hR
    go_enter Try.func60, Try.ntmps60
    go_upto_region 1 with fail
    generalize (w.alloc (.cells #[.int .i64 (b : Int), .int .i64 (n : Int)] 46)).alloc _ = w2 at *
    have c0 := cell_of_one S0.out.box
    have p0 := S0.out.pl.x
    have p1 := S0.out.pl.y
    have HR := hide hR
    clear hR
    go_wp2_with fail
    (with_reducible refine (FM.out _ S0.out.below).mono ?_)
    rintro e w3 ⟨rfl, rfl⟩
    clear FM
    go_wp2_with fail
    (with_reducible refine (FD.out _ S0.out.below).mono ?_)
    rintro e w3 ⟨rfl, hb⟩
    have S1 := hide (S0.out.later hb)
    clear hb FD S0 c0 p0 p1
    have S2 := hide (S1.out.later ((Below.refl w3.heap.size w3).alloc (Nat.le_refl _) (.cells #[.int .i64 kd, .int .i64 ix, .int .i64 ct, .int .u64 (bt : Int), .int .u64 (op : Int), .int .i64 lp, .int .i64 ln] 42)))
    have HX : Hid (BoxH ⟨kd, ix, ct, bt, op, lp, ln⟩ w3.heap.size (w3.alloc (.cells #[.int .i64 kd, .int .i64 ix, .int .i64 ct, .int .u64 (bt : Int), .int .u64 (op : Int), .int .i64 lp, .int .i64 ln] 42))) := hide (heap_alloc_new w3 _)
    go_upto_region 4 with fail
    generalize w3.alloc (.cells #[.int .i64 kd, .int .i64 ix, .int .i64 ct, .int .u64 (bt : Int), .int .u64 (op : Int), .int .i64 lp, .int .i64 ln] 42) = w4 at *
    generalize w3.heap.size = hk at *
    clear S1
    have z0 := S2.out.res.c 0 _ rfl
    have z1 := S2.out.res.c 1 _ rfl
    have z2 := S2.out.res.c 2 _ rfl
    have z3 := S2.out.res.c 3 _ rfl
    have z4 := S2.out.res.c 4 _ rfl
    have z5 := S2.out.res.c 5 _ rfl
    have z6 := S2.out.res.c 6 _ rfl
    have z7 := S2.out.res.c 7 _ rfl
    have z8 := S2.out.res.c 8 _ rfl
    have y0 := S2.out.res.free 0
    have y1 := S2.out.res.free 1
    have y2 := S2.out.res.free 2
    have y3 := S2.out.res.free 3
    have y4 := S2.out.res.free 4
    have y5 := S2.out.res.free 5
    have y6 := S2.out.res.free 6
    have y7 := S2.out.res.free 7
    have y8 := S2.out.res.free 8
    by_cases he : er = 0
    · have hR := HR.out
      rw [if_neg (not_not_intro he)] at hR
      subst he
      have a0 := HX.out.c 0 _ rfl
      dsimp only at a0
      by_cases hk1 : kd = 1
      · rw [if_pos hk1] at hR
        subst hR
        subst hk1
        clear HR
        go_wp2
        refine bodyPost_ret (results_fd1 rfl _ _ zeroFd (w.heap.size + 1) rfl (box9 S2.out.res 0 0 0 0 0 0 0 0 0)) rfl ⟨rfl, below9 S2.out.below (Nat.le_succ _) 0 0 0 0 0 0 0 0 0⟩
      · rw [if_neg hk1] at hR
        subst hR
        have hk2 : (kd == 1) = false := beq_eq_false_iff_ne.2 hk1
        have a1 := HX.out.c 1 _ rfl
        have a2 := HX.out.c 2 _ rfl
        have a3 := HX.out.c 3 _ rfl
        have a4 := HX.out.c 4 _ rfl
        have a5 := HX.out.c 5 _ rfl
        have a6 := HX.out.c 6 _ rfl
        dsimp only at a1 a2 a3 a4 a5 a6
        have p0 := S2.out.pl.x
        have p1 := S2.out.pl.y
        clear HR hk1
        go_wp2
        refine bodyPost_ret (results_fd1 rfl _ _ ⟨b, n, ⟨kd, ix, ct, bt, op, lp, ln⟩⟩ (w.heap.size + 1) rfl (box9 S2.out.res b n kd ix ct bt op lp ln)) rfl ⟨rfl, below9 S2.out.below (Nat.le_succ _) b n kd ix ct bt op lp ln⟩
    · have hR := HR.out
      rw [if_pos he] at hR
      subst hR
      have he2 : (er != 0) = true := bne_iff_ne.2 he
      clear HR he
      go_wp2
      refine bodyPost_ret (results_fd1 rfl _ _ zeroFd (w.heap.size + 1) rfl (box9 S2.out.res 0 0 0 0 0 0 0 0 0)) rfl ⟨rfl, below9 S2.out.below (Nat.le_succ _) 0 0 0 0 0 0 0 0 0⟩
end
end
end Go.Proofs.Ytahipfmokbiklaa
