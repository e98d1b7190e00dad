/-
  The walk of TableAdds: tables that may be. (By gen/TbN.gen.py.)
-/
import Derived.Test.YtigpplckddnghaaGreatTbW
namespace Go.Proofs.YtigpplckddnghaaGreat
open Go.RowKit
set_option maxRecDepth 8000
set_option maxHeartbeats 16000000 in
theorem tadds_on (x y : Tl) (z u : Int) (w : World) (hx : x.Ok w w.heap.size) (hy : y.Ok w w.heap.size) (la lb : List Int) (hA : z ∉ x.t.bad → SortI x.t.bad z la) (hV : u ∉ x.t.void → SortU x.t.void u lb) (gB : Grown x.t.bad z (addB x.t z la).bad) (gV : Grown x.t.void u (addV x.t u lb).void) (hu : ∀ q ∈ lb, 0 ≤ q ∧ q < 18446744073709551616) (hl : (x.t.bad.length ≤ 60 ∧ x.t.wear.length ≤ 60 ∧ x.t.void.length ≤ 60) ∧ (y.t.bad.length ≤ 60 ∧ y.t.wear.length ≤ 60 ∧ y.t.void.length ≤ 60) ∧ x.t.May) : Calls Tryz.prog 3 #[.agg (four x y z u)] w fun e w' => e = .returned (.bool true) ∧ Below w.heap.size w w' := by
  have F := hide (fun W => light_any16 x W)
  have G := hide (fun W => light_any16 y W)
  obtain ⟨h1, h2, hm⟩ := hl
  have hf : x.Few := ⟨by omega, by omega, by omega⟩
  have FM := hide (fun W (hW : Below w.heap.size w W) => may16_any x _ W (hx.below hW) hf hW.size)
  rw [decide_eq_true h1] at F
  rw [decide_eq_true h2] at G
  rw [decide_eq_true hm] at FM
  have FW := hide (fun W (hW : Below w.heap.size w W) => show Calls Tryz.prog 9 #[x.val, .int .i64 z] W (fun e w' => ∃ X : Tl, e = .returned (.agg #[.int .u64 (X.t.seq : Int), .slice X.A1 X.t.bad.length X.c1, .slice X.A2 X.t.wear.length X.c2, .slice X.A3 X.t.void.length X.c3]) ∧ X.t = addB x.t z la ∧ X.Ok w' w'.heap.size ∧ Below W.heap.size W w' ∧ X.Hi (W.heap.size + 2)) from with_any x z la _ W (hx.below hW) hf hW.size hA)
  have FV := hide (fun W (hW : Below w.heap.size w W) => show Calls Tryz.prog 10 #[x.val, .int .u64 u] W (fun e w' => ∃ X : Tl, e = .returned (.agg #[.int .u64 (X.t.seq : Int), .slice X.A1 X.t.bad.length X.c1, .slice X.A2 X.t.wear.length X.c2, .slice X.A3 X.t.void.length X.c3]) ∧ X.t = addV x.t u lb ∧ X.Ok w' w'.heap.size ∧ Below W.heap.size W w' ∧ X.Hi (W.heap.size + 2)) from voided_any x u lb _ W (hx.below hW) hf hW.size hV hu)
  have e0 : x.val = .agg #[.int .u64 (x.t.seq : Int), .slice x.A1 x.t.bad.length x.c1, .slice x.A2 x.t.wear.length x.c2, .slice x.A3 x.t.void.length x.c3] := rfl
  have e1 : y.val = .agg #[.int .u64 (y.t.seq : Int), .slice y.A1 y.t.bad.length y.c1, .slice y.A2 y.t.wear.length y.c2, .slice y.A3 y.t.void.length y.c3] := rfl
  have ex : x.cells.toArray = #[.int .u64 (x.t.seq : Int), .slice x.A1 x.t.bad.length x.c1, .slice x.A2 x.t.wear.length x.c2, .slice x.A3 x.t.void.length x.c3] := rfl
  have ey : y.cells.toArray = #[.int .u64 (y.t.seq : Int), .slice y.A1 y.t.bad.length y.c1, .slice y.A2 y.t.wear.length y.c2, .slice y.A3 y.t.void.length y.c3] := rfl
  have EX := hide ex
  have EY := hide ey
  have HX := hide (fun W => BoxT.new x W)
  have HY := hide (fun W => BoxT.new y W)
  rw [e0] at F FM FW FV
  rw [e1] at G
  rw [ex] at HX
  rw [ey] at HY
  have HB := hide ((Below.refl w.heap.size w).alloc (Nat.le_refl _) (.cells #[.int .u64 (x.t.seq : Int), .slice x.A1 x.t.bad.length x.c1, .slice x.A2 x.t.wear.length x.c2, .slice x.A3 x.t.void.length x.c3, .int .u64 (y.t.seq : Int), .slice y.A1 y.t.bad.length y.c1, .slice y.A2 y.t.wear.length y.c2, .slice y.A3 y.t.void.length y.c3, .int .i64 z, .int .u64 u] 28))
  have Hhx := hide hx
  have GB := hide gB
  have GV := hide gV
  have Hf2 : Hid y.Few := hide ⟨by omega, by omega, by omega⟩
  have Hhy := hide hy
  have Hm := hide hm
  have Hf := hide hf
  clear gB gV h1 h2 hm hf hy hA hV hu e0 e1 ex ey hx
  unfold four
  go_enter Tryz.func3, Tryz.ntmps3
  go_wp2
  go_cut [3, 4, 5, 6] from 13 to 20 (fun a b c d wx => ∃ P Q : Nat, a = .pointer (some ⟨P, 0, none⟩) ∧ b = .pointer (some ⟨Q, 0, none⟩) ∧ c = .int .i64 z ∧ d = .int .u64 u ∧ Hid (BoxT x P wx) ∧ Hid (BoxT y Q wx) ∧ Hid (Below w.heap.size w wx))
  case first =>
    have BXY := box_two x y w _ HB.out
    have BYX := box_two y x w _ HB.out
    rw [EX.out, EY.out] at BXY BYX
    have hsz : ∀ cs : Array Value, (w.alloc (.cells cs 28)).heap.size = w.heap.size + 1 := fun cs => by simp
    rw [hsz] at BXY BYX
    have BXY := hide BXY
    have BYX := hide BYX
    go_region
    all_goals (go_wp2_with fail; go_meet; first | exact ⟨_, _, rfl, rfl, rfl, rfl, hide BXY.out.1, hide BXY.out.2.1, hide BXY.out.2.2⟩ | exact ⟨_, _, rfl, rfl, rfl, rfl, hide BYX.out.2.1, hide BYX.out.1, hide BYX.out.2.2⟩)
  clear HX HY HB
  obtain ⟨P, Q, rfl, rfl, rfl, rfl, HX, HY, HB⟩ := hcut
  have c0 := HX.out.c 0 _ rfl
  have c1 := HX.out.c 1 _ rfl
  have c2 := HX.out.c 2 _ rfl
  have c3 := HX.out.c 3 _ rfl
  go_wp2_with fail
  (with_reducible refine (F.out _).mono ?_)
  rintro e w2 ⟨rfl, hb⟩
  have HB2 := hide (HB.out.trans (hb.mono HB.out.size))
  have HX2 := hide (HX.out.below hb HX.out.lt)
  have HY2 := hide (HY.out.below hb HY.out.lt)
  clear hb HB HX HY F c0 c1 c2 c3
  have d0 := HY2.out.c 0 _ rfl
  have d1 := HY2.out.c 1 _ rfl
  have d2 := HY2.out.c 2 _ rfl
  have d3 := HY2.out.c 3 _ rfl
  go_wp2_with fail
  (with_reducible refine (G.out _).mono ?_)
  rintro e w3 ⟨rfl, hb⟩
  have HB3 := hide (HB2.out.trans (hb.mono HB2.out.size))
  have HX3 := hide (HX2.out.below hb HX2.out.lt)
  have HY3 := hide (HY2.out.below hb HY2.out.lt)
  clear hb HB2 HX2 HY2 G d0 d1 d2 d3
  have c0 := HX3.out.c 0 _ rfl
  have c1 := HX3.out.c 1 _ rfl
  have c2 := HX3.out.c 2 _ rfl
  have c3 := HX3.out.c 3 _ rfl
  go_wp2_with fail
  (with_reducible refine (FM.out _ HB3.out).mono ?_)
  rintro e w4 ⟨rfl, hb⟩
  have HB4 := hide (HB3.out.trans (hb.mono HB3.out.size))
  have HX4 := hide (HX3.out.below hb HX3.out.lt)
  have HY4 := hide (HY3.out.below hb HY3.out.lt)
  clear hb HB3 HX3 HY3 FM c0 c1 c2 c3
  have c0 := HX4.out.c 0 _ rfl
  have c1 := HX4.out.c 1 _ rfl
  have c2 := HX4.out.c 2 _ rfl
  have c3 := HX4.out.c 3 _ rfl
  go_upto_region 4 with fail
  refine Free.wp_region_free (by kernel_rfl) (fun d v => match d with | 35 => v = .agg #[.int .u64 (x.t.seq : Int), .slice x.A1 x.t.bad.length x.c1, .slice x.A2 x.t.wear.length x.c2, .slice x.A3 x.t.void.length x.c3] | 36 => v = .int .i64 z | 38 => v = .agg #[.int .u64 (x.t.seq : Int), .slice x.A1 x.t.bad.length x.c1, .slice x.A2 x.t.wear.length x.c2, .slice x.A3 x.t.void.length x.c3] | 39 => v = .int .u64 u | _ => True) (Phi4 w4 (addB x.t z la) (addV x.t u lb)) [2, 5, 6, 7, 8, 9] [37, 40, 7, 8] (by kernel_rfl) (by kernel_rfl) (Phi4.loc _ _ _) (Phi4.start _ _ _ _ _ (Below.refl _ _).drew) ⟨?_, ?_, ?_, ?_, ?_, ?_, ?_, ?_, ?_, ?_, trivial⟩ ?_
  · refine Free.small (by decide) ?_
    intro L' a' w' hΦ h'
    obtain ⟨X, Y, k7, k8, hR⟩ := hΦ
    have e3 : a'.tmps.getD 3 undef = .pointer (some ⟨P, 0, none⟩) := Free.sb h' 3 (by kernel_rfl) (by kernel_rfl) rfl
    exact .val (want0 rfl) rfl (exec_load_table rfl e3 (HX4.out.below hR.below HX4.out.lt)) rfl
  · refine Free.small (by decide) ?_
    intro L' a' w' hΦ h'
    obtain ⟨X, Y, k7, k8, hR⟩ := hΦ
    have e5 : a'.tmps.getD 5 undef = .int .i64 z := Free.sb h' 5 (by kernel_rfl) (by kernel_rfl) rfl
    exact .val (want0 rfl) rfl (by simp [Act.eval, e5, go_sem]) rfl
  · refine Free.great (by decide) ?_
    intro L' a' w' hsz' hL' hA' hΦ h'
    obtain ⟨X, Y, k7, k8, hR⟩ := hΦ
    have e35 : a'.tmps.getD 35 undef = .agg #[.int .u64 (x.t.seq : Int), .slice x.A1 x.t.bad.length x.c1, .slice x.A2 x.t.wear.length x.c2, .slice x.A3 x.t.void.length x.c3] := Free.sw h' 35 (by kernel_rfl) (by kernel_rfl)
    have e36 : a'.tmps.getD 36 undef = .int .i64 z := Free.sw h' 36 (by kernel_rfl) (by kernel_rfl)
    refine .called (d := 37) (want0 rfl) rfl (by simp [Act.eval, e35, e36, go_sem]) ((FW.out _ (HB4.out.trans (hR.below.mono HB4.out.size))).mono ?_)
    rintro e w9 ⟨Z, rfl, hz, ho, hb, hh⟩
    exact ⟨_, rfl, trivial, Z, Y, k7, k8, hR.x hL' hb hz ho hh (Free.slots_put (by rw [hsz']; simp)) (Free.slots_other (by decide)) (Free.slots_other (by decide)) (Free.slots_other (by decide))⟩
  · refine Free.small (by decide) ?_
    intro L' a' w' hΦ h'
    obtain ⟨X, Y, k7, k8, hR⟩ := hΦ
    have e3 : a'.tmps.getD 3 undef = .pointer (some ⟨P, 0, none⟩) := Free.sb h' 3 (by kernel_rfl) (by kernel_rfl) rfl
    exact .val (want0 rfl) rfl (exec_load_table rfl e3 (HX4.out.below hR.below HX4.out.lt)) rfl
  · refine Free.small (by decide) ?_
    intro L' a' w' hΦ h'
    obtain ⟨X, Y, k7, k8, hR⟩ := hΦ
    have e6 : a'.tmps.getD 6 undef = .int .u64 u := Free.sb h' 6 (by kernel_rfl) (by kernel_rfl) rfl
    exact .val (want0 rfl) rfl (by simp [Act.eval, e6, go_sem]) rfl
  · refine Free.great (by decide) ?_
    intro L' a' w' hsz' hL' hA' hΦ h'
    obtain ⟨X, Y, k7, k8, hR⟩ := hΦ
    have e38 : a'.tmps.getD 38 undef = .agg #[.int .u64 (x.t.seq : Int), .slice x.A1 x.t.bad.length x.c1, .slice x.A2 x.t.wear.length x.c2, .slice x.A3 x.t.void.length x.c3] := Free.sw h' 38 (by kernel_rfl) (by kernel_rfl)
    have e39 : a'.tmps.getD 39 undef = .int .u64 u := Free.sw h' 39 (by kernel_rfl) (by kernel_rfl)
    refine .called (d := 40) (want0 rfl) rfl (by simp [Act.eval, e38, e39, go_sem]) ((FV.out _ (HB4.out.trans (hR.below.mono HB4.out.size))).mono ?_)
    rintro e w9 ⟨Z, rfl, hz, ho, hb, hh⟩
    exact ⟨_, rfl, trivial, X, Z, k7, k8, hR.y hL' hb hz ho hh (Free.slots_put (by rw [hsz']; simp)) (Free.slots_other (by decide)) (Free.slots_other (by decide)) (Free.slots_other (by decide))⟩
  · refine Free.great (by decide) ?_
    intro L' a' w' hsz' hL' hA' hΦ h'
    obtain ⟨X, Y, k7, k8, hR⟩ := hΦ
    refine .made (d := 7) (v := .pointer (some ⟨w'.heap.size, 0, none⟩)) (w' := w'.alloc (.cells zeroTl.cells.toArray 26)) (want0 rfl) rfl (by simp [go_sem]; rfl) trivial ?_
    exact ⟨X, Y, _, k8, hR.m7 hL' (Free.slots_put (by rw [hsz']; simp)) (Free.slots_other (by decide)) (Free.slots_other (by decide)) (Free.slots_other (by decide))⟩
  · refine Free.great (by decide) ?_
    intro L' a' w' hsz' hL' hA' hΦ h'
    obtain ⟨X, Y, k7, k8, hR⟩ := hΦ
    refine .made (d := 8) (v := .pointer (some ⟨w'.heap.size, 0, none⟩)) (w' := w'.alloc (.cells zeroTl.cells.toArray 26)) (want0 rfl) rfl (by simp [go_sem]; rfl) trivial ?_
    exact ⟨X, Y, k7, _, hR.m8 hL' (Free.slots_put (by rw [hsz']; simp)) (Free.slots_other (by decide)) (Free.slots_other (by decide)) (Free.slots_other (by decide))⟩
  · refine Free.great (by decide) ?_
    intro L' a' w' hsz' hL' hA' hΦ h'
    obtain ⟨X, Y, k7, k8, hR⟩ := hΦ
    have l2 := hA' ⟨2, .data⟩ (by simp) rfl
    have l5 := hA' ⟨5, .chain⟩ (by simp) rfl
    have l6 := hA' ⟨6, .data⟩ (by simp) rfl
    have l7 := hA' ⟨7, .phase⟩ (by simp) rfl
    have ep : a'.tmps.getD 7 undef = .pointer (some ⟨k7, 0, none⟩) := (hR.s6 l6).1
    have ev : a'.tmps.getD 37 undef = .agg #[.int .u64 (X.t.seq : Int), .slice X.A1 X.t.bad.length X.c1, .slice X.A2 X.t.wear.length X.c2, .slice X.A3 X.t.void.length X.c3] := (hR.s2 l2).1
    have hB' := (hR.s6 l6).2.2
    have j0 := hB'.free 0
    have j1 := hB'.free 1
    have j2 := hB'.free 2
    have j3 := hB'.free 3
    have g0 := hB'.c 0 _ rfl
    have g1 := hB'.c 1 _ rfl
    have g2 := hB'.c 2 _ rfl
    have g3 := hB'.c 3 _ rfl
    refine .stored (w' := put4 w' k7 X) (want0 rfl) rfl (by simp [Act.eval, ep, ev, j0, j1, j2, j3, g0, g1, g2, g3, go_sem]; rfl) ⟨X, Y, k7, k8, hR.p7 hL' l2 l5 l6 l7⟩
  · refine Free.great (by decide) ?_
    intro L' a' w' hsz' hL' hA' hΦ h'
    obtain ⟨X, Y, k7, k8, hR⟩ := hΦ
    have l8 := hA' ⟨8, .chain⟩ (by simp) rfl
    have l5 := hA' ⟨5, .data⟩ (by simp) rfl
    have l7 := hA' ⟨7, .data⟩ (by simp) rfl
    have ep : a'.tmps.getD 8 undef = .pointer (some ⟨k8, 0, none⟩) := (hR.s7 l7).1
    have ev : a'.tmps.getD 40 undef = .agg #[.int .u64 (Y.t.seq : Int), .slice Y.A1 Y.t.bad.length Y.c1, .slice Y.A2 Y.t.wear.length Y.c2, .slice Y.A3 Y.t.void.length Y.c3] := (hR.s5 l5).1
    have hB' := (hR.s7 l7).2.2
    have j0 := hB'.free 0
    have j1 := hB'.free 1
    have j2 := hB'.free 2
    have j3 := hB'.free 3
    have g0 := hB'.c 0 _ rfl
    have g1 := hB'.c 1 _ rfl
    have g2 := hB'.c 2 _ rfl
    have g3 := hB'.c 3 _ rfl
    refine .stored (w' := put4 w' k8 Y) (want0 rfl) rfl (by simp [Act.eval, ep, ev, j0, j1, j2, j3, g0, g1, g2, g3, go_sem]; rfl) ⟨X, Y, k7, k8, hR.p8 hL' l8⟩
  · intro a' w5 hdf hsz hwr hkp hΦ
    obtain ⟨X, Y, k7, k8, hR⟩ := hΦ
    obtain ⟨s37, tX, oX⟩ := hR.s2 (by kernel_rfl)
    obtain ⟨s40, tY, oY⟩ := hR.s5 (by kernel_rfl)
    obtain ⟨s7, _, b7⟩ := hR.s6 (by kernel_rfl)
    obtain ⟨s8, _, b8⟩ := hR.s7 (by kernel_rfl)
    rw [if_pos (by kernel_rfl)] at b7 b8
    have S5 : Hid (Std w x y X Y P Q k7 k8 w5) := hide ⟨HB4.out.trans (hR.below.mono HB4.out.size), HX4.out.below hR.below HX4.out.lt, HY4.out.below hR.below HY4.out.lt, b7, b8, oX, oY⟩
    have f35 : a'.tmps.getD 35 undef = .agg #[.int .u64 (x.t.seq : Int), .slice x.A1 x.t.bad.length x.c1, .slice x.A2 x.t.wear.length x.c2, .slice x.A3 x.t.void.length x.c3] := hwr 35 (by kernel_rfl)
    have f36 : a'.tmps.getD 36 undef = .int .i64 z := hwr 36 (by kernel_rfl)
    have f38 : a'.tmps.getD 38 undef = .agg #[.int .u64 (x.t.seq : Int), .slice x.A1 x.t.bad.length x.c1, .slice x.A2 x.t.wear.length x.c2, .slice x.A3 x.t.void.length x.c3] := hwr 38 (by kernel_rfl)
    have f39 : a'.tmps.getD 39 undef = .int .u64 u := hwr 39 (by kernel_rfl)
    have f37 : a'.tmps.getD 37 undef = .agg #[.int .u64 (X.t.seq : Int), .slice X.A1 X.t.bad.length X.c1, .slice X.A2 X.t.wear.length X.c2, .slice X.A3 X.t.void.length X.c3] := s37
    have f40 : a'.tmps.getD 40 undef = .agg #[.int .u64 (Y.t.seq : Int), .slice Y.A1 Y.t.bad.length Y.c1, .slice Y.A2 Y.t.wear.length Y.c2, .slice Y.A3 Y.t.void.length Y.c3] := s40
    have f7 : a'.tmps.getD 7 undef = .pointer (some ⟨k7, 0, none⟩) := s7
    have f8 : a'.tmps.getD 8 undef = .pointer (some ⟨k8, 0, none⟩) := s8
    have hfr := Flo2.frame_eq [(35, .agg #[.int .u64 (x.t.seq : Int), .slice x.A1 x.t.bad.length x.c1, .slice x.A2 x.t.wear.length x.c2, .slice x.A3 x.t.void.length x.c3]), (36, .int .i64 z), (37, .agg #[.int .u64 (X.t.seq : Int), .slice X.A1 X.t.bad.length X.c1, .slice X.A2 X.t.wear.length X.c2, .slice X.A3 X.t.void.length X.c3]), (38, .agg #[.int .u64 (x.t.seq : Int), .slice x.A1 x.t.bad.length x.c1, .slice x.A2 x.t.wear.length x.c2, .slice x.A3 x.t.void.length x.c3]), (39, .int .u64 u), (40, .agg #[.int .u64 (Y.t.seq : Int), .slice Y.A1 Y.t.bad.length Y.c1, .slice Y.A2 Y.t.wear.length Y.c2, .slice Y.A3 Y.t.void.length Y.c3]), (7, .pointer (some ⟨k7, 0, none⟩)), (8, .pointer (some ⟨k8, 0, none⟩))] a'.tmps _ hsz (by
      intro xx hx
      simp only [List.mem_cons, List.not_mem_nil, or_false] at hx
      rcases hx with h | h | h | h | h | h | h | h <;> subst h
      · exact f35
      · exact f36
      · exact f37
      · exact f38
      · exact f39
      · exact f40
      · exact f7
      · exact f8) (fun t ht => hkp t (Flo3.writes_not _ _ (by kernel_rfl) ht))
    have ha := Flo3.act_ext hfr hdf
    have EL : Hid ((addB x.t z la).bad = X.t.bad ∧ (addV x.t u lb).void = Y.t.void) := hide ⟨by rw [tX], by rw [tY]⟩
    rw [EL.out.1] at GB
    rw [EL.out.2] at GV
    have SZ : Hid (∀ W, Std w x y X Y P Q k7 k8 W → w.heap.size ≤ W.heap.size) := hide (fun W h => h.below.size)
    have FH := hide (fun W (h : Std w x y X Y P Q k7 k8 W) q => has16_any x.A1 x.t.bad.length x.c1 w.heap.size x.t.bad q W (Hhx.out.below h.below).l1 rfl (by have := Hf.out.f1; omega))
    have FI := hide (fun W (h : Std w x y X Y P Q k7 k8 W) q => is16_any x.A3 x.t.void.length x.c3 w.heap.size x.t.void q W (Hhx.out.below h.below).l3 rfl (by have := Hf.out.f3; omega))
    have FHX := hide (fun W (h : Std w x y X Y P Q k7 k8 W) => has16_any X.A1 X.t.bad.length X.c1 W.heap.size X.t.bad z W h.okX.l1 rfl GB.out.few)
    have FIY := hide (fun W (h : Std w x y X Y P Q k7 k8 W) => is16_any Y.A3 Y.t.void.length Y.c3 W.heap.size Y.t.void u W h.okY.l3 rfl GV.out.few)
    rw [decide_eq_true GB.out.has] at FHX
    rw [decide_eq_true GV.out.has] at FIY
    clear hfr hwr hkp hsz hdf hR s37 s40 s7 s8 b7 b8 oX oY tX tY EL FW FV f35 f36 f37 f38 f39 f40 f7 f8 HB4 HX4 HY4 c0 c1 c2 c3
    subst ha
    simp only [Flo2.puts, List.foldl_cons, List.foldl_nil, List.setIfInBounds_toArray, List.set, Exit.then]
    go_wp2
    have c1 := S5.out.bx.c 1 _ rfl
    have c3 := S5.out.bx.c 3 _ rfl
    go_quiet (fail)
    clear c1 c3
    go_upto_region 6 with fail
    have S5q := hide (S5.out.later (bel_drewN (Below.refl _ _) nq))
    clear S5
    generalize w5.drewN nq = w5d at *
    have cq := S5q.out.bx.c 1 _ rfl
    go_wp2_with fail
    (with_reducible refine (FH.out _ S5q.out z).mono ?_)
    rintro e w6 ⟨rfl, rfl⟩
    clear cq
    generalize hdz : decide (z ∈ x.t.bad) = dz
    go_upto_if 51 with fail
    go_cut [9] from 52 to 54 (fun a wx => a = .int .i64 (X.t.bad.length : Int) ∧ Hid (Std w x y X Y P Q k7 k8 wx))
    case first =>
      have LL := GB.out.len
      by_cases hz : z ∈ x.t.bad
      · rw [if_pos hz] at LL
        rw [decide_eq_true hz] at hdz
        subst hdz
        have ML := hide LL
        clear LL hz
        go_wp2_with fail
        go_meet
        exact ⟨congrArg (fun n : Nat => Value.int .i64 (n : Int)) ML.out.symm, S5q⟩
      · rw [if_neg hz] at LL
        rw [decide_eq_false hz] at hdz
        subst hdz
        have w1 : wrap64 ((x.t.bad.length : Int) + 1) = (X.t.bad.length : Int) := by have := Hf.out.f1; unfold wrap64; omega
        have ML := hide LL
        clear LL hz
        go_wp2_with fail
        go_meet
        exact ⟨congrArg (Value.int .i64) w1, S5q⟩
    clear S5q hdz
    obtain ⟨rfl, S5r⟩ := hcut
    have cq := S5r.out.bx.c 3 _ rfl
    go_wp2_with fail
    (with_reducible refine (FI.out _ S5r.out u).mono ?_)
    rintro e w6 ⟨rfl, rfl⟩
    clear cq
    generalize hdz : decide (u ∈ x.t.void) = dz
    go_upto_if 58 with fail
    go_cut [10] from 59 to 61 (fun a wx => a = .int .i64 (Y.t.void.length : Int) ∧ Hid (Std w x y X Y P Q k7 k8 wx))
    case first =>
      have LL := GV.out.len
      by_cases hz : u ∈ x.t.void
      · rw [if_pos hz] at LL
        rw [decide_eq_true hz] at hdz
        subst hdz
        have ML := hide LL
        clear LL hz
        go_wp2_with fail
        go_meet
        exact ⟨congrArg (fun n : Nat => Value.int .i64 (n : Int)) ML.out.symm, S5r⟩
      · rw [if_neg hz] at LL
        rw [decide_eq_false hz] at hdz
        subst hdz
        have w1 : wrap64 ((x.t.void.length : Int) + 1) = (Y.t.void.length : Int) := by have := Hf.out.f3; unfold wrap64; omega
        have ML := hide LL
        clear LL hz
        go_wp2_with fail
        go_meet
        exact ⟨congrArg (Value.int .i64) w1, S5r⟩
    clear S5r hdz
    obtain ⟨rfl, S6⟩ := hcut
    have c1 := S6.out.bX.c 1 _ rfl
    have c3 := S6.out.bY.c 3 _ rfl
    go_wp2_with fail
    (with_reducible refine (FHX.out _ S6.out).mono ?_)
    rintro e w7 ⟨rfl, rfl⟩
    go_wp2_with fail
    (with_reducible refine (FIY.out _ S6.out).mono ?_)
    rintro e w7 ⟨rfl, rfl⟩
    clear FHX FIY c1 c3
    go_wp2
    go_loopw [11] (fun i wr => ∃ j : Nat, j ≤ X.t.bad.length ∧ i = .int .i64 (j : Int) ∧ Hid (Std w x y X Y P Q k7 k8 wr)) (fun i _ => X.t.bad.length - (intOf i).toNat)
    case atStart => exact ⟨0, Nat.zero_le _, rfl, S6⟩
    case round =>
      obtain ⟨j, hj, rfl, HS⟩ := hrel
      have d1 := HS.out.bX.c 1 _ rfl
      by_cases hlt : j < X.t.bad.length
      · have hlt' : (j : Int) < (X.t.bad.length : Int) := by omega
        obtain ⟨a, ha, hab, hca⟩ := HS.out.okX.l1.num hlt
        have hcx := HS.out.bx.c 1 _ rfl
        rw [ha] at d1
        have HE := hide (GB.out.each j hlt)
        by_cases h0 : j = 0
        · subst h0
          rw [add_zeroT] at hca
          generalize X.t.bad.getD 0 0 = v at *
          clear hj
          by_cases hz : v = z
          · subst hz
            have hb : (v != v) = false := by simp
            clear HE
            go_wp2
            go_quiet (fail)
            go_wp2
            go_roundw
            case rel => first | exact ⟨_, hlt, rfl, hide (HS.out.later (bel_drewN (Below.refl _ _) _))⟩ | exact ⟨_, hlt, congrArg (Value.int .i64) e1, hide (HS.out.later (bel_drewN (Below.refl _ _) _))⟩
            case measure => first | exact measT hlt | exact measT2 e1 hlt
          · have hb : (v != z) = true := bne_iff_ne.2 hz
            have FQ := fun n => FH.out _ (HS.out.later (bel_drewN (Below.refl _ _) n)) v
            rw [decide_eq_true (HE.out.resolve_left hz)] at FQ
            clear HE hz
            go_wp2
            go_quiet (first | (go_at_call 11; refine (FQ _).mono ?_; rintro e w' ⟨rfl, rfl⟩; exact ⟨rfl, _, rfl⟩))
            go_wp2
            go_roundw
            case rel => first | exact ⟨_, hlt, rfl, hide (HS.out.later (bel_drewN (Below.refl _ _) _))⟩ | exact ⟨_, hlt, congrArg (Value.int .i64) e1, hide (HS.out.later (bel_drewN (Below.refl _ _) _))⟩
            case measure => first | exact measT hlt | exact measT2 e1 hlt
        · obtain ⟨i, hi⟩ : ∃ i, Hid (j = i + 1) := ⟨j - 1, hide (by omega)⟩
          have hg0 : decide ((0 : Int) < (j : Int)) = true := decide_eq_true (by omega)
          have hg1 : decide (0 < j) = true := decide_eq_true (by omega)
          have hcp := HS.out.okX.l1.numAt ha (show i < X.t.bad.length by have := hi.out; omega)
          have hir : (i : Int) < (X.t.bad.length : Int) := by have := hi.out; omega
          have hup := GB.out.rises j (by omega) hlt
          rw [show j - 1 = i by have := hi.out; omega] at hup
          generalize X.t.bad.getD j 0 = v at *
          generalize X.t.bad.getD i 0 = p at *
          have hle : decide (v ≤ p) = false := decide_eq_false (by omega)
          clear hup h0 hj
          have e0 := down64 (Nat.le_trans (Nat.le_of_lt hlt) GB.out.few) hi.out
          have e1 := up64 (Nat.le_trans (Nat.le_of_lt hlt) GB.out.few)
          by_cases hz : v = z
          · subst hz
            have hb : (v != v) = false := by simp
            clear HE
            go_wp2
            go_quiet (fail)
            go_wp2
            go_roundw
            case rel => first | exact ⟨_, hlt, rfl, hide (HS.out.later (bel_drewN (Below.refl _ _) _))⟩ | exact ⟨_, hlt, congrArg (Value.int .i64) e1, hide (HS.out.later (bel_drewN (Below.refl _ _) _))⟩
            case measure => first | exact measT hlt | exact measT2 e1 hlt
          · have hb : (v != z) = true := bne_iff_ne.2 hz
            have FQ := fun n => FH.out _ (HS.out.later (bel_drewN (Below.refl _ _) n)) v
            rw [decide_eq_true (HE.out.resolve_left hz)] at FQ
            clear HE hz
            go_wp2
            go_quiet (first | (go_at_call 11; refine (FQ _).mono ?_; rintro e w' ⟨rfl, rfl⟩; exact ⟨rfl, _, rfl⟩))
            go_wp2
            go_roundw
            case rel => first | exact ⟨_, hlt, rfl, hide (HS.out.later (bel_drewN (Below.refl _ _) _))⟩ | exact ⟨_, hlt, congrArg (Value.int .i64) e1, hide (HS.out.later (bel_drewN (Below.refl _ _) _))⟩
            case measure => first | exact measT hlt | exact measT2 e1 hlt
      · obtain rfl : j = X.t.bad.length := by omega
        have S7 := HS
        clear S6 HS hj hlt
        go_wp2
        clear d1
        go_loopw [12] (fun i wr => ∃ j : Nat, j ≤ Y.t.void.length ∧ i = .int .i64 (j : Int) ∧ Hid (Std w x y X Y P Q k7 k8 wr)) (fun i _ => Y.t.void.length - (intOf i).toNat)
        case atStart => exact ⟨0, Nat.zero_le _, rfl, S7⟩
        case round =>
          obtain ⟨j, hj, rfl, HS⟩ := hrel
          have d3 := HS.out.bY.c 3 _ rfl
          by_cases hlt : j < Y.t.void.length
          · have hlt' : (j : Int) < (Y.t.void.length : Int) := by omega
            obtain ⟨a, ha, hab, hca⟩ := HS.out.okY.l3.num hlt
            have hcx := HS.out.bx.c 3 _ rfl
            rw [ha] at d3
            have HE := hide (GV.out.each j hlt)
            by_cases h0 : j = 0
            · subst h0
              rw [add_zeroT] at hca
              generalize Y.t.void.getD 0 0 = v at *
              clear hj
              by_cases hz : v = u
              · subst hz
                have hb : (v != v) = false := by simp
                clear HE
                go_wp2
                go_quiet (fail)
                go_wp2
                go_roundw
                case rel => first | exact ⟨_, hlt, rfl, hide (HS.out.later (bel_drewN (Below.refl _ _) _))⟩ | exact ⟨_, hlt, congrArg (Value.int .i64) e1, hide (HS.out.later (bel_drewN (Below.refl _ _) _))⟩
                case measure => first | exact measT hlt | exact measT2 e1 hlt
              · have hb : (v != u) = true := bne_iff_ne.2 hz
                have FQ := fun n => FI.out _ (HS.out.later (bel_drewN (Below.refl _ _) n)) v
                rw [decide_eq_true (HE.out.resolve_left hz)] at FQ
                clear HE hz
                go_wp2
                go_quiet (first | (go_at_call 12; refine (FQ _).mono ?_; rintro e w' ⟨rfl, rfl⟩; exact ⟨rfl, _, rfl⟩))
                go_wp2
                go_roundw
                case rel => first | exact ⟨_, hlt, rfl, hide (HS.out.later (bel_drewN (Below.refl _ _) _))⟩ | exact ⟨_, hlt, congrArg (Value.int .i64) e1, hide (HS.out.later (bel_drewN (Below.refl _ _) _))⟩
                case measure => first | exact measT hlt | exact measT2 e1 hlt
            · obtain ⟨i, hi⟩ : ∃ i, Hid (j = i + 1) := ⟨j - 1, hide (by omega)⟩
              have hg0 : decide ((0 : Int) < (j : Int)) = true := decide_eq_true (by omega)
              have hg1 : decide (0 < j) = true := decide_eq_true (by omega)
              have hcp := HS.out.okY.l3.numAt ha (show i < Y.t.void.length by have := hi.out; omega)
              have hir : (i : Int) < (Y.t.void.length : Int) := by have := hi.out; omega
              have hup := GV.out.rises j (by omega) hlt
              rw [show j - 1 = i by have := hi.out; omega] at hup
              generalize Y.t.void.getD j 0 = v at *
              generalize Y.t.void.getD i 0 = p at *
              have hle : decide (v ≤ p) = false := decide_eq_false (by omega)
              clear hup h0 hj
              have e0 := down64 (Nat.le_trans (Nat.le_of_lt hlt) GV.out.few) hi.out
              have e1 := up64 (Nat.le_trans (Nat.le_of_lt hlt) GV.out.few)
              by_cases hz : v = u
              · subst hz
                have hb : (v != v) = false := by simp
                clear HE
                go_wp2
                go_quiet (fail)
                go_wp2
                go_roundw
                case rel => first | exact ⟨_, hlt, rfl, hide (HS.out.later (bel_drewN (Below.refl _ _) _))⟩ | exact ⟨_, hlt, congrArg (Value.int .i64) e1, hide (HS.out.later (bel_drewN (Below.refl _ _) _))⟩
                case measure => first | exact measT hlt | exact measT2 e1 hlt
              · have hb : (v != u) = true := bne_iff_ne.2 hz
                have FQ := fun n => FI.out _ (HS.out.later (bel_drewN (Below.refl _ _) n)) v
                rw [decide_eq_true (HE.out.resolve_left hz)] at FQ
                clear HE hz
                go_wp2
                go_quiet (first | (go_at_call 12; refine (FQ _).mono ?_; rintro e w' ⟨rfl, rfl⟩; exact ⟨rfl, _, rfl⟩))
                go_wp2
                go_roundw
                case rel => first | exact ⟨_, hlt, rfl, hide (HS.out.later (bel_drewN (Below.refl _ _) _))⟩ | exact ⟨_, hlt, congrArg (Value.int .i64) e1, hide (HS.out.later (bel_drewN (Below.refl _ _) _))⟩
                case measure => first | exact measT hlt | exact measT2 e1 hlt
          · obtain rfl : j = Y.t.void.length := by omega
            have S9 := HS
            have HB9 := hide HS.out.below
            have Hb1 := HB9
            clear S7 HS hj hlt
            have FB := hide (fun W (h : Below w.heap.size w W) => isBad_any x z w.heap.size W (Hhx.out.below h) Hf.out h.size)
            have FU := hide (fun W (h : Below w.heap.size w W) => isVoid_any x u w.heap.size W (Hhx.out.below h) Hf.out h.size)
            have FS := hide (fun W (h : Below w.heap.size w W) => same_any x y w.heap.size W (Hhx.out.below h) (Hhy.out.below h) Hf.out Hf2.out h.size)
            have FR := hide (fun W (h : Below w.heap.size w W) => same16_any x y w.heap.size W (Hhx.out.below h) (Hhy.out.below h) Hf.out Hf2.out h.size)
            rw [show x.val = .agg #[.int .u64 (x.t.seq : Int), .slice x.A1 x.t.bad.length x.c1, .slice x.A2 x.t.wear.length x.c2, .slice x.A3 x.t.void.length x.c3] from rfl] at FB FU FS FR
            rw [show y.val = .agg #[.int .u64 (y.t.seq : Int), .slice y.A1 y.t.bad.length y.c1, .slice y.A2 y.t.wear.length y.c2, .slice y.A3 y.t.void.length y.c3] from rfl] at FS FR
            go_wp2
            refine wp_region_flow (by kernel_rfl) (fun d => if d = 2 then is (.bool true) else List.getD [is (.bool true), is (.bool true), is (.agg #[.int .u64 (x.t.seq : Int), .slice x.A1 x.t.bad.length x.c1, .slice x.A2 x.t.wear.length x.c2, .slice x.A3 x.t.void.length x.c3]), is (.int .i64 z), is (.bool (decide (z ∈ x.t.bad))), is (.pointer (some ⟨P, 1, none⟩)), is (.slice x.A1 x.t.bad.length x.c1), is (.int .i64 z), is (.bool (decide (z ∈ x.t.bad))), is (.bool true), is (.bool true), is (.bool true), is (.agg #[.int .u64 (x.t.seq : Int), .slice x.A1 x.t.bad.length x.c1, .slice x.A2 x.t.wear.length x.c2, .slice x.A3 x.t.void.length x.c3]), is (.int .u64 u), is (.bool (decide (u ∈ x.t.void))), is (.pointer (some ⟨P, 3, none⟩)), is (.slice x.A3 x.t.void.length x.c3), is (.int .u64 u), is (.bool (decide (u ∈ x.t.void))), is (.bool true), is (.bool true), is (.bool true), is (.agg #[.int .u64 (x.t.seq : Int), .slice x.A1 x.t.bad.length x.c1, .slice x.A2 x.t.wear.length x.c2, .slice x.A3 x.t.void.length x.c3]), is (.agg #[.int .u64 (y.t.seq : Int), .slice y.A1 y.t.bad.length y.c1, .slice y.A2 y.t.wear.length y.c2, .slice y.A3 y.t.void.length y.c3]), is (.bool (decide (x.t = y.t))), is (.agg #[.int .u64 (x.t.seq : Int), .slice x.A1 x.t.bad.length x.c1, .slice x.A2 x.t.wear.length x.c2, .slice x.A3 x.t.void.length x.c3]), is (.agg #[.int .u64 (y.t.seq : Int), .slice y.A1 y.t.bad.length y.c1, .slice y.A2 y.t.wear.length y.c2, .slice y.A3 y.t.void.length y.c3]), is (.bool (decide (x.t = y.t))), is (.bool true), is (.bool true)] (d - 173) (fun _ _ => True)) 2 (by kernel_rfl) (by kernel_rfl) ?_ ?_
            · refine And.intro ?_ (And.intro ?_ (And.intro ?_ (And.intro ?_ (And.intro ?_ (And.intro ?_ (And.intro ?_ (And.intro ?_ (And.intro ?_ (And.intro ?_ (And.intro ?_ (And.intro ?_ (And.intro ?_ (And.intro ?_ (And.intro ?_ (And.intro ?_ (And.intro ?_ (And.intro ?_ (And.intro ?_ (And.intro ?_ (And.intro ?_ (And.intro ?_ (And.intro ?_ (And.intro ?_ (And.intro ?_ (And.intro ?_ (And.intro ?_ (And.intro ?_ (And.intro ?_ (And.intro ?_ (And.intro ?_ trivial))))))))))))))))))))))))))))))
              · intro a w hb h
                exact .called (want0 rfl) rfl (by simp [go_sem]) (belowF (awake16_any w))
              · intro a w hb h
                have e173 := (sw h 173 (by kernel_rfl) (by kernel_rfl)).eq
                exact .val (want0 rfl) rfl (by simp [Act.eval, e173, go_sem]) (Keeps.is rfl)
              · intro a w hb h
                have eg := (sw h 174 (by kernel_rfl) (by kernel_rfl)).eq
                have e3 : a.tmps.getD 3 undef = .pointer (some ⟨P, 0, none⟩) := sb h 3 (by kernel_rfl) (by kernel_rfl) rfl
                exact .val (wantg rfl (by kernel_rfl) eg) rfl (exec_load_table rfl e3 (S9.out.later hb).bx) (Keeps.is rfl)
              · intro a w hb h
                have eg := (sw h 174 (by kernel_rfl) (by kernel_rfl)).eq
                have e5 : a.tmps.getD 5 undef = .int .i64 z := sb h 5 (by kernel_rfl) (by kernel_rfl) rfl
                exact .val (wantg rfl (by kernel_rfl) eg) rfl (by simp [Act.eval, e5, go_sem]) (Keeps.is rfl)
              · intro a w hb h
                have eg := (sw h 174 (by kernel_rfl) (by kernel_rfl)).eq
                have e175 := (sw h 175 (by kernel_rfl) (by kernel_rfl)).eq
                have e176 := (sw h 176 (by kernel_rfl) (by kernel_rfl)).eq
                exact .called (wantg rfl (by kernel_rfl) eg) rfl (by simp [Act.eval, e175, e176, go_sem]) (belowF (FB.out w (HB9.out.trans (hb.mono HB9.out.size))))
              · intro a w hb h
                have eg := (sw h 174 (by kernel_rfl) (by kernel_rfl)).eq
                have e3 : a.tmps.getD 3 undef = .pointer (some ⟨P, 0, none⟩) := sb h 3 (by kernel_rfl) (by kernel_rfl) rfl
                exact .val (wantg rfl (by kernel_rfl) eg) rfl (by simp [Act.eval, e3, go_sem]) (Keeps.is rfl)
              · intro a w hb h
                have eg := (sw h 174 (by kernel_rfl) (by kernel_rfl)).eq
                have e178 := (sw h 178 (by kernel_rfl) (by kernel_rfl)).eq
                have cc := (S9.out.later hb).bx.c 1 _ rfl
                exact .val (wantg rfl (by kernel_rfl) eg) rfl (by simp [Act.eval, e178, cc, go_sem]) (Keeps.is rfl)
              · intro a w hb h
                have eg := (sw h 174 (by kernel_rfl) (by kernel_rfl)).eq
                have e5 : a.tmps.getD 5 undef = .int .i64 z := sb h 5 (by kernel_rfl) (by kernel_rfl) rfl
                exact .val (wantg rfl (by kernel_rfl) eg) rfl (by simp [Act.eval, e5, go_sem]) (Keeps.is rfl)
              · intro a w hb h
                have eg := (sw h 174 (by kernel_rfl) (by kernel_rfl)).eq
                have e179 := (sw h 179 (by kernel_rfl) (by kernel_rfl)).eq
                have e180 := (sw h 180 (by kernel_rfl) (by kernel_rfl)).eq
                exact .called (wantg rfl (by kernel_rfl) eg) rfl (by simp [Act.eval, e179, e180, go_sem]) (quietF (FH.out w (S9.out.later hb) z))
              · intro a w hb h
                have eg := (sw h 174 (by kernel_rfl) (by kernel_rfl)).eq
                have e177 := (sw h 177 (by kernel_rfl) (by kernel_rfl)).eq
                have e181 := (sw h 181 (by kernel_rfl) (by kernel_rfl)).eq
                exact .val (wantg rfl (by kernel_rfl) eg) rfl (by simp [Act.eval, e177, e181, go_sem]) (Keeps.is rfl)
              · intro a w hb h
                have e174 := (sw h 174 (by kernel_rfl) (by kernel_rfl)).eq
                have e182 := (sw h 182 (by kernel_rfl) (by kernel_rfl)).eq
                exact .val (want0 rfl) rfl (by simp [Act.eval, e174, e182, go_sem]) (Keeps.is rfl)
              · intro a w hb h
                have e183 := (sw h 183 (by kernel_rfl) (by kernel_rfl)).eq
                exact .val (want0 rfl) rfl (by simp [Act.eval, e183, go_sem]) (Keeps.is rfl)
              · intro a w hb h
                have eg := (sw h 184 (by kernel_rfl) (by kernel_rfl)).eq
                have e3 : a.tmps.getD 3 undef = .pointer (some ⟨P, 0, none⟩) := sb h 3 (by kernel_rfl) (by kernel_rfl) rfl
                exact .val (wantg rfl (by kernel_rfl) eg) rfl (exec_load_table rfl e3 (S9.out.later hb).bx) (Keeps.is rfl)
              · intro a w hb h
                have eg := (sw h 184 (by kernel_rfl) (by kernel_rfl)).eq
                have e6 : a.tmps.getD 6 undef = .int .u64 u := sb h 6 (by kernel_rfl) (by kernel_rfl) rfl
                exact .val (wantg rfl (by kernel_rfl) eg) rfl (by simp [Act.eval, e6, go_sem]) (Keeps.is rfl)
              · intro a w hb h
                have eg := (sw h 184 (by kernel_rfl) (by kernel_rfl)).eq
                have e185 := (sw h 185 (by kernel_rfl) (by kernel_rfl)).eq
                have e186 := (sw h 186 (by kernel_rfl) (by kernel_rfl)).eq
                exact .called (wantg rfl (by kernel_rfl) eg) rfl (by simp [Act.eval, e185, e186, go_sem]) (belowF (FU.out w (HB9.out.trans (hb.mono HB9.out.size))))
              · intro a w hb h
                have eg := (sw h 184 (by kernel_rfl) (by kernel_rfl)).eq
                have e3 : a.tmps.getD 3 undef = .pointer (some ⟨P, 0, none⟩) := sb h 3 (by kernel_rfl) (by kernel_rfl) rfl
                exact .val (wantg rfl (by kernel_rfl) eg) rfl (by simp [Act.eval, e3, go_sem]) (Keeps.is rfl)
              · intro a w hb h
                have eg := (sw h 184 (by kernel_rfl) (by kernel_rfl)).eq
                have e188 := (sw h 188 (by kernel_rfl) (by kernel_rfl)).eq
                have cc := (S9.out.later hb).bx.c 3 _ rfl
                exact .val (wantg rfl (by kernel_rfl) eg) rfl (by simp [Act.eval, e188, cc, go_sem]) (Keeps.is rfl)
              · intro a w hb h
                have eg := (sw h 184 (by kernel_rfl) (by kernel_rfl)).eq
                have e6 : a.tmps.getD 6 undef = .int .u64 u := sb h 6 (by kernel_rfl) (by kernel_rfl) rfl
                exact .val (wantg rfl (by kernel_rfl) eg) rfl (by simp [Act.eval, e6, go_sem]) (Keeps.is rfl)
              · intro a w hb h
                have eg := (sw h 184 (by kernel_rfl) (by kernel_rfl)).eq
                have e189 := (sw h 189 (by kernel_rfl) (by kernel_rfl)).eq
                have e190 := (sw h 190 (by kernel_rfl) (by kernel_rfl)).eq
                exact .called (wantg rfl (by kernel_rfl) eg) rfl (by simp [Act.eval, e189, e190, go_sem]) (quietF (FI.out w (S9.out.later hb) u))
              · intro a w hb h
                have eg := (sw h 184 (by kernel_rfl) (by kernel_rfl)).eq
                have e187 := (sw h 187 (by kernel_rfl) (by kernel_rfl)).eq
                have e191 := (sw h 191 (by kernel_rfl) (by kernel_rfl)).eq
                exact .val (wantg rfl (by kernel_rfl) eg) rfl (by simp [Act.eval, e187, e191, go_sem]) (Keeps.is rfl)
              · intro a w hb h
                have e184 := (sw h 184 (by kernel_rfl) (by kernel_rfl)).eq
                have e192 := (sw h 192 (by kernel_rfl) (by kernel_rfl)).eq
                exact .val (want0 rfl) rfl (by simp [Act.eval, e184, e192, go_sem]) (Keeps.is rfl)
              · intro a w hb h
                have e193 := (sw h 193 (by kernel_rfl) (by kernel_rfl)).eq
                exact .val (want0 rfl) rfl (by simp [Act.eval, e193, go_sem]) (Keeps.is rfl)
              · intro a w hb h
                have eg := (sw h 194 (by kernel_rfl) (by kernel_rfl)).eq
                have e3 : a.tmps.getD 3 undef = .pointer (some ⟨P, 0, none⟩) := sb h 3 (by kernel_rfl) (by kernel_rfl) rfl
                exact .val (wantg rfl (by kernel_rfl) eg) rfl (exec_load_table rfl e3 (S9.out.later hb).bx) (Keeps.is rfl)
              · intro a w hb h
                have eg := (sw h 194 (by kernel_rfl) (by kernel_rfl)).eq
                have e4 : a.tmps.getD 4 undef = .pointer (some ⟨Q, 0, none⟩) := sb h 4 (by kernel_rfl) (by kernel_rfl) rfl
                exact .val (wantg rfl (by kernel_rfl) eg) rfl (exec_load_table rfl e4 (S9.out.later hb).by_) (Keeps.is rfl)
              · intro a w hb h
                have eg := (sw h 194 (by kernel_rfl) (by kernel_rfl)).eq
                have e195 := (sw h 195 (by kernel_rfl) (by kernel_rfl)).eq
                have e196 := (sw h 196 (by kernel_rfl) (by kernel_rfl)).eq
                exact .called (wantg rfl (by kernel_rfl) eg) rfl (by simp [Act.eval, e195, e196, go_sem]) (belowF (FS.out w (HB9.out.trans (hb.mono HB9.out.size))))
              · intro a w hb h
                have eg := (sw h 194 (by kernel_rfl) (by kernel_rfl)).eq
                have e3 : a.tmps.getD 3 undef = .pointer (some ⟨P, 0, none⟩) := sb h 3 (by kernel_rfl) (by kernel_rfl) rfl
                exact .val (wantg rfl (by kernel_rfl) eg) rfl (exec_load_table rfl e3 (S9.out.later hb).bx) (Keeps.is rfl)
              · intro a w hb h
                have eg := (sw h 194 (by kernel_rfl) (by kernel_rfl)).eq
                have e4 : a.tmps.getD 4 undef = .pointer (some ⟨Q, 0, none⟩) := sb h 4 (by kernel_rfl) (by kernel_rfl) rfl
                exact .val (wantg rfl (by kernel_rfl) eg) rfl (exec_load_table rfl e4 (S9.out.later hb).by_) (Keeps.is rfl)
              · intro a w hb h
                have eg := (sw h 194 (by kernel_rfl) (by kernel_rfl)).eq
                have e198 := (sw h 198 (by kernel_rfl) (by kernel_rfl)).eq
                have e199 := (sw h 199 (by kernel_rfl) (by kernel_rfl)).eq
                exact .called (wantg rfl (by kernel_rfl) eg) rfl (by simp [Act.eval, e198, e199, go_sem]) (belowF (FR.out w (HB9.out.trans (hb.mono HB9.out.size))))
              · intro a w hb h
                have eg := (sw h 194 (by kernel_rfl) (by kernel_rfl)).eq
                have e197 := (sw h 197 (by kernel_rfl) (by kernel_rfl)).eq
                have e200 := (sw h 200 (by kernel_rfl) (by kernel_rfl)).eq
                exact .val (wantg rfl (by kernel_rfl) eg) rfl (by simp [Act.eval, e197, e200, go_sem]) (Keeps.is rfl)
              · intro a w hb h
                have e194 := (sw h 194 (by kernel_rfl) (by kernel_rfl)).eq
                have e201 := (sw h 201 (by kernel_rfl) (by kernel_rfl)).eq
                exact .val (want0 rfl) rfl (by simp [Act.eval, e194, e201, go_sem]) (Keeps.is rfl)
              · intro a w hb h
                have e202 := (sw h 202 (by kernel_rfl) (by kernel_rfl)).eq
                exact .val (want0 rfl) rfl (by simp [Act.eval, e202, go_sem]) (Keeps.is rfl)
            · intro a w2 hd hb hv
              have er := hv.eq
              clear hv
              simp only [Exit.then]
              go_wp2
              exact ⟨hd, _, results_tmp rfl _ _ _, by rw [er], Hb1.out.trans (hb.mono Hb1.out.size)⟩
end Go.Proofs.YtigpplckddnghaaGreat
