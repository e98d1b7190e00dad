/-
  The walk of TablePuts. (By gen/TbX.gen.py: wants /tmp/out/ops3.txt = opsf.sh of the law's number.)
-/
import Derived.Test.YtfpooljpbncogaaGreatTbA
import Derived.Test.YtfpooljpbncogaaGreatTbG
import Derived.Test.YtfpooljpbncogaaGreatFlow
namespace Go.Proofs.YtfpooljpbncogaaGreat
open Go.RowKit
set_option maxRecDepth 8000

theorem exec_load_table {o : Oper} {a : Act} {w : World} {x : Tl} {k : Nat} {t : Tmp} (ho : o.op = .load 26 (.tmp t)) (e : a.tmps.getD t undef = .pointer (some ⟨k, 0, none⟩)) (hx : BoxT x k w) : (execOp a.eval o).run Tryz.prog w = .ok (.value (.agg #[.int .u64 (x.t.seq : Int), .slice x.A1 x.t.bad.length x.c1, .slice x.A2 x.t.wear.length x.c2, .slice x.A3 x.t.void.length x.c3])) w :=
  exec_load_mid 26 (.tmp t) ho k 0 e x.cells _ hx.range Tryz.underlying26 rfl infoTb rfl

set_option maxHeartbeats 4000000 in
theorem tputs_off (x : Tl) (w : World) (hl : ¬ (x.t.bad.length ≤ 60 ∧ x.t.wear.length ≤ 60 ∧ x.t.void.length ≤ 60)) : Calls Tryz.prog 3 #[x.val] w fun e w' => e = .returned (.bool true) ∧ Below w.heap.size w w' := by
  have HB := hide ((Below.refl w.heap.size w).alloc (Nat.le_refl _) (.cells x.cells.toArray 26))
  have F := hide (light_any16 x (w.alloc (.cells x.cells.toArray 26)))
  rw [decide_eq_false hl] at F
  have e0 : x.val = .agg #[.int .u64 (x.t.seq : Int), .slice x.A1 x.t.bad.length x.c1, .slice x.A2 x.t.wear.length x.c2, .slice x.A3 x.t.void.length x.c3] := rfl
  have e1 : x.cells.toArray = #[.int .u64 (x.t.seq : Int), .slice x.A1 x.t.bad.length x.c1, .slice x.A2 x.t.wear.length x.c2, .slice x.A3 x.t.void.length x.c3] := rfl
  rw [e0] at F ⊢
  rw [e1] at HB F
  clear hl e0 e1
  go_enter Tryz.func3, Tryz.ntmps3
  go_wp2_with fail
  (with_reducible refine F.out.mono ?_)
  rintro e w2 ⟨rfl, hb⟩
  have HB2 := hide (HB.out.trans (hb.mono HB.out.size))
  clear hb F HB
  go_wp2_with fail
  (with_reducible refine (awake16_any _).mono ?_)
  rintro e w3 ⟨rfl, hb⟩
  have HB3 := hide (HB2.out.trans (hb.mono HB2.out.size))
  clear hb
  go_wp2
  go_ret
  exact ⟨rfl, HB3.out⟩

set_option maxHeartbeats 8000000 in
theorem tputs_on (x : Tl) (w : World) (hx : x.Ok w w.heap.size) (hl : x.t.bad.length ≤ 60 ∧ x.t.wear.length ≤ 60 ∧ x.t.void.length ≤ 60) : Calls Tryz.prog 3 #[x.val] w fun e w' => e = .returned (.bool true) ∧ Below w.heap.size w w' := by
  have hf : x.Few := ⟨by omega, by omega, by omega⟩
  have hb1 := (Below.refl w.heap.size w).alloc (Nat.le_refl _) (.cells x.cells.toArray 26)
  have HB := hide hb1
  have HX := hide (BoxT.new x w)
  have HO := hide hx
  have Hf := hide hf
  have F := hide (light_any16 x (w.alloc (.cells x.cells.toArray 26)))
  rw [decide_eq_true hl] at F
  have FM := hide (fun W (hW : Below w.heap.size w W) => may16_any x _ W (hx.below hW) hf hW.size)
  have FC := hide (fun W (hW : Below w.heap.size w W) => tcheck_any x _ W (hx.below hW) hf hW.size)
  have e0 : x.val = .agg #[.int .u64 (x.t.seq : Int), .slice x.A1 x.t.bad.length x.c1, .slice x.A2 x.t.wear.length x.c2, .slice x.A3 x.t.void.length x.c3] := rfl
  have e1 : x.cells.toArray = #[.int .u64 (x.t.seq : Int), .slice x.A1 x.t.bad.length x.c1, .slice x.A2 x.t.wear.length x.c2, .slice x.A3 x.t.void.length x.c3] := rfl
  by_cases hm : x.t.May
  · rw [decide_eq_true hm] at FM
    rw [Tb.check_ok hm] at FC
    have FU := hide (fun W (hW : Below w.heap.size w W) => tput_ok x _ W (hx.below hW) hf hm hW.size)
    have FP0 := hide (fun W (hW : Below w.heap.size w W) => put16_any x _ W (hx.below hW) hm hW.size)
    obtain ⟨PG, hPG⟩ : ∃ p, Hid (p = x.t.page) := ⟨_, hide rfl⟩
    have HGT := hide (getT_page hm)
    rw [← hPG.out] at FU FP0 HGT
    rw [e0] at F FM FC FU FP0 ⊢
    rw [e1] at HB HX F
    clear hx hf hl hm hb1 e0 e1
    go_enter Tryz.func3, Tryz.ntmps3
    go_wp2_with fail
    (with_reducible refine F.out.mono ?_)
    rintro e w2 ⟨rfl, hb⟩
    have HB2 := hide (HB.out.trans (hb.mono HB.out.size))
    have HX2 := hide (HX.out.below hb HX.out.lt)
    clear hb F HB HX
    have c0 := HX2.out.c 0 _ rfl
    have c1 := HX2.out.c 1 _ rfl
    have c2 := HX2.out.c 2 _ rfl
    have c3 := HX2.out.c 3 _ rfl
    go_wp2_with fail
    (with_reducible refine (FU.out _ HB2.out).mono ?_)
    rintro e w3 ⟨A6, k6, rfl, ho, hb⟩
    have HB3 := hide (HB2.out.trans (hb.mono HB2.out.size))
    have HX3 := hide (HX2.out.below hb HX2.out.lt)
    have HL3 := hide (Lies.of_own ho)
    have hpl : PG.length = 256 := by have := ho.1; rw [bys_len] at this; omega
    obtain ⟨A9, c9, e9, hk6, _⟩ := own_form ho
    have Hk6 : Hid (256 ≤ k6) := hide (by injection e9 with _ _ h; omega)
    have Hpl := hide hpl
    clear hb FU HB2 HX2 ho hpl e9 hk6 c0 c1 c2 c3
    have c0 := HX3.out.c 0 _ rfl
    have c1 := HX3.out.c 1 _ rfl
    have c2 := HX3.out.c 2 _ rfl
    have c3 := HX3.out.c 3 _ rfl
    go_wp2_with fail
    (with_reducible refine (FM.out _ HB3.out).mono ?_)
    rintro e w4 ⟨rfl, hb⟩
    have HB4 := hide (HB3.out.trans (hb.mono HB3.out.size))
    have HX4 := hide (HX3.out.below hb HX3.out.lt)
    have HL4 := hide ((HL3.out.below hb).up hb.size)
    clear hb FM HB3 HX3 HL3 c0 c1 c2 c3
    have c0 := HX4.out.c 0 _ rfl
    have c1 := HX4.out.c 1 _ rfl
    have c2 := HX4.out.c 2 _ rfl
    have c3 := HX4.out.c 3 _ rfl
    go_wp2_with fail
    (with_reducible refine (FC.out _ HB4.out).mono ?_)
    rintro e w5 ⟨rfl, hb⟩
    have HB5 := hide (HB4.out.trans (hb.mono HB4.out.size))
    have HX5 := hide (HX4.out.below hb HX4.out.lt)
    have HL5 := hide ((HL4.out.below hb).up hb.size)
    have FG := hide (tget_any A6 256 k6 _ PG w5 HL5.out Hpl.out.symm Hk6.out (Nat.le_refl _) (by omega))
    clear hb FC HB4 HX4 HL4 c0 c1 c2 c3
    unfold GetEnd at FG
    go_wp2_with fail
    (with_reducible refine FG.out.mono ?_)
    rintro e w6 ⟨u, q, rfl, hut, hq, huok, hufew, hb⟩
    rw [HGT.out] at hut hq
    dsimp only at hut hq
    subst hq
    have HB6 := hide (HB5.out.trans (hb.mono HB5.out.size))
    have HX6 := HX5.out.below hb HX5.out.lt
    have HL6 := HL5.out.below hb
    have Hut := hide hut
    have Huf := hide hufew
    have e0 : u.val = .agg #[.int .u64 (u.t.seq : Int), .slice u.A1 u.t.bad.length u.c1, .slice u.A2 u.t.wear.length u.c2, .slice u.A3 u.t.void.length u.c3] := rfl
    have e1 : u.cells.toArray = #[.int .u64 (u.t.seq : Int), .slice u.A1 u.t.bad.length u.c1, .slice u.A2 u.t.wear.length u.c2, .slice u.A3 u.t.void.length u.c3] := rfl
    have bl7 := (Below.refl w6.heap.size w6).alloc (Nat.le_refl _) (.cells u.cells.toArray 26)
    have HB9 := hide (HB6.out.alloc HB6.out.size (.cells u.cells.toArray 26))
    have HX9 := hide (HX6.below bl7 HX6.lt)
    have HU9 := hide (BoxT.new u w6)
    have HO9 := hide ((HO.out.below HB9.out).up HB9.out.size)
    have HUO9 := hide ((huok.below bl7).up bl7.size)
    have HL9 := hide (HL6.below (bl7.mono hb.size))
    have HLs := hide (Nat.le_trans hb.size bl7.size)
    rw [e0]
    rw [e1] at HB9 HX9 HU9 HO9 HUO9 HL9 HLs
    clear hut huok hufew hb HX6 HL6 HB6 HB5 HX5 HL5 FG bl7 e0 e1
    go_upto_region 10 with fail
    generalize w6.alloc (.cells #[.int .u64 (u.t.seq : Int), .slice u.A1 u.t.bad.length u.c1, .slice u.A2 u.t.wear.length u.c2, .slice u.A3 u.t.void.length u.c3] 26) = w9 at *
    generalize w6.heap.size = ku at *
    obtain ⟨PS, hPS⟩ : ∃ s, Hid (s = str PG) := ⟨_, hide rfl⟩
    have HCV : Hid (∀ W, Below w9.heap.size w9 W → (convert 29 9 (.slice A6 256 k6)).run Tryz.prog W = .ok (.string PS) W) := hide (fun W hW => by
      rw [hPS.out]; exact strU8 k6 (HL9.out.below (hW.mono HLs.out)) Hpl.out.symm)
    have FP : Hid (∀ W, Below w9.heap.size w9 W → Calls Tryz.prog 12 #[.agg #[.int .u64 (x.t.seq : Int), .slice x.A1 x.t.bad.length x.c1, .slice x.A2 x.t.wear.length x.c2, .slice x.A3 x.t.void.length x.c3]] W fun e w' => e = .returned (.string PS) ∧ Below W.heap.size W w') := hide (fun W hW => by
      rw [hPS.out]; exact FP0.out W (HB9.out.trans (hW.mono HB9.out.size)))
    have FS : Hid (∀ W, Below w9.heap.size w9 W → Calls Tryz.prog 13 #[.agg #[.int .u64 (x.t.seq : Int), .slice x.A1 x.t.bad.length x.c1, .slice x.A2 x.t.wear.length x.c2, .slice x.A3 x.t.void.length x.c3], .agg #[.int .u64 (u.t.seq : Int), .slice u.A1 u.t.bad.length u.c1, .slice u.A2 u.t.wear.length u.c2, .slice u.A3 u.t.void.length u.c3]] W fun e w' => e = .returned (.bool true) ∧ Below W.heap.size W w') := hide (fun W hW => by
      have := same16_any x u _ W (HO9.out.below hW) (HUO9.out.below hW) Hf.out Huf.out hW.size
      rwa [show decide (x.t = u.t) = true from decide_eq_true Hut.out.symm] at this)
    have Hb1 := HB9
    clear FP0 HUO9 HO9 HL9
    generalize hsz : w.heap.size = sz at *
    refine wp_region_flow (by kernel_rfl) (fun d => if d = 2 then is (.bool true) else List.getD [is (.bool true), is (.bool true), is (.int .i64 0), is (.bool true), is (.bool true), is (.bool true), is (.slice A6 256 k6), is (.string PS), is (.agg #[.int .u64 (x.t.seq : Int), .slice x.A1 x.t.bad.length x.c1, .slice x.A2 x.t.wear.length x.c2, .slice x.A3 x.t.void.length x.c3]), is (.string PS), is (.bool true), is (.bool true), is (.bool true), is (.int .i64 0), is (.bool true), is (.bool true), is (.bool true), is (.agg #[.int .u64 (x.t.seq : Int), .slice x.A1 x.t.bad.length x.c1, .slice x.A2 x.t.wear.length x.c2, .slice x.A3 x.t.void.length x.c3]), is (.agg #[.int .u64 (u.t.seq : Int), .slice u.A1 u.t.bad.length u.c1, .slice u.A2 u.t.wear.length u.c2, .slice u.A3 u.t.void.length u.c3]), is (.bool true), is (.bool true)] (d - 41) (fun _ _ => True)) 2 (by kernel_rfl) (by kernel_rfl) ?_ ?_
    · refine And.intro ?_ (And.intro ?_ (And.intro ?_ (And.intro ?_ (And.intro ?_ (And.intro ?_ (And.intro ?_ (And.intro ?_ (And.intro ?_ (And.intro ?_ (And.intro ?_ (And.intro ?_ (And.intro ?_ (And.intro ?_ (And.intro ?_ (And.intro ?_ (And.intro ?_ (And.intro ?_ (And.intro ?_ (And.intro ?_ (And.intro ?_ (And.intro ?_ trivial)))))))))))))))))))))
      · intro a w hb h
        exact .called (want0 rfl) rfl (by simp [go_sem]) (belowF (awake16_any w))
      · intro a w hb h
        have e41 := (sw h 41 (by kernel_rfl) (by kernel_rfl)).eq
        exact .val (want0 rfl) rfl (by simp [Act.eval, e41, go_sem]) (Keeps.is rfl)
      · intro a w hb h
        have eg := (sw h 42 (by kernel_rfl) (by kernel_rfl)).eq
        have e4 : a.tmps.getD 4 undef = .int .i64 0 := sb h 4 (by kernel_rfl) (by kernel_rfl) rfl
        exact .val (wantg rfl (by kernel_rfl) eg) rfl (by simp [Act.eval, e4, go_sem]) (Keeps.is rfl)
      · intro a w hb h
        have eg := (sw h 42 (by kernel_rfl) (by kernel_rfl)).eq
        have e43 := (sw h 43 (by kernel_rfl) (by kernel_rfl)).eq
        exact .val (wantg rfl (by kernel_rfl) eg) rfl (by simp [Act.eval, e43, go_sem]) (Keeps.is rfl)
      · intro a w hb h
        have e42 := (sw h 42 (by kernel_rfl) (by kernel_rfl)).eq
        have e44 := (sw h 44 (by kernel_rfl) (by kernel_rfl)).eq
        exact .val (want0 rfl) rfl (by simp [Act.eval, e42, e44, go_sem]) (Keeps.is rfl)
      · intro a w hb h
        have e45 := (sw h 45 (by kernel_rfl) (by kernel_rfl)).eq
        exact .val (want0 rfl) rfl (by simp [Act.eval, e45, go_sem]) (Keeps.is rfl)
      · intro a w hb h
        have eg := (sw h 46 (by kernel_rfl) (by kernel_rfl)).eq
        have e3 : a.tmps.getD 3 undef = .slice A6 256 k6 := sb h 3 (by kernel_rfl) (by kernel_rfl) rfl
        exact .val (wantg rfl (by kernel_rfl) eg) rfl (by simp [Act.eval, e3, go_sem]) (Keeps.is rfl)
      · intro a w hb h
        have eg := (sw h 46 (by kernel_rfl) (by kernel_rfl)).eq
        have e47 := (sw h 47 (by kernel_rfl) (by kernel_rfl)).eq
        exact .val (wantg rfl (by kernel_rfl) eg) rfl (by simp [Act.eval, e47, HCV.out w hb, go_sem]) (Keeps.is rfl)
      · intro a w hb h
        have eg := (sw h 46 (by kernel_rfl) (by kernel_rfl)).eq
        have e1 : a.tmps.getD 1 undef = .pointer (some ⟨sz, 0, none⟩) := sb h 1 (by kernel_rfl) (by kernel_rfl) rfl
        exact .val (wantg rfl (by kernel_rfl) eg) rfl (exec_load_table rfl e1 (HX9.out.below hb HX9.out.lt)) (Keeps.is rfl)
      · intro a w hb h
        have eg := (sw h 46 (by kernel_rfl) (by kernel_rfl)).eq
        have e49 := (sw h 49 (by kernel_rfl) (by kernel_rfl)).eq
        exact .called (wantg rfl (by kernel_rfl) eg) rfl (by simp [Act.eval, e49, go_sem]) (belowF (FP.out w hb))
      · intro a w hb h
        have eg := (sw h 46 (by kernel_rfl) (by kernel_rfl)).eq
        have e48 := (sw h 48 (by kernel_rfl) (by kernel_rfl)).eq
        have e50 := (sw h 50 (by kernel_rfl) (by kernel_rfl)).eq
        exact .val (wantg rfl (by kernel_rfl) eg) rfl (by simp [Act.eval, e48, e50, go_sem]) (Keeps.is rfl)
      · intro a w hb h
        have e46 := (sw h 46 (by kernel_rfl) (by kernel_rfl)).eq
        have e51 := (sw h 51 (by kernel_rfl) (by kernel_rfl)).eq
        exact .val (want0 rfl) rfl (by simp [Act.eval, e46, e51, go_sem]) (Keeps.is rfl)
      · intro a w hb h
        have e52 := (sw h 52 (by kernel_rfl) (by kernel_rfl)).eq
        exact .val (want0 rfl) rfl (by simp [Act.eval, e52, go_sem]) (Keeps.is rfl)
      · intro a w hb h
        have eg := (sw h 53 (by kernel_rfl) (by kernel_rfl)).eq
        have e7 : a.tmps.getD 7 undef = .int .i64 0 := sb h 7 (by kernel_rfl) (by kernel_rfl) rfl
        exact .val (wantg rfl (by kernel_rfl) eg) rfl (by simp [Act.eval, e7, go_sem]) (Keeps.is rfl)
      · intro a w hb h
        have eg := (sw h 53 (by kernel_rfl) (by kernel_rfl)).eq
        have e54 := (sw h 54 (by kernel_rfl) (by kernel_rfl)).eq
        exact .val (wantg rfl (by kernel_rfl) eg) rfl (by simp [Act.eval, e54, go_sem]) (Keeps.is rfl)
      · intro a w hb h
        have e53 := (sw h 53 (by kernel_rfl) (by kernel_rfl)).eq
        have e55 := (sw h 55 (by kernel_rfl) (by kernel_rfl)).eq
        exact .val (want0 rfl) rfl (by simp [Act.eval, e53, e55, go_sem]) (Keeps.is rfl)
      · intro a w hb h
        have e56 := (sw h 56 (by kernel_rfl) (by kernel_rfl)).eq
        exact .val (want0 rfl) rfl (by simp [Act.eval, e56, go_sem]) (Keeps.is rfl)
      · intro a w hb h
        have eg := (sw h 57 (by kernel_rfl) (by kernel_rfl)).eq
        have e1 : a.tmps.getD 1 undef = .pointer (some ⟨sz, 0, none⟩) := sb h 1 (by kernel_rfl) (by kernel_rfl) rfl
        exact .val (wantg rfl (by kernel_rfl) eg) rfl (exec_load_table rfl e1 (HX9.out.below hb HX9.out.lt)) (Keeps.is rfl)
      · intro a w hb h
        have eg := (sw h 57 (by kernel_rfl) (by kernel_rfl)).eq
        have e6 : a.tmps.getD 6 undef = .pointer (some ⟨ku, 0, none⟩) := sb h 6 (by kernel_rfl) (by kernel_rfl) rfl
        exact .val (wantg rfl (by kernel_rfl) eg) rfl (exec_load_table rfl e6 (HU9.out.below hb HU9.out.lt)) (Keeps.is rfl)
      · intro a w hb h
        have eg := (sw h 57 (by kernel_rfl) (by kernel_rfl)).eq
        have e58 := (sw h 58 (by kernel_rfl) (by kernel_rfl)).eq
        have e59 := (sw h 59 (by kernel_rfl) (by kernel_rfl)).eq
        exact .called (wantg rfl (by kernel_rfl) eg) rfl (by simp [Act.eval, e58, e59, go_sem]) (belowF (FS.out w hb))
      · intro a w hb h
        have e57 := (sw h 57 (by kernel_rfl) (by kernel_rfl)).eq
        have e60 := (sw h 60 (by kernel_rfl) (by kernel_rfl)).eq
        exact .val (want0 rfl) rfl (by simp [Act.eval, e57, e60, go_sem]) (Keeps.is rfl)
      · intro a w hb h
        have e61 := (sw h 61 (by kernel_rfl) (by kernel_rfl)).eq
        exact .val (want0 rfl) rfl (by simp [Act.eval, e61, go_sem]) (Keeps.is rfl)
    · intro a w2 hd hb hv
      have er := hv.eq
      clear hv
      simp only [Exit.then]
      go_wp2
      exact ⟨hd, _, results_tmp rfl _ _ _, by rw [er], by subst hsz; exact Hb1.out.trans (hb.mono Hb1.out.size)⟩
  · rw [decide_eq_false hm] at FM
    rw [Tb.check_not hm] at FC
    have FU := hide (fun W (hW : Below w.heap.size w W) => tput_bad x _ W (hx.below hW) hf hm hW.size)
    rw [e0] at F FM FC FU ⊢
    rw [e1] at HB HX F
    clear hx hf hl hm hb1 e0 e1
    go_enter Tryz.func3, Tryz.ntmps3
    go_wp2_with fail
    (with_reducible refine F.out.mono ?_)
    rintro e w2 ⟨rfl, hb⟩
    have HB2 := hide (HB.out.trans (hb.mono HB.out.size))
    have HX2 := hide (HX.out.below hb HX.out.lt)
    clear hb F HB HX
    have c0 := HX2.out.c 0 _ rfl
    have c1 := HX2.out.c 1 _ rfl
    have c2 := HX2.out.c 2 _ rfl
    have c3 := HX2.out.c 3 _ rfl
    go_wp2_with fail
    (with_reducible refine (FU.out _ HB2.out).mono ?_)
    rintro e w3 ⟨rfl, hb⟩
    have HB3 := hide (HB2.out.trans (hb.mono HB2.out.size))
    have HX3 := hide (HX2.out.below hb HX2.out.lt)
    clear hb FU HB2 HX2 c0 c1 c2 c3
    have c0 := HX3.out.c 0 _ rfl
    have c1 := HX3.out.c 1 _ rfl
    have c2 := HX3.out.c 2 _ rfl
    have c3 := HX3.out.c 3 _ rfl
    go_wp2_with fail
    (with_reducible refine (FM.out _ HB3.out).mono ?_)
    rintro e w4 ⟨rfl, hb⟩
    have HB4 := hide (HB3.out.trans (hb.mono HB3.out.size))
    have HX4 := hide (HX3.out.below hb HX3.out.lt)
    clear hb FM HB3 HX3 c0 c1 c2 c3
    have c0 := HX4.out.c 0 _ rfl
    have c1 := HX4.out.c 1 _ rfl
    have c2 := HX4.out.c 2 _ rfl
    have c3 := HX4.out.c 3 _ rfl
    go_wp2_with fail
    (with_reducible refine (FC.out _ HB4.out).mono ?_)
    rintro e w5 ⟨rfl, hb⟩
    have HB5 := hide (HB4.out.trans (hb.mono HB4.out.size))
    clear hb FC HB4 HX4 c0 c1 c2 c3
    go_wp2_with fail
    (with_reducible refine (awake16_any _).mono ?_)
    rintro e w6 ⟨rfl, hb⟩
    have HB6 := hide (HB5.out.trans (hb.mono HB5.out.size))
    clear hb
    go_wp2
    go_ret
    exact ⟨rfl, HB6.out⟩
end Go.Proofs.YtfpooljpbncogaaGreat
