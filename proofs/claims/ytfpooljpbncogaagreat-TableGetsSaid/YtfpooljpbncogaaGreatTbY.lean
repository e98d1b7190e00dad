/-
  The walk of TableGets. (By gen/TbY.gen.py: wants /tmp/out/ops4.txt = opsf.sh of the law's number.)
-/
import Derived.Test.YtfpooljpbncogaaGreatTbX
import Derived.Test.YtfpooljpbncogaaGreatPgK
namespace Go.Proofs.YtfpooljpbncogaaGreat
open Go.RowKit
set_option maxRecDepth 8000

theorem tgets_off (A : Option Addr) (n c : Nat) (w : World) (hn : 400 < n) : Calls Tryz.prog 4 #[.slice A n c] w fun e w' => e = .returned (.bool true) ∧ Below w.heap.size w w' := by
  have h4 : (400 : Int) < (n : Int) := by omega
  clear hn
  go_enter Tryz.func4, Tryz.ntmps4
  go_wp2_with fail
  (with_reducible refine (awake16_any _).mono ?_)
  rintro e w3 ⟨rfl, hb⟩
  have HB := hide hb
  clear hb
  go_wp2
  go_ret
  exact ⟨rfl, HB.out⟩
theorem getT_zero {b : List UInt8} (h : (getT b).2 ≠ 0) : (getT b).1 = zeroT ∧ ((getT b).2 = 8 ∨ (getT b).2 = 6) := by
  unfold getT at *
  by_cases h0 : classN b = 0
  · rw [if_pos h0]; exact ⟨rfl, .inl rfl⟩
  · rw [if_neg h0] at h ⊢
    by_cases h1 : classN b = 1
    · rw [if_pos h1] at h ⊢
      split
      · rename_i h2; rw [if_pos h2] at h; exact absurd rfl h
      · exact ⟨rfl, .inr rfl⟩
    · rw [if_neg h1]; exact ⟨rfl, .inr rfl⟩
theorem getT_class {b : List UInt8} : (classN b = 0 → getT b = (zeroT, 8)) ∧ (classN b = 2 → getT b = (zeroT, 6)) ∧ ((getT b).2 = 0 → (getT b).1.May ∧ (getT b).1.page = b) ∧ (classN b = 1 → (getT b).2 = 0 ∨ getT b = (zeroT, 6)) := by
  refine ⟨fun h => by unfold getT; rw [if_pos h], fun h => by unfold getT; rw [if_neg (by omega), if_neg (by omega)], fun h => ?_, fun h => ?_⟩
  · unfold getT at *
    by_cases h0 : classN b = 0
    · rw [if_pos h0] at h; exact absurd h (by decide)
    · rw [if_neg h0] at h ⊢
      by_cases h1 : classN b = 1
      · rw [if_pos h1] at h ⊢
        by_cases h2 : (readT (headOf b) (dataOf b)).May ∧ (readT (headOf b) (dataOf b)).page = b
        · rw [if_pos h2]; exact h2
        · rw [if_neg h2] at h; exact absurd h (by decide)
      · rw [if_neg h1] at h; exact absurd h (by decide)
  · unfold getT
    rw [if_neg (by omega), if_pos h]
    by_cases h2 : (readT (headOf b) (dataOf b)).May ∧ (readT (headOf b) (dataOf b)).page = b
    · rw [if_pos h2]; exact .inl rfl
    · rw [if_neg h2]; exact .inr rfl

set_option maxHeartbeats 8000000 in
theorem tgets_on (A : Option Addr) (n c : Nat) (b : List UInt8) (w : World) (hl : Lies w w.heap.size A (bys b)) (hn : n = b.length) (hc : n ≤ c) (h4 : n ≤ 400) : Calls Tryz.prog 4 #[.slice A n c] w fun e w' => e = .returned (.bool true) ∧ Below w.heap.size w w' := by
  have h4' : ¬ (400 : Int) < (n : Int) := by omega
  have FG := hide (tget_any A n c _ b w hl hn hc (Nat.le_refl _) (by omega))
  have FK := hide (fun W => class15_any b W (by omega))
  have HL := hide (fun W (hW : Below w.heap.size w W) => hl.below hW)
  have Hn := hide hn
  obtain ⟨g0, g2, gk, g1⟩ := getT_class (b := b)
  obtain ⟨PS, hPS⟩ : ∃ s, Hid (s = str b) := ⟨_, hide rfl⟩
  have HCV0 : Hid (∀ W, Below w.heap.size w W → (convert 29 9 (.slice A n c)).run Tryz.prog W = .ok (.string PS) W) := hide (fun W hW => by
    rw [hPS.out]; exact strU8 c (HL.out W hW) Hn.out)
  rw [← hPS.out] at FK
  have hcls := class_le b
  unfold GetEnd at FG
  by_cases h0 : (getT b).2 = 0
  · obtain ⟨hm, hpg⟩ := gk h0
    have hk1 : classN b = 1 := by
      rcases (show classN b = 0 ∨ classN b = 1 ∨ classN b = 2 by omega) with h | h | h
      · rw [g0 h] at h0; exact absurd h0 (by decide)
      · exact h
      · rw [g2 h] at h0; exact absurd h0 (by decide)
    rw [hk1] at FK
    rw [h0] at FG
    have Hm := hide hm
    have Hpg := hide hpg
    clear g0 g2 gk g1 h0 hm hpg hk1 hcls hl hn hc h4
    go_enter Tryz.func4, Tryz.ntmps4
    go_wp2_with fail
    (with_reducible refine FG.out.mono ?_)
    rintro e w6 ⟨x, q, rfl, hxt, hq, hok, hfew, hb⟩
    subst hq
    have e0 : x.val = .agg #[.int .u64 (x.t.seq : Int), .slice x.A1 x.t.bad.length x.c1, .slice x.A2 x.t.wear.length x.c2, .slice x.A3 x.t.void.length x.c3] := rfl
    have e1 : x.cells.toArray = #[.int .u64 (x.t.seq : Int), .slice x.A1 x.t.bad.length x.c1, .slice x.A2 x.t.wear.length x.c2, .slice x.A3 x.t.void.length x.c3] := rfl
    have bl7 := (Below.refl w6.heap.size w6).alloc (Nat.le_refl _) (.cells x.cells.toArray 26)
    have HB7 := hide (hb.alloc hb.size (.cells x.cells.toArray 26))
    have HX7 := hide (BoxT.new x w6)
    have HO7 := hide ((hok.below bl7).up bl7.size)
    have Hxt := hide hxt
    have Hf := hide hfew
    rw [e0]
    rw [e1] at HB7 HX7 HO7
    clear hxt hok hfew hb bl7 FG e0 e1
    go_upto_region 4 with fail
    generalize w6.alloc (.cells #[.int .u64 (x.t.seq : Int), .slice x.A1 x.t.bad.length x.c1, .slice x.A2 x.t.wear.length x.c2, .slice x.A3 x.t.void.length x.c3] 26) = w7 at *
    generalize w6.heap.size = ku at *
    have hcv7 := HCV0.out w7 HB7.out
    have FK7 := hide (FK.out w7)
    clear FK
    go_wp2_with fail
    (with_reducible refine FK7.out.mono ?_)
    rintro e w9 ⟨rfl, hb⟩
    have HB9 := hide (HB7.out.trans (hb.mono HB7.out.size))
    have HX9 := hide (HX7.out.below hb HX7.out.lt)
    have HO9 := hide ((HO7.out.below hb).up hb.size)
    have HCV : Hid (∀ W, Below w9.heap.size w9 W → (convert 29 9 (.slice A n c)).run Tryz.prog W = .ok (.string PS) W) := hide (fun W hW => HCV0.out W (HB9.out.trans (hW.mono HB9.out.size)))
    have FM : Hid (∀ W, Below w9.heap.size w9 W → Calls Tryz.prog 9 #[.agg #[.int .u64 (x.t.seq : Int), .slice x.A1 x.t.bad.length x.c1, .slice x.A2 x.t.wear.length x.c2, .slice x.A3 x.t.void.length x.c3]] W fun e w' => e = .returned (.bool true) ∧ Below W.heap.size W w') := hide (fun W hW => by
      have := may16_any x _ W (HO9.out.below hW) Hf.out hW.size
      rwa [show decide x.t.May = true from decide_eq_true (by rw [Hxt.out]; exact Hm.out)] at this)
    have FP : Hid (∀ W, Below w9.heap.size w9 W → Calls Tryz.prog 12 #[.agg #[.int .u64 (x.t.seq : Int), .slice x.A1 x.t.bad.length x.c1, .slice x.A2 x.t.wear.length x.c2, .slice x.A3 x.t.void.length x.c3]] W fun e w' => e = .returned (.string PS) ∧ Below W.heap.size W w') := hide (fun W hW => by
      have := put16_any x _ W (HO9.out.below hW) (by rw [Hxt.out]; exact Hm.out) hW.size
      rwa [show x.t.page = b by rw [Hxt.out]; exact Hpg.out, ← hPS.out] at this)
    have Hb1 := HB9
    clear hb HB7 HX7 HO7 FK7 hcv7 HCV0 HO9
    go_upto_region 11 with fail
    refine wp_region_flow (by kernel_rfl) (fun d => if d = 2 then is (.bool true) else List.getD [is (.bool true), is (.bool true), is (.agg #[.int .u64 (x.t.seq : Int), .slice x.A1 x.t.bad.length x.c1, .slice x.A2 x.t.wear.length x.c2, .slice x.A3 x.t.void.length x.c3]), is (.bool true), is (.bool true), is (.bool true), is (.agg #[.int .u64 (x.t.seq : Int), .slice x.A1 x.t.bad.length x.c1, .slice x.A2 x.t.wear.length x.c2, .slice x.A3 x.t.void.length x.c3]), is (.string PS), is (.slice A n c), is (.string PS), is (.bool true), is (.bool true)] (d - 53) (fun _ _ => True)) 2 (by kernel_rfl) (by kernel_rfl) ?_ ?_
    · refine And.intro ?_ (And.intro ?_ (And.intro ?_ (And.intro ?_ (And.intro ?_ (And.intro ?_ (And.intro ?_ (And.intro ?_ (And.intro ?_ (And.intro ?_ (And.intro ?_ (And.intro ?_ (And.intro ?_ trivial))))))))))))
      · intro a w hb h
        exact .called (want0 rfl) rfl (by simp [go_sem]) (belowF (awake16_any w))
      · intro a w hb h
        have e53 := (sw h 53 (by kernel_rfl) (by kernel_rfl)).eq
        exact .val (want0 rfl) rfl (by simp [Act.eval, e53, go_sem]) (Keeps.is rfl)
      · intro a w hb h
        have eg := (sw h 54 (by kernel_rfl) (by kernel_rfl)).eq
        have e3 : a.tmps.getD 3 undef = .pointer (some ⟨ku, 0, none⟩) := sb h 3 (by kernel_rfl) (by kernel_rfl) rfl
        exact .val (wantg rfl (by kernel_rfl) eg) rfl (exec_load_table rfl e3 (HX9.out.below hb HX9.out.lt)) (Keeps.is rfl)
      · intro a w hb h
        have eg := (sw h 54 (by kernel_rfl) (by kernel_rfl)).eq
        have e55 := (sw h 55 (by kernel_rfl) (by kernel_rfl)).eq
        exact .called (wantg rfl (by kernel_rfl) eg) rfl (by simp [Act.eval, e55, go_sem]) (belowF (FM.out w hb))
      · intro a w hb h
        have e54 := (sw h 54 (by kernel_rfl) (by kernel_rfl)).eq
        have e56 := (sw h 56 (by kernel_rfl) (by kernel_rfl)).eq
        exact .val (want0 rfl) rfl (by simp [Act.eval, e54, e56, go_sem]) (Keeps.is rfl)
      · intro a w hb h
        have e57 := (sw h 57 (by kernel_rfl) (by kernel_rfl)).eq
        exact .val (want0 rfl) rfl (by simp [Act.eval, e57, go_sem]) (Keeps.is rfl)
      · intro a w hb h
        have eg := (sw h 58 (by kernel_rfl) (by kernel_rfl)).eq
        have e3 : a.tmps.getD 3 undef = .pointer (some ⟨ku, 0, none⟩) := sb h 3 (by kernel_rfl) (by kernel_rfl) rfl
        exact .val (wantg rfl (by kernel_rfl) eg) rfl (exec_load_table rfl e3 (HX9.out.below hb HX9.out.lt)) (Keeps.is rfl)
      · intro a w hb h
        have eg := (sw h 58 (by kernel_rfl) (by kernel_rfl)).eq
        have e59 := (sw h 59 (by kernel_rfl) (by kernel_rfl)).eq
        exact .called (wantg rfl (by kernel_rfl) eg) rfl (by simp [Act.eval, e59, go_sem]) (belowF (FP.out w hb))
      · intro a w hb h
        have eg := (sw h 58 (by kernel_rfl) (by kernel_rfl)).eq
        have e0 : a.tmps.getD 0 undef = .slice A n c := sb h 0 (by kernel_rfl) (by kernel_rfl) rfl
        exact .val (wantg rfl (by kernel_rfl) eg) rfl (by simp [Act.eval, e0, go_sem]) (Keeps.is rfl)
      · intro a w hb h
        have eg := (sw h 58 (by kernel_rfl) (by kernel_rfl)).eq
        have e61 := (sw h 61 (by kernel_rfl) (by kernel_rfl)).eq
        exact .val (wantg rfl (by kernel_rfl) eg) rfl (by simp [Act.eval, e61, HCV.out w hb, go_sem]) (Keeps.is rfl)
      · intro a w hb h
        have eg := (sw h 58 (by kernel_rfl) (by kernel_rfl)).eq
        have e60 := (sw h 60 (by kernel_rfl) (by kernel_rfl)).eq
        have e62 := (sw h 62 (by kernel_rfl) (by kernel_rfl)).eq
        exact .val (wantg rfl (by kernel_rfl) eg) rfl (by simp [Act.eval, e60, e62, go_sem]) (Keeps.is rfl)
      · intro a w hb h
        have e58 := (sw h 58 (by kernel_rfl) (by kernel_rfl)).eq
        have e63 := (sw h 63 (by kernel_rfl) (by kernel_rfl)).eq
        exact .val (want0 rfl) rfl (by simp [Act.eval, e58, e63, go_sem]) (Keeps.is rfl)
      · intro a w hb h
        have e64 := (sw h 64 (by kernel_rfl) (by kernel_rfl)).eq
        exact .val (want0 rfl) rfl (by simp [Act.eval, e64, go_sem]) (Keeps.is rfl)
    · intro a w2 hd hb hv
      have er := hv.eq
      clear hv
      simp only [Exit.then]
      go_wp2
      exact ⟨hd, _, results_tmp rfl _ _ _, by rw [er], Hb1.out.trans (hb.mono Hb1.out.size)⟩
  · obtain ⟨hz, he⟩ := getT_zero h0
    obtain ⟨E, hE⟩ : ∃ E, E = (getT b).2 := ⟨_, rfl⟩
    have hk : (classN b = 0 ∧ E = 8) ∨ (classN b = 2 ∧ E = 6) ∨ (classN b = 1 ∧ E = 6) := by
      rcases (show classN b = 0 ∨ classN b = 1 ∨ classN b = 2 by omega) with h | h | h
      · exact .inl ⟨h, by rw [hE, g0 h]⟩
      · rcases g1 h with h2 | h2
        · exact absurd h2 h0
        · exact .inr (.inr ⟨h, by rw [hE, h2]⟩)
      · exact .inr (.inl ⟨h, by rw [hE, g2 h]⟩)
    rw [← hE, hz] at FG
    clear g0 g2 gk g1 h0 hz he hE hcls hl hn hc h4
    rcases hk with ⟨h, rfl⟩ | ⟨h, rfl⟩ | ⟨h, rfl⟩
    all_goals
      rw [h] at FK
      clear h
      go_enter Tryz.func4, Tryz.ntmps4
      go_wp2_with fail
      (with_reducible refine FG.out.mono ?_)
      rintro e w6 ⟨x, q, rfl, hxt, hq, hok, hfew, hb⟩
      subst hq
      have e0 : x.val = .agg #[.int .u64 (x.t.seq : Int), .slice x.A1 x.t.bad.length x.c1, .slice x.A2 x.t.wear.length x.c2, .slice x.A3 x.t.void.length x.c3] := rfl
      have e1 : x.cells.toArray = #[.int .u64 (x.t.seq : Int), .slice x.A1 x.t.bad.length x.c1, .slice x.A2 x.t.wear.length x.c2, .slice x.A3 x.t.void.length x.c3] := rfl
      have bl7 := (Below.refl w6.heap.size w6).alloc (Nat.le_refl _) (.cells x.cells.toArray 26)
      have HB7 := hide (hb.alloc hb.size (.cells x.cells.toArray 26))
      have HX7 := hide (BoxT.new x w6)
      have HO7 := hide ((hok.below bl7).up bl7.size)
      have Hxt := hide hxt
      have Hf := hide hfew
      rw [e0]
      rw [e1] at HB7 HX7 HO7
      clear hxt hok hfew hb bl7 FG e1
      go_upto_region 4 with fail
      generalize w6.alloc (.cells #[.int .u64 (x.t.seq : Int), .slice x.A1 x.t.bad.length x.c1, .slice x.A2 x.t.wear.length x.c2, .slice x.A3 x.t.void.length x.c3] 26) = w7 at *
      generalize w6.heap.size = ku at *
      have hcv7 := HCV0.out w7 HB7.out
      have FK7 := hide (FK.out w7)
      clear FK
      go_wp2_with fail
      (with_reducible refine FK7.out.mono ?_)
      rintro e w9 ⟨rfl, hb⟩
      have HB9 := hide (HB7.out.trans (hb.mono HB7.out.size))
      have HX9 := hide (HX7.out.below hb HX7.out.lt)
      have HO9 := hide ((HO7.out.below hb).up hb.size)
      clear hb HB7 HX7 HO7 FK7 hcv7
      go_wp2_with fail
      (with_reducible refine (awake16_any _).mono ?_)
      rintro e w10 ⟨rfl, hb⟩
      have HB10 := hide (HB9.out.trans (hb.mono HB9.out.size))
      have HX10 := hide (HX9.out.below hb HX9.out.lt)
      have FS := hide (same16_any x zeroTl w10.heap.size w10 ((HO9.out.below hb).up hb.size) (zeroTl_ok _ _) Hf.out zeroTl_few (Nat.le_refl _))
      rw [show decide (x.t = zeroTl.t) = true from decide_eq_true Hxt.out, e0, show zeroTl.val = .agg #[.int .u64 0, .slice none 0 0, .slice none 0 0, .slice none 0 0] from rfl] at FS
      have c0 := HX10.out.c 0 _ rfl
      have c1 := HX10.out.c 1 _ rfl
      have c2 := HX10.out.c 2 _ rfl
      have c3 := HX10.out.c 3 _ rfl
      clear hb HB9 HX9 HO9 e0
      go_wp2_with fail
      (with_reducible refine FS.out.mono ?_)
      rintro e w11 ⟨rfl, hb⟩
      have HB11 := hide (HB10.out.trans (hb.mono HB10.out.size))
      clear hb FS c0 c1 c2 c3
      go_wp2
      go_ret
      exact ⟨rfl, HB11.out⟩
theorem tableGets_any (A : Option Addr) (n c : Nat) (b : List UInt8) (w : World) (hl : Lies w w.heap.size A (bys b)) (hn : n = b.length) (hc : n ≤ c) : Calls Tryz.prog 4 #[.slice A n c] w fun e w' => e = .returned (.bool true) ∧ Below w.heap.size w w' := by
  by_cases h4 : n ≤ 400
  · exact tgets_on A n c b w hl hn hc h4
  · exact tgets_off A n c w (by omega)
end Go.Proofs.YtfpooljpbncogaaGreat
