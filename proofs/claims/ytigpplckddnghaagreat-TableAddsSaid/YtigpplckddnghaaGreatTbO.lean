/-
  CONTRACTS: slices.Clone at both kinds, table.own, among, With, Voided; what is asked of slices.Sort. (By gen/TbO.gen.py.)
-/
import Derived.Test.YtigpplckddnghaaGreatTbU
import Derived.Test.YtigpplckddnghaaGreatTbF
namespace Go.Proofs.YtigpplckddnghaaGreat
open Go.RowKit
set_option maxRecDepth 8000

theorem clone_int (A : Option Addr) (n c B : Nat) (l : List Int) (w : World) (h : Lies w B A (nums .i64 l)) (hn : n = l.length) (hbig : n ≤ 1000000) :
    Calls Tryz.prog 64 #[.slice A n c] w fun e w' => ∃ A' c', e = .returned (.slice A' n c') ∧ w'.ownsRow w.heap.size 3 1 (.slice A' n c') n (nums .i64 l) ∧ Below w.heap.size w w' := by
  obtain ⟨i0, hi, hz0, hz1, hz2⟩ := info_parts i64info
  rcases A with _ | a
  · have hx : l = [] := by
      rcases h with h | ⟨a, hA, _⟩
      · simpa [nums] using h
      · cases hA
    subst hx
    have hn0 : n = 0 := by simpa using hn
    subst hn0
    clear hn
    have q := fun w n c n' c' => Lib.run_eql_slice_nil (P := Tryz.prog) w 23 _ none n c n' c' Tryz.underlying23
    go_enter Tryz.func64, Tryz.ntmps64
    go_wp2
    go_ret
    exact ⟨_, _, rfl, World.ownsRow_nil _ _ _ _, Below.refl _ _⟩
  · have q := fun w n c n' c' => Lib.run_eql_slice_nil (P := Tryz.prog) w 23 _ (some a) n c n' c' Tryz.underlying23
    have hc : Hid (∀ j u, (nums .i64 l)[j]? = some u → w.cell? (a.add j) = some u) := by
      rcases h with h | ⟨a', hA, _, hc⟩
      · intro j u hu; rw [h] at hu; simp at hu
      · cases hA; exact hc
    have Hn := hide hn
    have Hnl := hide (nums_len .i64 l)
    have H1 := hide (nums_one .i64 l)
    generalize nums .i64 l = xs at *
    clear h hn
    go_enter Tryz.func64, Tryz.ntmps64
    go_wp2_with (at_builtin; (refine wpList_append_own _ rfl _ _ 23 rfl w.heap.size 3 i0 (.int .i64 0) 1 8 Tryz.underlying23 hi hz0 hz1 hz2 rfl (by decide) _ _ _ rfl (World.ownsRow_made w #[] 0 (Nat.le_refl _) (Nat.zero_le _) rfl) a n c xs rfl (by have := Hn.out; have := Hnl.out; omega) ?qc2 H1.out ?qc4 ?qc5 ?qc6 ?_))
    case qc2 => intro j u hj; exact Lib.cell?_alloc_some _ (hc.out j u hj)
    case qc4 => unfold maxLen; omega
    case qc5 => omega
    case qc6 => simp
    intro v' w1 hown hgrow hnil
    have hown' : w1.ownsRow w.heap.size 3 1 v' n xs := by simpa using hown
    obtain ⟨A', c', rfl, _⟩ := own_form hown'
    have HO := hide hown'
    have HG := hide (((Below.refl _ w).alloc (Nat.le_refl _) (.cells #[] 3)).grown hgrow (by simp) (by intro k hk; simp [Value.ownBlock] at hk; omega))
    clear hown hown' hgrow hnil
    go_wp2
    go_ret
    exact ⟨A', c', rfl, HO.out, HG.out⟩

theorem clone_u64 (A : Option Addr) (n c B : Nat) (l : List Int) (w : World) (h : Lies w B A (nums .u64 l)) (hn : n = l.length) (hbig : n ≤ 1000000) :
    Calls Tryz.prog 65 #[.slice A n c] w fun e w' => ∃ A' c', e = .returned (.slice A' n c') ∧ w'.ownsRow w.heap.size 22 1 (.slice A' n c') n (nums .u64 l) ∧ Below w.heap.size w w' := by
  obtain ⟨i0, hi, hz0, hz1, hz2⟩ := info_parts u64info
  rcases A with _ | a
  · have hx : l = [] := by
      rcases h with h | ⟨a, hA, _⟩
      · simpa [nums] using h
      · cases hA
    subst hx
    have hn0 : n = 0 := by simpa using hn
    subst hn0
    clear hn
    have q := fun w n c n' c' => Lib.run_eql_slice_nil (P := Tryz.prog) w 24 _ none n c n' c' Tryz.underlying24
    go_enter Tryz.func65, Tryz.ntmps65
    go_wp2
    go_ret
    exact ⟨_, _, rfl, World.ownsRow_nil _ _ _ _, Below.refl _ _⟩
  · have q := fun w n c n' c' => Lib.run_eql_slice_nil (P := Tryz.prog) w 24 _ (some a) n c n' c' Tryz.underlying24
    have hc : Hid (∀ j u, (nums .u64 l)[j]? = some u → w.cell? (a.add j) = some u) := by
      rcases h with h | ⟨a', hA, _, hc⟩
      · intro j u hu; rw [h] at hu; simp at hu
      · cases hA; exact hc
    have Hn := hide hn
    have Hnl := hide (nums_len .u64 l)
    have H1 := hide (nums_one .u64 l)
    generalize nums .u64 l = xs at *
    clear h hn
    go_enter Tryz.func65, Tryz.ntmps65
    go_wp2_with (at_builtin; (refine wpList_append_own _ rfl _ _ 24 rfl w.heap.size 22 i0 (.int .u64 0) 1 8 Tryz.underlying24 hi hz0 hz1 hz2 rfl (by decide) _ _ _ rfl (World.ownsRow_made w #[] 0 (Nat.le_refl _) (Nat.zero_le _) rfl) a n c xs rfl (by have := Hn.out; have := Hnl.out; omega) ?qc2 H1.out ?qc4 ?qc5 ?qc6 ?_))
    case qc2 => intro j u hj; exact Lib.cell?_alloc_some _ (hc.out j u hj)
    case qc4 => unfold maxLen; omega
    case qc5 => omega
    case qc6 => simp
    intro v' w1 hown hgrow hnil
    have hown' : w1.ownsRow w.heap.size 22 1 v' n xs := by simpa using hown
    obtain ⟨A', c', rfl, _⟩ := own_form hown'
    have HO := hide hown'
    have HG := hide (((Below.refl _ w).alloc (Nat.le_refl _) (.cells #[] 22)).grown hgrow (by simp) (by intro k hk; simp [Value.ownBlock] at hk; omega))
    clear hown hown' hgrow hnil
    go_wp2
    go_ret
    exact ⟨A', c', rfl, HO.out, HG.out⟩

/-- Three rows of one's own, apart. -/
structure OwnT (y : Tl) (B : Nat) (W : World) : Prop where
  o1 : W.ownsRow B 3 1 (.slice y.A1 y.t.bad.length y.c1) y.t.bad.length (nums .i64 y.t.bad)
  o2 : W.ownsRow B 3 1 (.slice y.A2 y.t.wear.length y.c2) y.t.wear.length (nums .i64 y.t.wear)
  o3 : W.ownsRow B 22 1 (.slice y.A3 y.t.void.length y.c3) y.t.void.length (nums .u64 y.t.void)
  apart : (Value.slice y.A1 y.t.bad.length y.c1).ownBlock = none ∨ (Value.slice y.A2 y.t.wear.length y.c2).ownBlock ≠ (Value.slice y.A1 y.t.bad.length y.c1).ownBlock
theorem OwnT.set {y : Tl} {B k j : Nat} {W : World} {u : Value} (h : OwnT y B W) (hk : k < B) : OwnT y B (W.setCell ⟨k, j, none⟩ u) :=
  ⟨own_set h.o1 hk, own_set h.o2 hk, own_set h.o3 hk, h.apart⟩
theorem own_apart {W W' : World} {B n m : Nat} {e e' : TypeId} {v u : Value} {xs ys : List Value} (h1 : W.ownsRow B e 1 v n xs) (h2 : W'.ownsRow W.heap.size e' 1 u m ys) : v.ownBlock = none ∨ u.ownBlock ≠ v.ownBlock := by
  rcases own_none_or h1 with h | ⟨g, h, _, hg⟩
  · exact .inl h
  · right
    rw [h]
    rcases own_none_or h2 with h3 | ⟨g', h3, hg', _⟩
    · rw [h3]; simp
    · rw [h3]; intro he; injection he; omega
theorem OwnT.ok {y : Tl} {B : Nat} {W : World} (h : OwnT y B W) (hp : ∀ z ∈ y.t.void, 0 ≤ z) (hs : y.t.seq < 18446744073709551616) (ht : ∀ z ∈ y.t.void, z < 18446744073709551616) : y.Ok W W.heap.size := by
  obtain ⟨A1, k1, e1, h1, _⟩ := own_form h.o1
  obtain ⟨A2, k2, e2, h2, _⟩ := own_form h.o2
  obtain ⟨A3, k3, e3, h3, _⟩ := own_form h.o3
  injection e1 with _ _ f1
  injection e2 with _ _ f2
  injection e3 with _ _ f3
  exact ⟨Lies.of_own h.o1, Lies.of_own h.o2, Lies.of_own h.o3, by omega, by omega, by omega, hp, hs, ht⟩

set_option maxHeartbeats 8000000 in
theorem own_tb (x : Tl) (B : Nat) (w : World) (hx : x.Ok w B) (hf : x.Few) (hB : B ≤ w.heap.size) :
    Calls Tryz.prog 33 #[x.val] w fun e w' => ∃ y : Tl, e = .returned y.val ∧ y.t = x.t ∧ OwnT y (w.heap.size + 2) w' ∧ Below w.heap.size w w' := by
  have hb1 := (Below.refl w.heap.size w).alloc (Nat.le_refl _) (.cells x.cells.toArray 26)
  have hb2 := hb1.alloc hb1.size (.cells #[.int .u64 0, .slice none 0 0, .slice none 0 0, .slice none 0 0] 26)
  have hx2 : BoxT x w.heap.size ((w.alloc (.cells x.cells.toArray 26)).alloc (.cells #[.int .u64 0, .slice none 0 0, .slice none 0 0, .slice none 0 0] 26)) := (BoxT.new x w).below ((Below.refl _ _).alloc (Nat.le_refl _) _) (BoxT.new x w).lt
  have hz2 : BoxT zeroTl (w.heap.size + 1) ((w.alloc (.cells x.cells.toArray 26)).alloc (.cells #[.int .u64 0, .slice none 0 0, .slice none 0 0, .slice none 0 0] 26)) := by
    have := BoxT.new zeroTl (w.alloc (.cells x.cells.toArray 26))
    rwa [show (w.alloc (.cells x.cells.toArray 26)).heap.size = w.heap.size + 1 by simp] at this
  have hs2 : ((w.alloc (.cells x.cells.toArray 26)).alloc (.cells #[.int .u64 0, .slice none 0 0, .slice none 0 0, .slice none 0 0] 26)).heap.size = w.heap.size + 2 := by simp
  have F1 := hide (fun W (hW : Below w.heap.size w W) => clone_int x.A1 x.t.bad.length x.c1 B x.t.bad W (hx.l1.below (hW.mono hB)) rfl (by have := hf.f1; omega))
  have F2 := hide (fun W (hW : Below w.heap.size w W) => clone_int x.A2 x.t.wear.length x.c2 B x.t.wear W (hx.l2.below (hW.mono hB)) rfl (by have := hf.f2; omega))
  have F3 := hide (fun W (hW : Below w.heap.size w W) => clone_u64 x.A3 x.t.void.length x.c3 B x.t.void W (hx.l3.below (hW.mono hB)) rfl (by have := hf.f3; omega))
  have e0 : x.val = .agg #[.int .u64 (x.t.seq : Int), .slice x.A1 x.t.bad.length x.c1, .slice x.A2 x.t.wear.length x.c2, .slice x.A3 x.t.void.length x.c3] := rfl
  have e1 : x.cells.toArray = #[.int .u64 (x.t.seq : Int), .slice x.A1 x.t.bad.length x.c1, .slice x.A2 x.t.wear.length x.c2, .slice x.A3 x.t.void.length x.c3] := rfl
  rw [e0]
  rw [e1] at hb2 hx2 hz2 hs2
  have HB2 := hide hb2
  have HX2 := hide hx2
  have HZ2 := hide hz2
  have HS2 := hide hs2
  clear hb1 hb2 hx2 hz2 hs2 e0 e1 hx hf hB
  go_enter Tryz.func33, Tryz.ntmps33
  go_upto_region 1 with fail
  generalize (w.alloc (.cells #[.int .u64 (x.t.seq : Int), .slice x.A1 x.t.bad.length x.c1, .slice x.A2 x.t.wear.length x.c2, .slice x.A3 x.t.void.length x.c3] 26)).alloc (.cells #[.int .u64 0, .slice none 0 0, .slice none 0 0, .slice none 0 0] 26) = w2 at *
  have g1 : w2.drew.cell? ⟨w.heap.size, 1, none⟩ = some (.slice x.A1 x.t.bad.length x.c1) := HX2.out.c 1 _ rfl
  have g2 : w2.drew.cell? ⟨w.heap.size, 2, none⟩ = some (.slice x.A2 x.t.wear.length x.c2) := HX2.out.c 2 _ rfl
  have g3 : w2.drew.cell? ⟨w.heap.size, 3, none⟩ = some (.slice x.A3 x.t.void.length x.c3) := HX2.out.c 3 _ rfl
  go_cut [] (fun wx => ∃ B1 B2 B3 : Option Addr, ∃ k1 k2 k3 : Nat, Hid (BoxT ⟨x.t, B1, B2, B3, k1, k2, k3⟩ w.heap.size wx) ∧ Hid (BoxT zeroTl (w.heap.size + 1) wx) ∧ Hid (OwnT ⟨x.t, B1, B2, B3, k1, k2, k3⟩ (w.heap.size + 2) wx) ∧ Hid (Below w.heap.size w wx))
  case first =>
    go_region_law (first
      | (refine step_callP (f := 64) (args := #[.slice x.A1 x.t.bad.length x.c1]) rfl (by simp [Act.eval, go_sem]) ((F1.out _ HB2.out.drew).mono ?_); rintro e w4 ⟨B1, k1, rfl, ho, hb⟩; refine ⟨_, rfl, ?_⟩; have O1 := hide ho; have hb4 : Below w2.heap.size w2 w4 := (Below.refl _ _).drew.trans hb; have B4 := hide hb4; have HB4 := hide (HB2.out.trans (hb4.mono HB2.out.size)); have HX4 := hide (HX2.out.below hb4 HX2.out.lt); have HZ4 := hide (HZ2.out.below hb4 HZ2.out.lt); have i1 := HX4.out.c 1 _ rfl; have i2 := HX4.out.c 2 _ rfl; have i3 := HX4.out.c 3 _ rfl; clear ho hb hb4)
      | (refine step_callP (f := 64) (args := #[.slice x.A2 x.t.wear.length x.c2]) rfl (by simp [Act.eval, go_sem]) ((F2.out _ HB4.out).mono ?_); rintro e w5 ⟨B2, k2, rfl, ho, hb⟩; refine ⟨_, rfl, ?_⟩; have O2 := hide ho; have B5 := hide hb; have HB5 := hide (HB4.out.trans (hb.mono HB4.out.size)); have HX5 := hide (HX4.out.below hb HX4.out.lt); have HZ5 := hide (HZ4.out.below hb HZ4.out.lt); have j1 := HX5.out.c 1 _ rfl; have j2 := HX5.out.c 2 _ rfl; have j3 := HX5.out.c 3 _ rfl; clear ho hb)
      | (refine step_callP (f := 65) (args := #[.slice x.A3 x.t.void.length x.c3]) rfl (by simp [Act.eval, go_sem]) ((F3.out _ HB5.out).mono ?_); rintro e w6 ⟨B3, k3, rfl, ho, hb⟩; refine ⟨_, rfl, ?_⟩; have O3 := hide ho; have B6 := hide hb; have HB6 := hide (HB5.out.trans (hb.mono HB5.out.size)); have HX6 := hide (HX5.out.below hb HX5.out.lt); have HZ6 := hide (HZ5.out.below hb HZ5.out.lt); have m1 := HX6.out.c 1 _ rfl; have m2 := HX6.out.c 2 _ rfl; have m3 := HX6.out.c 3 _ rfl; have n1 := HX6.out.free 1; have n2 := HX6.out.free 2; have n3 := HX6.out.free 3; clear ho hb))
    all_goals
      have OT : OwnT ⟨x.t, B1, B2, B3, k1, k2, k3⟩ (w.heap.size + 2) w6 := by
        have p1 := own_keepT (own_keepT O1.out B5.out) B6.out
        have p2 := own_up (own_keepT O2.out B6.out) (show w2.heap.size ≤ w4.heap.size from B4.out.size)
        have p3 := own_up O3.out (Nat.le_trans B4.out.size B5.out.size)
        rw [show w2.drew.heap.size = w.heap.size + 2 from HS2.out] at p1
        rw [HS2.out] at p2 p3
        exact ⟨p1, p2, p3, own_apart O1.out O2.out⟩
      have OT7 := hide (((OT.set (k := w.heap.size) (j := 1) (u := .slice B1 x.t.bad.length k1) (by omega)).set (k := w.heap.size) (j := 2) (u := .slice B2 x.t.wear.length k2) (by omega)).set (k := w.heap.size) (j := 3) (u := .slice B3 x.t.void.length k3) (by omega))
      have BX7 : BoxT ⟨x.t, B1, B2, B3, k1, k2, k3⟩ w.heap.size (((w6.setCell ⟨w.heap.size, 1, none⟩ (.slice B1 x.t.bad.length k1)).setCell ⟨w.heap.size, 2, none⟩ (.slice B2 x.t.wear.length k2)).setCell ⟨w.heap.size, 3, none⟩ (.slice B3 x.t.void.length k3)) := heap_set (heap_set (heap_set HX6.out 1 (.slice B1 x.t.bad.length k1)) 2 (.slice B2 x.t.wear.length k2)) 3 (.slice B3 x.t.void.length k3)
      have BZ7 : BoxT zeroTl (w.heap.size + 1) (((w6.setCell ⟨w.heap.size, 1, none⟩ (.slice B1 x.t.bad.length k1)).setCell ⟨w.heap.size, 2, none⟩ (.slice B2 x.t.wear.length k2)).setCell ⟨w.heap.size, 3, none⟩ (.slice B3 x.t.void.length k3)) := (Below.heap_setCell _ ⟨w.heap.size, 3, none⟩ _ _ (by simp)).trans ((Below.heap_setCell _ ⟨w.heap.size, 2, none⟩ _ _ (by simp)).trans ((Below.heap_setCell _ ⟨w.heap.size, 1, none⟩ _ _ (by simp)).trans HZ6.out))
      have HB7 := hide (((HB6.out.setCell (p := ⟨w.heap.size, 1, none⟩) (Nat.le_refl _) (.slice B1 x.t.bad.length k1)).setCell (p := ⟨w.heap.size, 2, none⟩) (Nat.le_refl _) (.slice B2 x.t.wear.length k2)).setCell (p := ⟨w.heap.size, 3, none⟩) (Nat.le_refl _) (.slice B3 x.t.void.length k3))
      go_wp2_with fail
      go_meet
      exact ⟨B1, B2, B3, k1, k2, k3, hide BX7, hide BZ7, OT7, HB7⟩
  case rest =>
    clear g1 g2 g3 F1 F2 F3 HB2 HX2 HZ2
    obtain ⟨B1, B2, B3, k1, k2, k3, HX7, HZ7, OT7, HB7⟩ := hcut
    have c0 := HX7.out.c 0 _ rfl
    have c1 := HX7.out.c 1 _ rfl
    have c2 := HX7.out.c 2 _ rfl
    have c3 := HX7.out.c 3 _ rfl
    have z0 := HZ7.out.c 0 _ rfl
    have z1 := HZ7.out.c 1 _ rfl
    have z2 := HZ7.out.c 2 _ rfl
    have z3 := HZ7.out.c 3 _ rfl
    have y0 := HZ7.out.free 0
    have y1 := HZ7.out.free 1
    have y2 := HZ7.out.free 2
    have y3 := HZ7.out.free 3
    dsimp only at c0 c1 c2 c3
    go_wp2
    refine bodyPost_ret (v := (Tl.mk x.t B1 B2 B3 k1 k2 k3).val) ?_ rfl ⟨⟨x.t, B1, B2, B3, k1, k2, k3⟩, rfl, rfl, (((OT7.out.set (k := w.heap.size + 1) (by omega)).set (k := w.heap.size + 1) (by omega)).set (k := w.heap.size + 1) (by omega)).set (k := w.heap.size + 1) (by omega), below4 HB7.out (Nat.le_succ _) _ _ _ _⟩
    rw [results_cell1P rfl]
    simp only [asAddr, Array.getD]
    exact load_table (boxT4 (x := ⟨x.t, B1, B2, B3, k1, k2, k3⟩) HZ7.out)
end Go.Proofs.YtigpplckddnghaaGreat
