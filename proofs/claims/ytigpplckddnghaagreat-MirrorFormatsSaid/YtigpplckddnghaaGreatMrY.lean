/-
  CONTRACTS of package mirror: Format.
-/
import Derived.Test.YtigpplckddnghaaGreatMrX
import Derived.Test.YtigpplckddnghaaGreatDev10
namespace Go.Proofs.YtigpplckddnghaaGreat
open Go.RowKit
set_option maxRecDepth 8000

/-- The first table of n blocks. -/
def firstT (n : Nat) : Tb := ⟨0, [], List.replicate n 0, []⟩
theorem rep0_getD (n i : Nat) : (List.replicate n (0 : Int)).getD i 0 = 0 := by
  rw [List.getD_eq_getElem?_getD, List.getElem?_replicate]
  split <;> rfl
theorem firstT_may {n : Nat} (h : n ≤ 34) : (firstT n).May := by
  refine ⟨by show (0 : Nat) < 2147483648; decide, fun i hi => absurd hi (by simp [firstT]), ⟨fun i _ => ?_, by simpa [firstT] using h⟩, by simp [firstT], fun i hi => absurd hi (by simp [firstT])⟩
  show 0 ≤ (List.replicate n (0 : Int)).getD i 0 ∧ (List.replicate n (0 : Int)).getD i 0 ≤ 65535
  rw [rep0_getD]
  decide
theorem infoIntY : (Tryz.prog.info? 3).map (fun i => (i.zero, i.size, i.bytes)) = some (some (.int .i64 0), 1, 8) := by kernel_rfl
theorem make_ints (w : World) (n : Nat) (hn : n ≤ 34) :
    (Instr.makeSlice 23 (.int .i64 (n : Int)) (.int .i64 (n : Int))).run Tryz.prog w = .ok (.slice (some ⟨w.heap.size, 0, none⟩) n n) (w.alloc (.cells (madeCells #[.int .i64 0] n) 3)) ∧
      RowF (w.alloc (.cells (madeCells #[.int .i64 0] n) 3)) w.heap.size 3 n (fun _ => .int .i64 0) := by
  obtain ⟨i0, hi, hz0, hz1, hz2⟩ := info_parts infoIntY
  constructor
  · have := run_make (P := Tryz.prog) w 23 3 i0 _ Tryz.underlying23 hi hz0 .i64 .i64 (n : Int) (n : Int) (by omega) (Int.le_refl _) (by rw [hz2]; omega) (by omega)
    rw [hz1, Int.toNat_natCast, Nat.mul_one] at this
    exact this
  · refine RowF.new w _ _ _ _ (by rw [size_madeCells]) (fun j hj => ?_)
    rw [made_at _ _ _ hj]
    have h3 : (#[Value.int .i64 0] : Array Value).size = 1 := rfl
    rw [h3, Nat.mod_one]
    rfl
/-- The first table, its counts in block g. -/
def firstTl (n g : Nat) : Tl := ⟨firstT n, none, some ⟨g, 0, none⟩, none, 0, n, 0⟩
theorem firstTl_ok {n g : Nat} {W : World} (hn : n ≤ 34) (h : RowF W g 3 n (fun _ => .int .i64 0)) : (firstTl n g).Ok W W.heap.size := by
  refine ⟨.inl rfl, .inr ⟨_, rfl, h.lt, fun j u hj => ?_⟩, .inl rfl, Nat.le_refl _, by simp [firstTl, firstT], Nat.le_refl _, fun y hy => absurd hy (by simp [firstTl, firstT]), by show (0 : Nat) < 18446744073709551616; omega, fun y hy => absurd hy (by simp [firstTl, firstT])⟩
  have hj2 : j < n := by
    have := (List.getElem?_eq_some_iff.1 hj).1
    simpa [firstTl, firstT, nums_len] using this
  have hu : u = .int .i64 0 := by
    have := nums_at .i64 (firstT n).wear j (by simpa [firstT] using hj2)
    rw [show (firstT n).wear.getD j 0 = 0 from rep0_getD n j] at this
    have hj' : (nums .i64 (firstT n).wear)[j]? = some u := hj
    rw [this] at hj'
    exact (Option.some.inj hj').symm
  have e : (⟨g, 0, none⟩ : Addr).add j = ⟨g, j, none⟩ := by unfold Addr.add; split <;> simp_all
  rw [e, hu]
  exact h.cell hj2
theorem firstTl_few {n g : Nat} (hn : n ≤ 34) : (firstTl n g).Few := ⟨Nat.zero_le _, by simp [firstTl, firstT]; omega, Nat.zero_le _⟩
/-- What Format answers and leaves. -/
def Dv.formatR (D : Dv) : Tb × Int × Dv :=
  match D.newest with
  | some (u, _) => (u, 0, D)
  | none => if D.bad 0 = true ∨ D.bad 1 = true then (zeroT, 12, D) else if (D.writeR (firstT D.nb).page).1 = 0 then (firstT D.nb, 0, (D.writeR (firstT D.nb).page).2) else (zeroT, (D.writeR (firstT D.nb).page).1, (D.writeR (firstT D.nb).page).2)
def FormatEnd (w : World) (D : Dv) (B0 B k kb kp km : Nat) (e : Ending) (w' : World) : Prop := ∃ x : Tl, e = .returned (.tuple #[x.val, .int .i64 D.formatR.2.1]) ∧ x.t = D.formatR.1 ∧ x.Ok w' w'.heap.size ∧ x.Few ∧ DevAt w' B0 B D.formatR.2.2 k kb kp km ∧ Tch [k, kb, kp] w w'
section
variable {w : World} {B0 B : Nat} {D : Dv} {k kb kp km : Nat}
theorem Tch.putT {S : List Nat} {w W : World} {g : Nat} (h : Tch S w W) (hg : w.heap.size ≤ g) (x : Tl) : Tch S w (putT W g x) := by
  refine ⟨h.os, h.tape, h.output, by rw [putT_size]; exact h.size, fun b hb hs => ?_⟩
  rw [putT_block x (by omega)]
  exact h.block b hb hs
set_option maxHeartbeats 8000000 in
theorem mformat_some (h : DevAt w B0 B D k kb kp km) (hB : B ≤ w.heap.size) (hd : D.dn = false) (u : Tb) (r : Nat) (hn : D.newest = some (u, r)) :
    Calls Tryz.prog 29 #[.pointer (some ⟨k, 0, none⟩)] w (FormatEnd w D B0 B k kb kp km) := by
  have hb1 := (Below.refl w.heap.size w).alloc (Nat.le_refl _) (.cells zeroTl.cells.toArray 26)
  have hz1 := BoxT.new zeroTl w
  have H1 := hide (h.below (hb1.mono hB))
  have F := hide (mnew_any H1.out (Nat.le_trans hB hb1.size) hd)
  have HR := hide (show D.formatR = (u, 0, D) by unfold Dv.formatR; simp only [hn])
  rw [hn, show newV (some (u, r)) = (u, (r : Int), 0) from rfl] at F
  have HB1 := hide hb1
  have HZ1 := hide hz1
  have HBB := hide hB
  rw [show zeroTl.cells.toArray = #[.int .u64 0, .slice none 0 0, .slice none 0 0, .slice none 0 0] from rfl] at HB1 HZ1 F H1
  clear h hB hd hn hb1 hz1
  unfold FormatEnd
  go_enter Tryz.func29, Tryz.ntmps29
  go_wp2_with fail
  (with_reducible refine F.out.mono ?_)
  rintro e w2 ⟨x, rfl, hxt, hok, hfew, hhi, hb⟩
  have Hxt := hide hxt
  have Hfew := hide hfew
  have e0 : x.val = .agg #[.int .u64 (x.t.seq : Int), .slice x.A1 x.t.bad.length x.c1, .slice x.A2 x.t.wear.length x.c2, .slice x.A3 x.t.void.length x.c3] := rfl
  have e1 : x.cells.toArray = #[.int .u64 (x.t.seq : Int), .slice x.A1 x.t.bad.length x.c1, .slice x.A2 x.t.wear.length x.c2, .slice x.A3 x.t.void.length x.c3] := rfl
  rw [e0]
  have hb3 := (Below.refl w2.heap.size w2).alloc (Nat.le_refl _) (.cells x.cells.toArray 26)
  have HB3 := hide ((HB1.out.trans (hb.mono HB1.out.size)).trans (hb3.mono (Nat.le_trans HB1.out.size hb.size)))
  have HX3 := hide (BoxT.new x w2)
  have HO3 := hide ((hok.below hb3).up hb3.size)
  have HF3 := hide (hhi.off HZ1.out.lt)
  have HZ3 := hide ((HZ1.out.below hb HZ1.out.lt).below hb3 (Nat.lt_of_lt_of_le HZ1.out.lt hb.size))
  have H3 := hide ((H1.out.below (hb.mono (Nat.le_trans HBB.out HB1.out.size))).below (hb3.mono (Nat.le_trans (Nat.le_trans HBB.out HB1.out.size) hb.size)))
  have Hhi : Hid (B ≤ w.heap.size) := HBB
  rw [e1] at HB3 HX3 HO3 HZ3 H3
  clear hxt hok hfew hhi hb hb3 F H1 HB1 HZ1 e1
  go_upto_region 2 with fail
  generalize w2.alloc (.cells #[.int .u64 (x.t.seq : Int), .slice x.A1 x.t.bad.length x.c1, .slice x.A2 x.t.wear.length x.c2, .slice x.A3 x.t.void.length x.c3] 26) = w3 at *
  generalize w2.heap.size = kx at *
  have c0 := HX3.out.c 0 _ rfl
  have c1 := HX3.out.c 1 _ rfl
  have c2 := HX3.out.c 2 _ rfl
  have c3 := HX3.out.c 3 _ rfl
  have z0 := HZ3.out.c 0 _ rfl
  have z1 := HZ3.out.c 1 _ rfl
  have z2 := HZ3.out.c 2 _ rfl
  have z3 := HZ3.out.c 3 _ rfl
  have y0 := HZ3.out.free 0
  have y1 := HZ3.out.free 1
  have y2 := HZ3.out.free 2
  have y3 := HZ3.out.free 3
  go_wp2
  rw [HR.out]
  exact bodyPost_ret (results_tb1 rfl _ _ x w.heap.size rfl (boxT4 HZ3.out)) rfl ⟨x, rfl, Hxt.out, HO3.out.putS (y := x) HF3.out, Hfew.out, H3.out.below (putT_below (Below.refl _ _) HBB.out x), (Tch.of_below HB3.out).putT (Nat.le_refl _) x⟩
set_option maxHeartbeats 8000000 in
theorem mformat_none (h : DevAt w B0 B D k kb kp km) (hB : B ≤ w.heap.size) (hd : D.dn = false) (hops : D.ops < 900000) (hn : D.newest = none) :
    Calls Tryz.prog 29 #[.pointer (some ⟨k, 0, none⟩)] w (FormatEnd w D B0 B k kb kp km) := by
  have hs := h.sides
  have hb1 := (Below.refl w.heap.size w).alloc (Nat.le_refl _) (.cells zeroTl.cells.toArray 26)
  have hz1 := BoxT.new zeroTl w
  have H1 := hide (h.below (hb1.mono hB))
  have F := hide (mnew_any H1.out (Nat.le_trans hB hb1.size) hd)
  have HR := hide (show D.formatR = if D.bad 0 = true ∨ D.bad 1 = true then (zeroT, 12, D) else if (D.writeR (firstT D.nb).page).1 = 0 then (firstT D.nb, 0, (D.writeR (firstT D.nb).page).2) else (zeroT, (D.writeR (firstT D.nb).page).1, (D.writeR (firstT D.nb).page).2) by unfold Dv.formatR; simp only [hn])
  rw [hn, show newV none = (zeroT, 0, 8) from rfl] at F
  have HB1 := hide hb1
  have HZ1 := hide hz1
  have HBB := hide hB
  have Hd := hide hd
  have Hops := hide hops
  have HS := hide hs
  have Hlo := hide h.hi
  have hg : D.g.val = .agg #[.int .i64 (D.nb : Int), .int .i64 D.g.p, .int .i64 D.g.r] := by unfold Gm.val; rw [hs.2.2.2.2.1]
  have Hg := hide hg
  rw [show zeroTl.cells.toArray = #[.int .u64 0, .slice none 0 0, .slice none 0 0, .slice none 0 0] from rfl] at HB1 HZ1 F H1
  clear h hB hd hn hb1 hz1 hops hs hg
  unfold FormatEnd
  go_enter Tryz.func29, Tryz.ntmps29
  go_wp2_with fail
  (with_reducible refine F.out.mono ?_)
  rintro e w2 ⟨x, rfl, hxt, hok, hfew, hhi, hb⟩
  have e0 : x.val = .agg #[.int .u64 (x.t.seq : Int), .slice x.A1 x.t.bad.length x.c1, .slice x.A2 x.t.wear.length x.c2, .slice x.A3 x.t.void.length x.c3] := rfl
  have e1 : x.cells.toArray = #[.int .u64 (x.t.seq : Int), .slice x.A1 x.t.bad.length x.c1, .slice x.A2 x.t.wear.length x.c2, .slice x.A3 x.t.void.length x.c3] := rfl
  rw [e0]
  have hb3 := (Below.refl w2.heap.size w2).alloc (Nat.le_refl _) (.cells x.cells.toArray 26)
  have HB3 := hide ((HB1.out.trans (hb.mono HB1.out.size)).trans (hb3.mono (Nat.le_trans HB1.out.size hb.size)))
  have HX3 := hide (BoxT.new x w2)
  have HZ3 := hide ((HZ1.out.below hb HZ1.out.lt).below hb3 (Nat.lt_of_lt_of_le HZ1.out.lt hb.size))
  have HK := hide (show w.heap.size < w2.heap.size from Nat.lt_of_lt_of_le HZ1.out.lt hb.size)
  have H3 := hide ((H1.out.below (hb.mono (Nat.le_trans HBB.out HB1.out.size))).below (hb3.mono (Nat.le_trans (Nat.le_trans HBB.out HB1.out.size) hb.size)))
  rw [e1] at HB3 HX3 HZ3 H3
  clear hxt hok hfew hhi hb hb3 F H1 HB1 HZ1 e1
  go_upto_region 2 with fail
  generalize w2.alloc (.cells #[.int .u64 (x.t.seq : Int), .slice x.A1 x.t.bad.length x.c1, .slice x.A2 x.t.wear.length x.c2, .slice x.A3 x.t.void.length x.c3] 26) = w3 at *
  generalize w2.heap.size = kx at *
  have Fm := hide (fun i (hi : i < D.nb) => marked_some H3.out i hi)
  have Hnb := hide HS.out.1
  have hret : ∀ q : Int, Hid (BoxT zeroTl w.heap.size (putT w3 w.heap.size zeroTl)) := fun _ => hide (boxT4 HZ3.out)
  go_wp2
  go_loop [7, 19] (fun _ i => ∃ r : Nat, r ≤ 2 ∧ i = .int .i64 (r : Int) ∧ Hid (∀ j, j < r → D.bad j = false)) (fun _ i => 2 - (intOf i).toNat)
  case atStart => exact ⟨0, Nat.zero_le _, rfl, hide (fun j hj => absurd hj (by omega))⟩
  case round =>
    obtain ⟨r, hr, rfl, HF⟩ := hrel
    by_cases hlt : r < 2
    · have hlt' : (r : Int) < 2 := by omega
      have e7 : wrap64 ((r : Int) + 1) = ((r + 1 : Nat) : Int) := by unfold wrap64; omega
      go_wp2_with fail
      (with_reducible refine (Fm.out r (by have := Hnb.out; omega)).mono ?_)
      rintro e w4 ⟨rfl, rfl⟩
      cases hbr : D.bad r with
      | true =>
        have HQ := hide (show D.formatR = (zeroT, 12, D) by rw [HR.out, if_pos (by rcases (by omega : r = 0 ∨ r = 1) with e | e <;> subst e; exact .inl hbr; exact .inr hbr)])
        have z0 := HZ3.out.c 0 _ rfl
        have z1 := HZ3.out.c 1 _ rfl
        have z2 := HZ3.out.c 2 _ rfl
        have z3 := HZ3.out.c 3 _ rfl
        have y0 := HZ3.out.free 0
        have y1 := HZ3.out.free 1
        have y2 := HZ3.out.free 2
        have y3 := HZ3.out.free 3
        go_wp2
        rw [HQ.out]
        exact bodyPost_ret (results_tb1 rfl _ _ zeroTl w.heap.size rfl (boxT4 (x := zeroTl) HZ3.out)) rfl ⟨zeroTl, rfl, rfl, zeroTl_ok _ _, zeroTl_few, H3.out.below (putT_below (Below.refl _ _) HBB.out zeroTl), (Tch.of_below HB3.out).putT (Nat.le_refl _) zeroTl⟩
      | false =>
        go_wp2
        go_round
        case rel => exact ⟨r + 1, hlt, congrArg (Value.int .i64) (by first | exact e7 | rfl | omega), hide (fun j hj => by rcases Nat.lt_or_ge j r with h | h; exact HF.out j h; rw [show j = r by omega]; exact hbr)⟩
        case measure => first | exact measT hlt | exact measT2 e7 hlt
    · obtain rfl : r = 2 := by omega
      have HNB : Hid (¬ (D.bad 0 = true ∨ D.bad 1 = true)) := hide (by rw [HF.out 0 (by omega), HF.out 1 (by omega)]; decide)
      have HW := hide (show D.formatR = if (D.writeR (firstT D.nb).page).1 = 0 then (firstT D.nb, 0, (D.writeR (firstT D.nb).page).2) else (zeroT, (D.writeR (firstT D.nb).page).1, (D.writeR (firstT D.nb).page).2) by rw [HR.out, if_neg HNB.out])
      have Fs := hide (sides_any H3.out)
      rw [Hg.out] at Fs
      have hfd := fun W => field_blocks (D.nb : Int) D.g.p D.g.r W
      have hmk := fun W => (make_ints W D.nb HS.out.2.1).1
      clear HNB HF HR Fm hret
      go_wp2_with fail
      (with_reducible refine Fs.out.mono ?_)
      rintro e w4 ⟨rfl, hb⟩
      have hm := (make_ints w4 D.nb HS.out.2.1).2
      have hb5 := (Below.refl w4.heap.size w4).alloc (Nat.le_refl _) (.cells (madeCells #[.int .i64 0] D.nb) 3)
      have HX5 := hide ((HX3.out.below hb HX3.out.lt).below hb5 (Nat.lt_of_lt_of_le HX3.out.lt hb.size))
      have HZ5 := hide ((HZ3.out.below hb HZ3.out.lt).below hb5 (Nat.lt_of_lt_of_le HZ3.out.lt hb.size))
      have HB5 := hide ((HB3.out.trans (hb.mono HB3.out.size)).trans (hb5.mono (Nat.le_trans HB3.out.size hb.size)))
      have H5 := hide ((H3.out.below (hb.mono (Nat.le_trans HBB.out HB3.out.size))).below (hb5.mono (Nat.le_trans (Nat.le_trans HBB.out HB3.out.size) hb.size)))
      have HT5 := hide (firstTl_ok HS.out.2.1 hm)
      have HM5 := hide hm
      have HGB := hide (Nat.le_trans HB3.out.size hb.size)
      have HG := hide (show kx < w4.heap.size from Nat.lt_of_lt_of_le HX3.out.lt hb.size)
      have j0 := HX5.out.c 0 _ rfl
      have j1 := HX5.out.c 1 _ rfl
      have j2 := HX5.out.c 2 _ rfl
      have j3 := HX5.out.c 3 _ rfl
      have y0 := HX5.out.free 0
      have y1 := HX5.out.free 1
      have y2 := HX5.out.free 2
      have y3 := HX5.out.free 3
      clear hm hb hb5 Fs HX3 HZ3 HB3 H3
      go_upto_region 11 with fail
      generalize w4.alloc (.cells (madeCells #[.int .i64 0] D.nb) 3) = w5 at *
      generalize w4.heap.size = g at *
      rw [show (((w5.setCell ⟨kx, 0, none⟩ (.int .u64 0)).setCell ⟨kx, 1, none⟩ (.slice none 0 0)).setCell ⟨kx, 2, none⟩ (.slice (some ⟨g, 0, none⟩) D.nb D.nb)).setCell ⟨kx, 3, none⟩ (.slice none 0 0) = putT w5 kx (firstTl D.nb g) by simp [putT, firstTl, firstT]]
      have hkx : w.heap.size ≤ kx := Nat.le_of_lt HK.out
      have HX6 : Hid (BoxT (firstTl D.nb g) kx (putT w5 kx (firstTl D.nb g))) := hide (boxT4 HX5.out)
      have HZ6 := hide (HZ5.out.putT (k := kx) (y := firstTl D.nb g) (by have := HK.out; omega))
      have HB6 := hide (putT_below HB5.out hkx (firstTl D.nb g))
      have H6 := hide (H5.out.below (putT_below (Below.refl w.heap.size w5) hkx (firstTl D.nb g) |>.mono HBB.out))
      have HM6 : Hid (RowF (putT w5 kx (firstTl D.nb g)) g 3 D.nb (fun _ => .int .i64 0)) := hide (HM5.out.kept (putT_block _ (by have := HG.out; omega)))
      have HT6 := hide (HT5.out.putS (k := kx) (y := firstTl D.nb g) ⟨.inl rfl, .inr ⟨_, rfl, by show g ≠ kx; have := HG.out; omega⟩, .inl rfl⟩)
      clear HX5 HZ5 HB5 H5 HT5 j0 j1 j2 j3 y0 y1 y2 y3 hkx
      generalize putT w5 kx (firstTl D.nb g) = w6 at *
      have Fw := hide (mwrite_any H6.out (Nat.le_trans HBB.out HB6.out.size) Hd.out Hops.out (firstTl D.nb g) _ HT6.out (firstTl_few HS.out.2.1) (firstT_may HS.out.2.1) (Nat.le_refl _))
      have hv : (firstTl D.nb g).val = .agg #[.int .u64 0, .slice none 0 0, .slice (some ⟨g, 0, none⟩) D.nb D.nb, .slice none 0 0] := by simp [Tl.val, firstTl, firstT]
      rw [hv] at Fw
      have c0 : w6.cell? ⟨kx, 0, none⟩ = some (.int .u64 0) := HX6.out.c 0 _ rfl
      have c1 : w6.cell? ⟨kx, 1, none⟩ = some (.slice none 0 0) := HX6.out.c 1 _ rfl
      have c2 : w6.cell? ⟨kx, 2, none⟩ = some (.slice (some ⟨g, 0, none⟩) D.nb D.nb) := by have := HX6.out.c 2 _ rfl; simpa [firstTl, firstT] using this
      have c3 : w6.cell? ⟨kx, 3, none⟩ = some (.slice none 0 0) := HX6.out.c 3 _ rfl
      have Hv := hide hv
      clear hv
      go_wp2_with fail
      (with_reducible refine Fw.out.mono ?_)
      rintro e w7 ⟨rfl, h7, ht7⟩
      have hoff : ∀ b, w.heap.size ≤ b → b ∉ [k, kb, kp] := fun b hb => by
        have := Hlo.out
        have := HBB.out
        simp only [List.mem_cons, List.not_mem_nil, or_false, not_or]
        omega
      have HZ7 : Hid (BoxT zeroTl w.heap.size w7) := hide ((ht7.block _ HZ6.out.lt (hoff _ (Nat.le_refl _))).trans HZ6.out)
      have HX7 : Hid (BoxT (firstTl D.nb g) kx w7) := hide ((ht7.block _ HX6.out.lt (hoff _ (Nat.le_of_lt HK.out))).trans HX6.out)
      have HTc := hide ((Tch.of_below HB6.out).trans ht7)
      have H7 := hide h7
      have HT7 : Hid ((firstTl D.nb g).Ok w7 w7.heap.size) := hide (firstTl_ok HS.out.2.1 (HM6.out.kept (ht7.block g HM6.out.lt (hoff g HGB.out))))
      clear h7 ht7 c0 c1 c2 c3 Fw HX6 HZ6 HB6 H6 HT6
      have hpg : (firstTl D.nb g).t = firstT D.nb := rfl
      rw [hpg] at H7
      clear hpg
      have z0 := HZ7.out.c 0 _ rfl
      have z1 := HZ7.out.c 1 _ rfl
      have z2 := HZ7.out.c 2 _ rfl
      have z3 := HZ7.out.c 3 _ rfl
      have y0 := HZ7.out.free 0
      have y1 := HZ7.out.free 1
      have y2 := HZ7.out.free 2
      have y3 := HZ7.out.free 3
      rw [show (firstTl D.nb g).t = firstT D.nb from rfl]
      generalize D.writeR (firstT D.nb).page = R at *
      rcases R with ⟨q, E⟩
      dsimp only at HW H7 ⊢
      by_cases h0 : q = 0
      · subst h0
        rw [if_pos rfl] at HW
        have c0 : w7.cell? ⟨kx, 0, none⟩ = some (.int .u64 0) := HX7.out.c 0 _ rfl
        have c1 : w7.cell? ⟨kx, 1, none⟩ = some (.slice none 0 0) := HX7.out.c 1 _ rfl
        have c2 : w7.cell? ⟨kx, 2, none⟩ = some (.slice (some ⟨g, 0, none⟩) D.nb D.nb) := by have := HX7.out.c 2 _ rfl; simpa [firstTl, firstT] using this
        have c3 : w7.cell? ⟨kx, 3, none⟩ = some (.slice none 0 0) := HX7.out.c 3 _ rfl
        go_wp2
        rw [HW.out]
        rw [show (((w7.setCell ⟨w.heap.size, 0, none⟩ (.int .u64 0)).setCell ⟨w.heap.size, 1, none⟩ (.slice none 0 0)).setCell ⟨w.heap.size, 2, none⟩ (.slice (some ⟨g, 0, none⟩) D.nb D.nb)).setCell ⟨w.heap.size, 3, none⟩ (.slice none 0 0) = putT w7 w.heap.size (firstTl D.nb g) by simp [putT, firstTl, firstT]]
        exact bodyPost_ret (results_tb1 rfl _ _ (firstTl D.nb g) w.heap.size rfl (boxT4 (x := firstTl D.nb g) HZ7.out)) rfl ⟨firstTl D.nb g, rfl, rfl, HT7.out.putS ⟨.inl rfl, .inr ⟨_, rfl, by show g ≠ w.heap.size; have := HG.out; have := HK.out; omega⟩, .inl rfl⟩, firstTl_few HS.out.2.1, H7.out.below (putT_below (Below.refl _ _) HBB.out _), HTc.out.putT (Nat.le_refl _) _⟩
      · rw [if_neg h0] at HW
        have hb1 : (q != 0) = true := bne_iff_ne.2 h0
        clear h0
        go_wp2
        rw [HW.out]
        exact bodyPost_ret (results_tb1 rfl _ _ zeroTl w.heap.size rfl (boxT4 (x := zeroTl) HZ7.out)) rfl ⟨zeroTl, rfl, rfl, zeroTl_ok _ _, zeroTl_few, H7.out.below (putT_below (Below.refl _ _) HBB.out zeroTl), HTc.out.putT (Nat.le_refl _) zeroTl⟩
theorem mformat_any (h : DevAt w B0 B D k kb kp km) (hB : B ≤ w.heap.size) (hd : D.dn = false) (hops : D.ops < 900000) :
    Calls Tryz.prog 29 #[.pointer (some ⟨k, 0, none⟩)] w (FormatEnd w D B0 B k kb kp km) := by
  cases hn : D.newest with
  | none => exact mformat_none h hB hd hops hn
  | some p => exact mformat_some h hB hd p.1 p.2 hn
end
end Go.Proofs.YtigpplckddnghaaGreat
