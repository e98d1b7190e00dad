/-
  CONTRACT of the reference's Put: the bytes of a page that may be. (By gen/PgQ.gen.py.)
-/
import Derived.Test.YtahipfmokbiklaaPgR
import Derived.Test.YtahipfmokbiklaaPgM
import Derived.Test.YtahipfmokbiklaaFlo4
import Derived.Test.YtahipfmokbiklaaRd9
namespace Go.Proofs.Ytahipfmokbiklaa
open Go.RowKit
set_option maxRecDepth 8000

theorem mk_bytes (k x : Nat) (ki : Int) (hk : ki = (k : Int)) (W : World) (h8 : k ≤ 8) (hx : x < 18446744073709551616) : Makes 57 #[.int .i64 ki, .int .u64 (x : Int)] W k (beB k x) := by
  subst hk
  refine Makes.of (beB_len k x).symm ?_
  have := bytes_nat k (x : Int) W h8 (by omega) (by omega)
  rwa [Int.toNat_natCast] at this
theorem beB1_toNat (n : Nat) (_ : n < 256) : beB 1 n = [UInt8.ofNat n] := by simp [beB]
theorem bys4 (K I C : Nat) (hK : K < 256) (hI : I < 256) (hC : C < 256) : bys (beB 1 K ++ beB 1 I ++ beB 1 C ++ beB 1 0) = [.int .u8 (K : Int), .int .u8 (I : Int), .int .u8 (C : Int), .int .u8 0] := by
  rw [beB1_toNat K hK, beB1_toNat I hI, beB1_toNat C hC, beB1_toNat 0 (by omega)]
  simp [bys, Nat.mod_eq_of_lt hK, Nat.mod_eq_of_lt hI, Nat.mod_eq_of_lt hC]
theorem Lies.of_eq (w : World) {cs : Array Value} {l : List UInt8} (h : bys l = cs.toList) : Lies (w.alloc (.cells cs 5)) (w.alloc (.cells cs 5)).heap.size (some ⟨w.heap.size, 0, none⟩) (bys l) := by
  rw [h]
  exact Lies.new w cs 5 (0, 0) _ (by simp)
theorem zc_next (l : List UInt8) (j k : Nat) (hk : k < 8) : zc l (8 * j + (k + 1)) = zc l (8 * j + k) + (1 - bitN (l.getD j 0).toNat k) := by
  rw [← Nat.add_assoc, zc, bitAt_of _ _ _ hk]
theorem byte_half (x k : Nat) : x / 2 ^ k / 2 = x / 2 ^ (k + 1) := by rw [Nat.div_div_eq_div_mul, Nat.pow_succ]

theorem out_nums (j : Nat) (h : j < 252) : (j : Int) < 252 ∧ wrap64 ((j : Int) + 1) = ((j + 1 : Nat) : Int) := by
  refine ⟨by omega, ?_⟩
  unfold wrap64
  omega
theorem half_nums (x k j Y : Nat) (hx : x < 256) (hj : j < 252) (hk : k < 8) (hY : Y ≤ 8 * j + k) : ∃ q r q2 : Nat, Hid (q = x / 2 ^ k) ∧ Hid (r = bitN x k) ∧ Hid (q2 = x / 2 ^ (k + 1)) ∧ (r = 0 ∨ r = 1) ∧ (q : Int).tmod 2 = (r : Int) ∧ (q : Int) % 2 = (r : Int) ∧ (q : Int).tdiv 2 = (q2 : Int) ∧ (q : Int) / 2 = (q2 : Int) ∧
    wrap64 (q2 : Int) = (q2 : Int) ∧ IntKind.i64.wrap (q2 : Int) = (q2 : Int) ∧ wrap64 (r : Int) = (r : Int) ∧ IntKind.i64.wrap (r : Int) = (r : Int) ∧ wrap64 ((Y : Int) + 1) = ((Y + 1 : Nat) : Int) ∧ IntKind.i64.wrap ((Y : Int) + 1) = ((Y + 1 : Nat) : Int) ∧ wrap64 ((k : Int) + 1) = ((k + 1 : Nat) : Int) ∧ (k : Int) < 8 := by
  obtain ⟨q, r, q2, hq, hr, hq2, hr2, hq3, hq256⟩ : ∃ q r q2 : Nat, Hid (q = x / 2 ^ k) ∧ Hid (r = bitN x k) ∧ Hid (q2 = x / 2 ^ (k + 1)) ∧ r = q % 2 ∧ q2 = q / 2 ∧ q ≤ x := ⟨_, _, _, hide rfl, hide rfl, hide rfl, rfl, (byte_half x k).symm, Nat.div_le_self _ _⟩
  have t2 : (q : Int) % 2 = (r : Int) := by omega
  have t4 : (q : Int) / 2 = (q2 : Int) := by omega
  refine ⟨q, r, q2, hq, hr, hq2, by omega, by rw [Int.tmod_eq_emod_of_nonneg (by omega)]; exact t2, t2, by rw [Int.tdiv_eq_ediv_of_nonneg (by omega)]; exact t4, t4, by unfold wrap64; omega, IntWalk.i64_in _ (by omega), by unfold wrap64; omega, IntWalk.i64_in _ (by omega), by unfold wrap64; omega, ?_, by unfold wrap64; omega, by omega⟩
  rw [show (Y : Int) + 1 = ((Y + 1 : Nat) : Int) by omega]
  exact IntWalk.i64_in _ (by omega)
set_option maxRecDepth 8000 in
set_option maxHeartbeats 8000000 in
theorem put15_any (h : Hd) (d : List UInt8) (w : World) (hm : h.May) (hd : (d.length : Int) = h.len) : Calls Try.prog 29 #[h.val, .string (str d)] w fun e w' => e = .returned (.string (str (pageB h d))) ∧ Below w.heap.size w w' := by
  have hx1 : BoxH h w.heap.size (w.alloc (.cells h.cells.toArray 42)) := BoxH.new h w
  have hb1 := (Below.refl w.heap.size w).alloc (Nat.le_refl _) (.cells h.cells.toArray 42)
  have hsz := str_size d
  obtain ⟨m1, m2, m3, m4, m5, m6, m7, m8, m9, m10, m11, m12⟩ := hm
  rcases h with ⟨kd, ix, ct, bt, op, lp, ln⟩
  simp only at *
  obtain ⟨K, rfl⟩ := Int.eq_ofNat_of_zero_le (show 0 ≤ kd by omega)
  obtain ⟨I, rfl⟩ := Int.eq_ofNat_of_zero_le m5
  obtain ⟨C, rfl⟩ := Int.eq_ofNat_of_zero_le (show 0 ≤ ct by omega)
  obtain ⟨P, rfl⟩ := Int.eq_ofNat_of_zero_le m9
  obtain rfl : ln = (d.length : Int) := hd.symm
  obtain ⟨n, hn⟩ : ∃ n, n = d.length := ⟨_, rfl⟩
  have hn228 : n ≤ 228 := by rw [hn]; omega
  have hK : K < 256 := by omega
  have hI : I < 256 := by omega
  have hC : C < 256 := by omega
  have u1 : IntKind.u8.wrap (K : Int) = (K : Int) := by rw [u8_wrap_nat]; simp [Nat.mod_eq_of_lt hK]
  have u2 : IntKind.u8.wrap (I : Int) = (I : Int) := by rw [u8_wrap_nat]; simp [Nat.mod_eq_of_lt hI]
  have u3 : IntKind.u8.wrap (C : Int) = (C : Int) := by rw [u8_wrap_nat]; simp [Nat.mod_eq_of_lt hC]
  have u4 : IntKind.u64.wrap (P : Int) = (P : Int) := u64_wrap_small P (by omega)
  have u5 : IntKind.u64.wrap (n : Int) = (n : Int) := u64_wrap_small n (by omega)
  have H4 := hide (bys4 K I C hK hI hC)
  have FB := hide (fun (k x : Nat) (ki : Int) (hk : ki = (k : Int)) (W : World) (h8 : k ≤ 8) (hx : x < 18446744073709551616) => mk_bytes k x ki hk W h8 hx)
  have Hbt := hide (show bt < 18446744073709551616 by omega)
  have Hop := hide (show op < 18446744073709551616 by omega)
  have HP := hide (show P < 18446744073709551616 by omega)
  have Hn64 := hide (show n < 18446744073709551616 by omega)
  obtain ⟨L0, hL0⟩ : ∃ l, l = beB 1 K ++ beB 1 I ++ beB 1 C ++ beB 1 0 := ⟨_, rfl⟩
  rw [← hL0] at H4
  have z0 : L0.length = 4 := by rw [hL0]; simp [beB_len]
  obtain ⟨T1, hT1⟩ : ∃ l, l = beB 8 bt := ⟨_, rfl⟩
  obtain ⟨T2, hT2⟩ : ∃ l, l = beB 8 op := ⟨_, rfl⟩
  obtain ⟨T3, hT3⟩ : ∃ l, l = beB 2 P := ⟨_, rfl⟩
  obtain ⟨T4, hT4⟩ : ∃ l, l = beB 2 n := ⟨_, rfl⟩
  obtain ⟨L1, hL1⟩ : ∃ l, l = L0 ++ T1 := ⟨_, rfl⟩
  obtain ⟨L2, hL2⟩ : ∃ l, l = L1 ++ T2 := ⟨_, rfl⟩
  obtain ⟨L3, hL3⟩ : ∃ l, l = L2 ++ T3 := ⟨_, rfl⟩
  obtain ⟨L4, hL4⟩ : ∃ l, l = L3 ++ T4 := ⟨_, rfl⟩
  obtain ⟨L5, hL5⟩ : ∃ l, l = L4 ++ d := ⟨_, rfl⟩
  have z1 : T1.length = 8 := by rw [hT1]; simp [beB_len]
  have z2 : T2.length = 8 := by rw [hT2]; simp [beB_len]
  have z3 : T3.length = 2 := by rw [hT3]; simp [beB_len]
  have z4 : T4.length = 2 := by rw [hT4]; simp [beB_len]
  have y1 : L1.length = 12 := by rw [hL1, List.length_append, z0, z1]
  have y2 : L2.length = 20 := by rw [hL2, List.length_append, y1, z2]
  have y3 : L3.length = 22 := by rw [hL3, List.length_append, y2, z3]
  have y4 : L4.length = 24 := by rw [hL4, List.length_append, y3, z4]
  have y5 : L5.length = 24 + n := by rw [hL5, List.length_append, y4, hn]
  have a1 := str_app L0 T1
  have a2 := str_app L1 T2
  have a3 := str_app L2 T3
  have a4 := str_app L3 T4
  have a5 := str_app L4 d
  rw [← hL1] at a1
  rw [← hL2] at a2
  rw [← hL3] at a3
  rw [← hL4] at a4
  rw [← hL5] at a5
  have q1 : ¬ 9223372036854775807 < (str L0).size + (str T1).size := by rw [str_size, str_size, z0, z1]; omega
  have q2 : ¬ 9223372036854775807 < (str L1).size + (str T2).size := by rw [str_size, str_size, y1, z2]; omega
  have q3 : ¬ 9223372036854775807 < (str L2).size + (str T3).size := by rw [str_size, str_size, y2, z3]; omega
  have q4 : ¬ 9223372036854775807 < (str L3).size + (str T4).size := by rw [str_size, str_size, y3, z4]; omega
  have q5 : ¬ 9223372036854775807 < (str L4).size + (str d).size := by rw [str_size, str_size, y4, ← hn]; omega
  have Hbd : Hid (L5 = hdB ⟨K, I, C, bt, op, P, n⟩ ++ d) := hide (by rw [hL5, hL4, hL3, hL2, hL1, hL0, hT1, hT2, hT3, hT4]; simp [hdB])
  have Z5 := hide y5
  have HX := hide hx1
  have HB := hide hb1
  have Hn := hide hn
  have Hn2 := hide hn228
  rw [← hn] at HX HB ⊢
  clear hL0 hL1 hL2 hL3 hL4 hL5
  clear m1 m2 m3 m4 m5 m6 m7 m8 m9 m10 m11 m12 hd hn hx1 hb1 hn228 hK hI hC z1 z2 z3 z4 y1 y2 y3 y4 y5
  have HZ0 := hide z0
  have FT1 : Hid (∀ W, Makes 57 #[.int .i64 8, .int .u64 (bt : Int)] W 8 T1) := hide (fun W => by rw [hT1]; exact FB.out 8 bt 8 rfl W (by omega) Hbt.out)
  have FT2 : Hid (∀ W, Makes 57 #[.int .i64 8, .int .u64 (op : Int)] W 8 T2) := hide (fun W => by rw [hT2]; exact FB.out 8 op 8 rfl W (by omega) Hop.out)
  have FT3 : Hid (∀ W, Makes 57 #[.int .i64 2, .int .u64 (P : Int)] W 2 T3) := hide (fun W => by rw [hT3]; exact FB.out 2 P 2 rfl W (by omega) HP.out)
  have FT4 : Hid (∀ W, Makes 57 #[.int .i64 2, .int .u64 (n : Int)] W 2 T4) := hide (fun W => by rw [hT4]; exact FB.out 2 n 2 rfl W (by omega) Hn64.out)
  clear hT1 hT2 hT3 hT4 z0 FB Hbt Hop HP Hn64
  unfold Hd.val at *
  unfold Hd.cells at *
  dsimp only at *
  go_enter Try.func29, Try.ntmps29
  go_upto_region 1 with fail
  refine wp_region_all (by kernel_rfl) (fun dd => match dd with | 10 => is (.pointer (some ⟨w.heap.size, 0, none⟩)) | 11 => is (.int .i64 (K : Int)) | 12 => is (.int .u8 (K : Int)) | 13 => is (.pointer (some ⟨w.heap.size, 1, none⟩)) | 14 => is (.int .i64 (I : Int)) | 15 => is (.int .u8 (I : Int)) | 16 => is (.pointer (some ⟨w.heap.size, 2, none⟩)) | 17 => is (.int .i64 (C : Int)) | 18 => is (.int .u8 (C : Int)) | 19 => SliceStr 4 L0 | 20 => is (.string (str L0)) | 21 => is (.pointer (some ⟨w.heap.size, 3, none⟩)) | 22 => is (.int .u64 (bt : Int)) | 23 => SliceStr 8 T1 | 24 => is (.string (str T1)) | 25 => is (.string (str L1)) | 26 => is (.pointer (some ⟨w.heap.size, 4, none⟩)) | 27 => is (.int .u64 (op : Int)) | 28 => SliceStr 8 T2 | 29 => is (.string (str T2)) | 30 => is (.string (str L2)) | 31 => is (.pointer (some ⟨w.heap.size, 5, none⟩)) | 32 => is (.int .i64 (P : Int)) | 33 => is (.int .u64 (P : Int)) | 34 => SliceStr 2 T3 | 35 => is (.string (str T3)) | 36 => is (.string (str L3)) | 37 => is (.pointer (some ⟨w.heap.size, 6, none⟩)) | 38 => is (.int .i64 (n : Int)) | 39 => is (.int .u64 (n : Int)) | 40 => SliceStr 2 T4 | 41 => is (.string (str T4)) | 42 => is (.string (str L4)) | 43 => is (.string (str d)) | 44 => is (.string (str L5)) | 5 => is (.string (str L5)) | _ => fun _ _ => True) (by kernel_rfl) ⟨?_, ?_, ?_, ?_, ?_, ?_, ?_, ?_, ?_, ?_, ?_, ?_, ?_, ?_, ?_, ?_, ?_, ?_, ?_, ?_, ?_, ?_, ?_, ?_, ?_, ?_, ?_, ?_, ?_, ?_, ?_, ?_, ?_, ?_, ?_, ?_, trivial⟩ ?_
  · intro a w' hb h
    have e2 : a.tmps.getD 2 undef = .pointer (some ⟨w.heap.size, 0, none⟩) := sb h 2 (by kernel_rfl) (by kernel_rfl) rfl
    exact .val (want0 rfl) rfl (by simp [Act.eval, e2, go_sem]) (Keeps.is rfl)
  · intro a w' hb h
    have e10 := (sw h 10 (by kernel_rfl) (by kernel_rfl)).eq
    have kc := HX.out.c 0 _ rfl
    dsimp only at kc
    have kk := (hb.cell HX.out.lt).trans kc
    exact .val (want0 rfl) rfl (by simp [Act.eval, e10, kk, go_sem]) (Keeps.is rfl)
  · intro a w' hb h
    have e11 := (sw h 11 (by kernel_rfl) (by kernel_rfl)).eq
    exact .val (want0 rfl) rfl (by simp [Act.eval, e11, u1, go_sem]) (Keeps.is rfl)
  · intro a w' hb h
    have e2 : a.tmps.getD 2 undef = .pointer (some ⟨w.heap.size, 0, none⟩) := sb h 2 (by kernel_rfl) (by kernel_rfl) rfl
    exact .val (want0 rfl) rfl (by simp [Act.eval, e2, go_sem]) (Keeps.is rfl)
  · intro a w' hb h
    have e13 := (sw h 13 (by kernel_rfl) (by kernel_rfl)).eq
    have kc := HX.out.c 1 _ rfl
    dsimp only at kc
    have kk := (hb.cell HX.out.lt).trans kc
    exact .val (want0 rfl) rfl (by simp [Act.eval, e13, kk, go_sem]) (Keeps.is rfl)
  · intro a w' hb h
    have e14 := (sw h 14 (by kernel_rfl) (by kernel_rfl)).eq
    exact .val (want0 rfl) rfl (by simp [Act.eval, e14, u2, go_sem]) (Keeps.is rfl)
  · intro a w' hb h
    have e2 : a.tmps.getD 2 undef = .pointer (some ⟨w.heap.size, 0, none⟩) := sb h 2 (by kernel_rfl) (by kernel_rfl) rfl
    exact .val (want0 rfl) rfl (by simp [Act.eval, e2, go_sem]) (Keeps.is rfl)
  · intro a w' hb h
    have e16 := (sw h 16 (by kernel_rfl) (by kernel_rfl)).eq
    have kc := HX.out.c 2 _ rfl
    dsimp only at kc
    have kk := (hb.cell HX.out.lt).trans kc
    exact .val (want0 rfl) rfl (by simp [Act.eval, e16, kk, go_sem]) (Keeps.is rfl)
  · intro a w' hb h
    have e17 := (sw h 17 (by kernel_rfl) (by kernel_rfl)).eq
    exact .val (want0 rfl) rfl (by simp [Act.eval, e17, u3, go_sem]) (Keeps.is rfl)
  · intro a w' hb h
    have e12 := (sw h 12 (by kernel_rfl) (by kernel_rfl)).eq
    have e15 := (sw h 15 (by kernel_rfl) (by kernel_rfl)).eq
    have e18 := (sw h 18 (by kernel_rfl) (by kernel_rfl)).eq
    have g12 : a.tmps[12]?.getD undef = _ := (by simpa using e12)
    have g15 : a.tmps[15]?.getD undef = _ := (by simpa using e15)
    have g18 : a.tmps[18]?.getD undef = _ := (by simpa using e18)
    exact .made (v := .slice (some ⟨w'.heap.size, 0, none⟩) 4 4) (w' := w'.alloc (.cells #[.int .u8 (K : Int), .int .u8 (I : Int), .int .u8 (C : Int), .int .u8 0] 5)) (want0 rfl) rfl (by simp [Act.eval, g12, g15, g18, go_sem]) ((Below.refl _ _).alloc (Nat.le_refl _) _) (fun W hW => ⟨_, _, rfl, strU8 4 ((Lies.of_eq w' H4.out).below hW) HZ0.out.symm⟩)
  · intro a w' hb h
    have e19 := sw h 19 (by kernel_rfl) (by kernel_rfl)
    obtain ⟨A', c', e', hc'⟩ := e19.now
    rw [e'] at hc'
    exact .val (want0 rfl) rfl (by simp [Act.eval, e', hc', go_sem]) (Keeps.is rfl)
  · intro a w' hb h
    have e2 : a.tmps.getD 2 undef = .pointer (some ⟨w.heap.size, 0, none⟩) := sb h 2 (by kernel_rfl) (by kernel_rfl) rfl
    exact .val (want0 rfl) rfl (by simp [Act.eval, e2, go_sem]) (Keeps.is rfl)
  · intro a w' hb h
    have e21 := (sw h 21 (by kernel_rfl) (by kernel_rfl)).eq
    have kc := HX.out.c 3 _ rfl
    dsimp only at kc
    have kk := (hb.cell HX.out.lt).trans kc
    exact .val (want0 rfl) rfl (by simp [Act.eval, e21, kk, go_sem]) (Keeps.is rfl)
  · intro a w' hb h
    have e22 := (sw h 22 (by kernel_rfl) (by kernel_rfl)).eq
    exact .called (want0 rfl) rfl (by simp [Act.eval, e22, go_sem]) (FT1.out w')
  · intro a w' hb h
    have e23 := sw h 23 (by kernel_rfl) (by kernel_rfl)
    obtain ⟨A', c', e', hc'⟩ := e23.now
    rw [e'] at hc'
    exact .val (want0 rfl) rfl (by simp [Act.eval, e', hc', go_sem]) (Keeps.is rfl)
  · intro a w' hb h
    have e20 := (sw h 20 (by kernel_rfl) (by kernel_rfl)).eq
    have e24 := (sw h 24 (by kernel_rfl) (by kernel_rfl)).eq
    exact .val (want0 rfl) rfl (by simp [Act.eval, e20, e24, a1, q1, go_sem]) (Keeps.is rfl)
  · intro a w' hb h
    have e2 : a.tmps.getD 2 undef = .pointer (some ⟨w.heap.size, 0, none⟩) := sb h 2 (by kernel_rfl) (by kernel_rfl) rfl
    exact .val (want0 rfl) rfl (by simp [Act.eval, e2, go_sem]) (Keeps.is rfl)
  · intro a w' hb h
    have e26 := (sw h 26 (by kernel_rfl) (by kernel_rfl)).eq
    have kc := HX.out.c 4 _ rfl
    dsimp only at kc
    have kk := (hb.cell HX.out.lt).trans kc
    exact .val (want0 rfl) rfl (by simp [Act.eval, e26, kk, go_sem]) (Keeps.is rfl)
  · intro a w' hb h
    have e27 := (sw h 27 (by kernel_rfl) (by kernel_rfl)).eq
    exact .called (want0 rfl) rfl (by simp [Act.eval, e27, go_sem]) (FT2.out w')
  · intro a w' hb h
    have e28 := sw h 28 (by kernel_rfl) (by kernel_rfl)
    obtain ⟨A', c', e', hc'⟩ := e28.now
    rw [e'] at hc'
    exact .val (want0 rfl) rfl (by simp [Act.eval, e', hc', go_sem]) (Keeps.is rfl)
  · intro a w' hb h
    have e25 := (sw h 25 (by kernel_rfl) (by kernel_rfl)).eq
    have e29 := (sw h 29 (by kernel_rfl) (by kernel_rfl)).eq
    exact .val (want0 rfl) rfl (by simp [Act.eval, e25, e29, a2, q2, go_sem]) (Keeps.is rfl)
  · intro a w' hb h
    have e2 : a.tmps.getD 2 undef = .pointer (some ⟨w.heap.size, 0, none⟩) := sb h 2 (by kernel_rfl) (by kernel_rfl) rfl
    exact .val (want0 rfl) rfl (by simp [Act.eval, e2, go_sem]) (Keeps.is rfl)
  · intro a w' hb h
    have e31 := (sw h 31 (by kernel_rfl) (by kernel_rfl)).eq
    have kc := HX.out.c 5 _ rfl
    dsimp only at kc
    have kk := (hb.cell HX.out.lt).trans kc
    exact .val (want0 rfl) rfl (by simp [Act.eval, e31, kk, go_sem]) (Keeps.is rfl)
  · intro a w' hb h
    have e32 := (sw h 32 (by kernel_rfl) (by kernel_rfl)).eq
    exact .val (want0 rfl) rfl (by simp [Act.eval, e32, u4, go_sem]) (Keeps.is rfl)
  · intro a w' hb h
    have e33 := (sw h 33 (by kernel_rfl) (by kernel_rfl)).eq
    exact .called (want0 rfl) rfl (by simp [Act.eval, e33, go_sem]) (FT3.out w')
  · intro a w' hb h
    have e34 := sw h 34 (by kernel_rfl) (by kernel_rfl)
    obtain ⟨A', c', e', hc'⟩ := e34.now
    rw [e'] at hc'
    exact .val (want0 rfl) rfl (by simp [Act.eval, e', hc', go_sem]) (Keeps.is rfl)
  · intro a w' hb h
    have e30 := (sw h 30 (by kernel_rfl) (by kernel_rfl)).eq
    have e35 := (sw h 35 (by kernel_rfl) (by kernel_rfl)).eq
    exact .val (want0 rfl) rfl (by simp [Act.eval, e30, e35, a3, q3, go_sem]) (Keeps.is rfl)
  · intro a w' hb h
    have e2 : a.tmps.getD 2 undef = .pointer (some ⟨w.heap.size, 0, none⟩) := sb h 2 (by kernel_rfl) (by kernel_rfl) rfl
    exact .val (want0 rfl) rfl (by simp [Act.eval, e2, go_sem]) (Keeps.is rfl)
  · intro a w' hb h
    have e37 := (sw h 37 (by kernel_rfl) (by kernel_rfl)).eq
    have kc := HX.out.c 6 _ rfl
    dsimp only at kc
    have kk := (hb.cell HX.out.lt).trans kc
    exact .val (want0 rfl) rfl (by simp [Act.eval, e37, kk, go_sem]) (Keeps.is rfl)
  · intro a w' hb h
    have e38 := (sw h 38 (by kernel_rfl) (by kernel_rfl)).eq
    exact .val (want0 rfl) rfl (by simp [Act.eval, e38, u5, go_sem]) (Keeps.is rfl)
  · intro a w' hb h
    have e39 := (sw h 39 (by kernel_rfl) (by kernel_rfl)).eq
    exact .called (want0 rfl) rfl (by simp [Act.eval, e39, go_sem]) (FT4.out w')
  · intro a w' hb h
    have e40 := sw h 40 (by kernel_rfl) (by kernel_rfl)
    obtain ⟨A', c', e', hc'⟩ := e40.now
    rw [e'] at hc'
    exact .val (want0 rfl) rfl (by simp [Act.eval, e', hc', go_sem]) (Keeps.is rfl)
  · intro a w' hb h
    have e36 := (sw h 36 (by kernel_rfl) (by kernel_rfl)).eq
    have e41 := (sw h 41 (by kernel_rfl) (by kernel_rfl)).eq
    exact .val (want0 rfl) rfl (by simp [Act.eval, e36, e41, a4, q4, go_sem]) (Keeps.is rfl)
  · intro a w' hb h
    have e1 : a.tmps.getD 1 undef = .string (str d) := sb h 1 (by kernel_rfl) (by kernel_rfl) rfl
    exact .val (want0 rfl) rfl (by simp [Act.eval, e1, go_sem]) (Keeps.is rfl)
  · intro a w' hb h
    have e42 := (sw h 42 (by kernel_rfl) (by kernel_rfl)).eq
    have e43 := (sw h 43 (by kernel_rfl) (by kernel_rfl)).eq
    exact .val (want0 rfl) rfl (by simp [Act.eval, e42, e43, a5, q5, go_sem]) (Keeps.is rfl)
  · intro a w' hb h
    have e44 := (sw h 44 (by kernel_rfl) (by kernel_rfl)).eq
    exact .val (want0 rfl) rfl (by simp [Act.eval, e44, go_sem]) (Keeps.is rfl)
  · intro a' w' hdf hsz hbl hwr hkp
    have f10 : a'.tmps.getD 10 undef = .pointer (some ⟨w.heap.size, 0, none⟩) := (show Keeps (is (.pointer (some ⟨w.heap.size, 0, none⟩))) _ _ from hwr 10 (by kernel_rfl)).eq
    have f11 : a'.tmps.getD 11 undef = .int .i64 (K : Int) := (show Keeps (is (.int .i64 (K : Int))) _ _ from hwr 11 (by kernel_rfl)).eq
    have f12 : a'.tmps.getD 12 undef = .int .u8 (K : Int) := (show Keeps (is (.int .u8 (K : Int))) _ _ from hwr 12 (by kernel_rfl)).eq
    have f13 : a'.tmps.getD 13 undef = .pointer (some ⟨w.heap.size, 1, none⟩) := (show Keeps (is (.pointer (some ⟨w.heap.size, 1, none⟩))) _ _ from hwr 13 (by kernel_rfl)).eq
    have f14 : a'.tmps.getD 14 undef = .int .i64 (I : Int) := (show Keeps (is (.int .i64 (I : Int))) _ _ from hwr 14 (by kernel_rfl)).eq
    have f15 : a'.tmps.getD 15 undef = .int .u8 (I : Int) := (show Keeps (is (.int .u8 (I : Int))) _ _ from hwr 15 (by kernel_rfl)).eq
    have f16 : a'.tmps.getD 16 undef = .pointer (some ⟨w.heap.size, 2, none⟩) := (show Keeps (is (.pointer (some ⟨w.heap.size, 2, none⟩))) _ _ from hwr 16 (by kernel_rfl)).eq
    have f17 : a'.tmps.getD 17 undef = .int .i64 (C : Int) := (show Keeps (is (.int .i64 (C : Int))) _ _ from hwr 17 (by kernel_rfl)).eq
    have f18 : a'.tmps.getD 18 undef = .int .u8 (C : Int) := (show Keeps (is (.int .u8 (C : Int))) _ _ from hwr 18 (by kernel_rfl)).eq
    have p19 := hwr 19 (by kernel_rfl)
    obtain ⟨v19, f19⟩ : ∃ v, a'.tmps.getD 19 undef = v := ⟨_, rfl⟩
    rw [f19] at p19
    have f20 : a'.tmps.getD 20 undef = .string (str L0) := (show Keeps (is (.string (str L0))) _ _ from hwr 20 (by kernel_rfl)).eq
    have f21 : a'.tmps.getD 21 undef = .pointer (some ⟨w.heap.size, 3, none⟩) := (show Keeps (is (.pointer (some ⟨w.heap.size, 3, none⟩))) _ _ from hwr 21 (by kernel_rfl)).eq
    have f22 : a'.tmps.getD 22 undef = .int .u64 (bt : Int) := (show Keeps (is (.int .u64 (bt : Int))) _ _ from hwr 22 (by kernel_rfl)).eq
    have p23 := hwr 23 (by kernel_rfl)
    obtain ⟨v23, f23⟩ : ∃ v, a'.tmps.getD 23 undef = v := ⟨_, rfl⟩
    rw [f23] at p23
    have f24 : a'.tmps.getD 24 undef = .string (str T1) := (show Keeps (is (.string (str T1))) _ _ from hwr 24 (by kernel_rfl)).eq
    have f25 : a'.tmps.getD 25 undef = .string (str L1) := (show Keeps (is (.string (str L1))) _ _ from hwr 25 (by kernel_rfl)).eq
    have f26 : a'.tmps.getD 26 undef = .pointer (some ⟨w.heap.size, 4, none⟩) := (show Keeps (is (.pointer (some ⟨w.heap.size, 4, none⟩))) _ _ from hwr 26 (by kernel_rfl)).eq
    have f27 : a'.tmps.getD 27 undef = .int .u64 (op : Int) := (show Keeps (is (.int .u64 (op : Int))) _ _ from hwr 27 (by kernel_rfl)).eq
    have p28 := hwr 28 (by kernel_rfl)
    obtain ⟨v28, f28⟩ : ∃ v, a'.tmps.getD 28 undef = v := ⟨_, rfl⟩
    rw [f28] at p28
    have f29 : a'.tmps.getD 29 undef = .string (str T2) := (show Keeps (is (.string (str T2))) _ _ from hwr 29 (by kernel_rfl)).eq
    have f30 : a'.tmps.getD 30 undef = .string (str L2) := (show Keeps (is (.string (str L2))) _ _ from hwr 30 (by kernel_rfl)).eq
    have f31 : a'.tmps.getD 31 undef = .pointer (some ⟨w.heap.size, 5, none⟩) := (show Keeps (is (.pointer (some ⟨w.heap.size, 5, none⟩))) _ _ from hwr 31 (by kernel_rfl)).eq
    have f32 : a'.tmps.getD 32 undef = .int .i64 (P : Int) := (show Keeps (is (.int .i64 (P : Int))) _ _ from hwr 32 (by kernel_rfl)).eq
    have f33 : a'.tmps.getD 33 undef = .int .u64 (P : Int) := (show Keeps (is (.int .u64 (P : Int))) _ _ from hwr 33 (by kernel_rfl)).eq
    have p34 := hwr 34 (by kernel_rfl)
    obtain ⟨v34, f34⟩ : ∃ v, a'.tmps.getD 34 undef = v := ⟨_, rfl⟩
    rw [f34] at p34
    have f35 : a'.tmps.getD 35 undef = .string (str T3) := (show Keeps (is (.string (str T3))) _ _ from hwr 35 (by kernel_rfl)).eq
    have f36 : a'.tmps.getD 36 undef = .string (str L3) := (show Keeps (is (.string (str L3))) _ _ from hwr 36 (by kernel_rfl)).eq
    have f37 : a'.tmps.getD 37 undef = .pointer (some ⟨w.heap.size, 6, none⟩) := (show Keeps (is (.pointer (some ⟨w.heap.size, 6, none⟩))) _ _ from hwr 37 (by kernel_rfl)).eq
    have f38 : a'.tmps.getD 38 undef = .int .i64 (n : Int) := (show Keeps (is (.int .i64 (n : Int))) _ _ from hwr 38 (by kernel_rfl)).eq
    have f39 : a'.tmps.getD 39 undef = .int .u64 (n : Int) := (show Keeps (is (.int .u64 (n : Int))) _ _ from hwr 39 (by kernel_rfl)).eq
    have p40 := hwr 40 (by kernel_rfl)
    obtain ⟨v40, f40⟩ : ∃ v, a'.tmps.getD 40 undef = v := ⟨_, rfl⟩
    rw [f40] at p40
    have f41 : a'.tmps.getD 41 undef = .string (str T4) := (show Keeps (is (.string (str T4))) _ _ from hwr 41 (by kernel_rfl)).eq
    have f42 : a'.tmps.getD 42 undef = .string (str L4) := (show Keeps (is (.string (str L4))) _ _ from hwr 42 (by kernel_rfl)).eq
    have f43 : a'.tmps.getD 43 undef = .string (str d) := (show Keeps (is (.string (str d))) _ _ from hwr 43 (by kernel_rfl)).eq
    have f44 : a'.tmps.getD 44 undef = .string (str L5) := (show Keeps (is (.string (str L5))) _ _ from hwr 44 (by kernel_rfl)).eq
    have f5 : a'.tmps.getD 5 undef = .string (str L5) := (show Keeps (is (.string (str L5))) _ _ from hwr 5 (by kernel_rfl)).eq
    have hfr := Flo2.frame_eq [(10, .pointer (some ⟨w.heap.size, 0, none⟩)), (11, .int .i64 (K : Int)), (12, .int .u8 (K : Int)), (13, .pointer (some ⟨w.heap.size, 1, none⟩)), (14, .int .i64 (I : Int)), (15, .int .u8 (I : Int)), (16, .pointer (some ⟨w.heap.size, 2, none⟩)), (17, .int .i64 (C : Int)), (18, .int .u8 (C : Int)), (19, v19), (20, .string (str L0)), (21, .pointer (some ⟨w.heap.size, 3, none⟩)), (22, .int .u64 (bt : Int)), (23, v23), (24, .string (str T1)), (25, .string (str L1)), (26, .pointer (some ⟨w.heap.size, 4, none⟩)), (27, .int .u64 (op : Int)), (28, v28), (29, .string (str T2)), (30, .string (str L2)), (31, .pointer (some ⟨w.heap.size, 5, none⟩)), (32, .int .i64 (P : Int)), (33, .int .u64 (P : Int)), (34, v34), (35, .string (str T3)), (36, .string (str L3)), (37, .pointer (some ⟨w.heap.size, 6, none⟩)), (38, .int .i64 (n : Int)), (39, .int .u64 (n : Int)), (40, v40), (41, .string (str T4)), (42, .string (str L4)), (43, .string (str d)), (44, .string (str L5)), (5, .string (str L5))] a'.tmps _ hsz (by
      intro x hx
      simp only [List.mem_cons, List.not_mem_nil, or_false] at hx
      rcases hx with h | h | h | h | h | h | h | h | h | h | h | h | h | h | h | h | h | h | h | h | h | h | h | h | h | h | h | h | h | h | h | h | h | h | h | h <;> subst h
      · exact f10
      · exact f11
      · exact f12
      · exact f13
      · exact f14
      · exact f15
      · exact f16
      · exact f17
      · exact f18
      · exact f19
      · exact f20
      · exact f21
      · exact f22
      · exact f23
      · exact f24
      · exact f25
      · exact f26
      · exact f27
      · exact f28
      · exact f29
      · exact f30
      · exact f31
      · exact f32
      · exact f33
      · exact f34
      · exact f35
      · exact f36
      · exact f37
      · exact f38
      · exact f39
      · exact f40
      · exact f41
      · exact f42
      · exact f43
      · exact f44
      · exact f5) (fun t ht => hkp t (Flo3.writes_not _ _ (by kernel_rfl) ht))
    have ha := Flo3.act_ext hfr hdf
    clear hfr hwr hkp hsz hdf f10 f11 f12 f13 f14 f15 f16 f17 f18 f19 f20 f21 f22 f23 f24 f25 f26 f27 f28 f29 f30 f31 f32 f33 f34 f35 f36 f37 f38 f39 f40 f41 f42 f43 f44 f5
    subst ha
    simp only [Flo2.puts, List.foldl_cons, List.foldl_nil, List.setIfInBounds_toArray, List.set, Exit.then]
    have HB1 := hide (HB.out.trans (hbl.mono HB.out.size))
    clear p19 p23 p28 p34 p40 hbl u1 u2 u3 u4 u5 a1 a2 a3 a4 a5 q1 q2 q3 q4 q5 H4 FT1 FT2 FT3 FT4 HZ0 HX HB
    generalize w' = w1 at *
    obtain ⟨s, hs⟩ : ∃ s, s = 24 + n := ⟨_, rfl⟩
    obtain ⟨m, hm⟩ : ∃ m, m = 228 - n := ⟨_, rfl⟩
    have hn2 := Hn2.out
    have zs : (str L5).size = s := by rw [str_size, hs]; exact Z5.out
    have es : wrap64 (252 - (s : Int)) = (m : Int) := by unfold wrap64; omega
    have es2 : IntKind.i64.wrap (252 - (s : Int)) = (m : Int) := by rw [show 252 - (s : Int) = (m : Int) by omega]; exact IntWalk.i64_in _ (by omega)
    have FO := hide (ones2_any m w1 (by omega))
    obtain ⟨L6, hL6⟩ : ∃ l, l = L5 ++ List.replicate m 255 := ⟨_, rfl⟩
    have a6 := str_app L5 (List.replicate m 255)
    rw [← hL6] at a6
    have q6 : ¬ 9223372036854775807 < (str L5).size + (str (List.replicate m (255 : UInt8))).size := by rw [zs, str_size, List.length_replicate]; omega
    have z6 : L6.length = 252 := by rw [hL6, List.length_append, List.length_replicate, Z5.out]; omega
    have Hbody : Hid (L6 = bodyB ⟨K, I, C, bt, op, P, n⟩ d) := hide (by rw [hL6, Hbd.out, hm, Hn.out]; rfl)
    have zs6 : (str L6).size = 252 := by rw [str_size, z6]
    have Z6 := hide z6
    obtain ⟨Z, hZ⟩ : ∃ Z, Z = zc L6 (8 * 252) := ⟨_, rfl⟩
    have hZle := zc_le L6 (8 * 252)
    rw [← hZ] at hZle
    have u6 : IntKind.u64.wrap (Z : Int) = (Z : Int) := u64_wrap_small Z (by omega)
    obtain ⟨T5, hT5⟩ : ∃ l, l = beB 4 Z := ⟨_, rfl⟩
    have FT5 : Hid (∀ W, Makes 57 #[.int .i64 4, .int .u64 (Z : Int)] W 4 T5) := hide (fun W => by rw [hT5]; exact mk_bytes 4 Z 4 rfl W (by omega) (by omega))
    obtain ⟨L7, hL7⟩ : ∃ l, l = L6 ++ T5 := ⟨_, rfl⟩
    have a7 := str_app L6 T5
    rw [← hL7] at a7
    have q7 : ¬ 9223372036854775807 < (str L6).size + (str T5).size := by rw [zs6, str_size, hT5, beB_len]; omega
    have Hpage : Hid (L7 = pageB ⟨K, I, C, bt, op, P, n⟩ d) := hide (by rw [hL7, hT5, hZ, Hbody.out]; unfold pageB sealB; rw [← Hbody.out, z6])
    have HZ := hide hZ
    clear hL6 hZ hZle hT5 hL7 hs hm hn2 z6 Hbody Hbd Hn2
    go_wp2_with fail
    (with_reducible refine FO.out.mono ?_)
    rintro e w2 ⟨A', c', rfl, ho, hb⟩
    have hst := strU8 c' (Lies.of_own ho) (by rw [List.length_replicate])
    have HB2 := hide (HB1.out.trans (hb.mono HB1.out.size))
    clear ho hb FO HB1
    go_wp2
    clear es es2 a6 q6 hst zs
    go_loopw [6, 7, 8, 9] (fun nn ii c8 k9 wr => ∃ j : Nat, j ≤ 252 ∧ nn = .int .i64 (zc L6 (8 * j) : Nat) ∧ ii = .int .i64 (j : Int) ∧ wr = w2) (fun _ ii _ _ _ => 252 - (intOf ii).toNat)
    case atStart => exact ⟨0, Nat.zero_le _, rfl, rfl, rfl⟩
    case round =>
      obtain ⟨j, hj, rfl, rfl, rfl⟩ := hrel
      by_cases hlt : j < 252
      · obtain ⟨hlt', e1⟩ := out_nums j hlt
        obtain ⟨x, hx⟩ : ∃ x, x = (L6.getD j 0).toNat := ⟨_, rfl⟩
        have hx256 : x < 256 := by rw [hx]; exact UInt8.toNat_lt _
        have hix : ∀ W, (Instr.index 9 (.string (str L6)) (.int .i64 (j : Int))).run Try.prog W = .ok (.int .u8 (x : Int)) W := fun W => by
          rw [run_index_string W 9 _ _ _ Try.underlying9, dif_pos ⟨by omega, by rw [zs6]; omega⟩, hx]
          congr 3
          simp only [Int.toNat_natCast]
          have hl : j < L6.length := by rw [Z6.out]; exact hlt
          have hg : (str L6)[j]'(by rw [zs6]; exact hlt) = L6[j] := by
            show L6.toArray[j]'(by simpa using hl) = L6[j]
            simp
          rw [hg, List.getD_eq_getElem?_getD, List.getElem?_eq_getElem hl]
          rfl
        have e2 : IntKind.i64.wrap (x : Int) = (x : Int) := IntWalk.i64_in _ (by omega)
        have Hx := hide hx
        have Hj := hide hlt
        clear hx
        go_wp2
        clear hix e2
        go_loopw [6, 8, 9] (fun nn c8 k9 W9 => ∃ k : Nat, k ≤ 8 ∧ nn = .int .i64 (zc L6 (8 * j + k) : Nat) ∧ c8 = .int .i64 ((x / 2 ^ k : Nat) : Int) ∧ k9 = .int .i64 (k : Int) ∧ W9 = wr) (fun _ _ k9 _ => 8 - (intOf k9).toNat)
        case atStart => exact ⟨0, Nat.zero_le _, rfl, by simp, rfl, rfl⟩
        case round =>
          obtain ⟨k, hk, rfl, rfl, rfl, rfl⟩ := hrel
          by_cases hk8 : k < 8
          · obtain ⟨Y, hY⟩ : ∃ Y, Hid (Y = zc L6 (8 * j + k)) := ⟨_, hide rfl⟩
            obtain ⟨q, r, q2, hq, hr, hq2, hr01, t1, t2, t3, t4, w1, w2, w3, w4, e4, e5, e3, hk8'⟩ := half_nums x k j Y hx256 Hj.out hk8 (by rw [hY.out]; exact zc_le _ _)
            have hnext := zc_next L6 j k hk8
            rw [← Hx.out, ← hr.out, ← hY.out] at hnext
            rw [← hq.out, ← hY.out]
            have HN := hide hnext
            have Hk8 := hide hk8
            clear hnext
            rcases hr01 with rfl | rfl
            · have v0 : (((0 : Nat) : Int) == 0) = true := rfl
              clear hk hk8 hj
              go_wp2
              go_roundw
              case rel => exact ⟨k + 1, Hk8.out, congrArg (Value.int .i64) (congrArg Nat.cast (show Y + 1 = zc L6 (8 * j + (k + 1)) from HN.out.symm)), by rw [hq2.out], rfl, (by first | rfl | trivial)⟩
              case measure => have := Hk8.out; simp [intOf]; omega
            · have v0 : (((1 : Nat) : Int) == 0) = false := rfl
              clear hk hk8 hj
              go_wp2
              go_roundw
              case rel => exact ⟨k + 1, Hk8.out, congrArg (Value.int .i64) (congrArg Nat.cast (show Y = zc L6 (8 * j + (k + 1)) from HN.out.symm)), by rw [hq2.out], rfl, (by first | rfl | trivial)⟩
              case measure => have := Hk8.out; simp [intOf]; omega
          · obtain rfl : k = 8 := by omega
            have hn8 : ¬ ((8 : Nat) : Int) < 8 := by omega
            clear hk hk8
            go_wp2
            go_roundw
            case rel => exact ⟨j + 1, Hj.out, by rw [show 8 * (j + 1) = 8 * j + 8 by omega], rfl, (by first | rfl | trivial)⟩
            case measure => have := Hj.out; simp [intOf]; omega
      · obtain rfl : j = 252 := by omega
        have hn9 : ¬ ((252 : Nat) : Int) < 252 := by omega
        rw [← HZ.out]
        clear hj hlt
        go_wp2_with fail
        unfold Makes at FT5
        (with_reducible refine (FT5.out _).mono ?_)
        rintro e w3 ⟨v, rfl, hb, hk⟩
        obtain ⟨A3, c3, rfl, hcv⟩ := hk.now
        have HB3 := hide (HB2.out.trans (hb.mono HB2.out.size))
        clear hb hk
        go_wp2
        go_ret
        exact ⟨by first | (rw [← Hpage.out]; rfl) | rw [← Hpage.out], HB3.out⟩
end Go.Proofs.Ytahipfmokbiklaa
