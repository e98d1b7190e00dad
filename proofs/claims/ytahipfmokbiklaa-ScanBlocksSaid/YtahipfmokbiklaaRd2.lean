/-
  CONTRACTS of package nand: Erase.
  THE REFERENCE OF LAYER 14: what is programmed and erased, byte by byte.
  THE REFERENCE OF LAYER 14: Part. 
-/
import Derived.Test.YtahipfmokbiklaaDev6
import Derived.Test.YtahipfmokbiklaaDev
import Derived.Test.YtahipfmokbiklaaBits
import Derived.Deep.DeepCutAuto
namespace Go.Proofs.Ytahipfmokbiklaa
section
open Go.RowKit

section
variable {w : World} {B0 B : Nat} {D : Dv} {k kb kp km : Nat}
theorem erase_bad0 (v : Value) (x : Int) (e0 : Int) (hc : e0 ≠ 0)
    (hp : Calls Try.prog 46 #[v, .agg #[.int .i64 x, .int .i64 0]] w fun e w' => e = .returned (.tuple #[.slice none 0 0, .int .i64 e0]) ∧ Below w.heap.size w w') :
    Calls Try.prog 22 #[v, .int .i64 x] w fun e w' => e = .returned (.int .i64 e0) ∧ Below w.heap.size w w' := by
  have Hp := hide hp
  have hc2 : (e0 != 0) = true := bne_iff_ne.2 hc
  clear hp
  go_enter Try.func22, Try.ntmps22
  go_wp2_with fail
  (with_reducible refine Hp.out.mono ?_)
  rintro e w3 ⟨rfl, hb⟩
  have Hb3 := hide hb
  clear hb Hp
  go_wp2
  go_ret
  exact ⟨rfl, Hb3.out⟩
theorem era_down (h : DevAt w B0 B D k kb kp km) (hB : B ≤ w.heap.size) (x : Int) (hd : D.dn = true) :
    Calls Try.prog 22 #[.pointer (some ⟨k, 0, none⟩), .int .i64 x] w fun e w' => e = .returned (.int .i64 9) ∧ Below w.heap.size w w' :=
  erase_bad0 _ x 9 (by decide) (page_down h hB x 0 hd)
theorem era_out (h : DevAt w B0 B D k kb kp km) (hB : B ≤ w.heap.size) (x : Int) (hd : D.dn = false) (hx : ¬ (0 ≤ x ∧ x < (D.nb : Int))) :
    Calls Try.prog 22 #[.pointer (some ⟨k, 0, none⟩), .int .i64 x] w fun e w' => e = .returned (.int .i64 3) ∧ Below w.heap.size w w' :=
  erase_bad0 _ x 3 (by decide) (page_out h hB x 0 hd (by have := h.sides.2.2.2.2.1; unfold Gm.Has; omega))
theorem era_marked (h : DevAt w B0 B D k kb kp km) (hB : B ≤ w.heap.size) (x : Nat) (hd : D.dn = false) (hx : x < D.nb) (hm : D.bad x = true) :
    Calls Try.prog 22 #[.pointer (some ⟨k, 0, none⟩), .int .i64 (x : Int)] w fun e w' => e = .returned (.int .i64 12) ∧ Below w.heap.size w w' := by
  have hp0 := page_ok h hB x 0 hd hx (by have := h.sides.2.2.1; omega)
  rw [show ((0 : Nat) : Int) = 0 from rfl] at hp0
  have Hp := hide hp0
  have HB := hide hB
  have H1 := hide h
  have Hx := hide hx
  have Hm := hide hm
  clear h hB hd hx hm hp0
  go_enter Try.func22, Try.ntmps22
  go_wp2_with fail
  (with_reducible refine Hp.out.mono ?_)
  rintro e w3 ⟨rfl, hb⟩
  have Hb3 := hide hb
  have h3 := H1.out.below (hb.mono HB.out)
  have fb := block_some h3 x Hx.out
  have c0 := h3.b0 Hx.out
  rw [Hm.out] at c0
  clear hb Hp H1 h3
  go_wp2_with (go_at_call 44; (with_reducible refine fb.mono ?_); rintro e w2 ⟨rfl, rfl⟩; clear fb)
  go_ret
  exact ⟨rfl, Hb3.out⟩

set_option maxRecDepth 4000 in
set_option maxHeartbeats 2000000 in
theorem era_ok (h : DevAt w B0 B D k kb kp km) (hB : B ≤ w.heap.size) (x : Nat) (hd : D.dn = false) (hx : x < D.nb) (hm : D.bad x = false) (hops : D.ops < 1000000) :
    Calls Try.prog 22 #[.pointer (some ⟨k, 0, none⟩), .int .i64 (x : Int)] w fun e w' => e = .returned (.int .i64 D.err) ∧ DevAt w' B0 B (D.erased x) k kb kp km ∧ Tch [k, kb, kp] w w' := by
  have hp0 := page_ok h hB x 0 hd hx (by have := h.sides.2.2.1; omega)
  rw [show ((0 : Nat) : Int) = 0 from rfl] at hp0
  obtain ⟨s1, s2, s3, s4, s5, s6⟩ := h.sides
  have Hi3 := hide h.hi
  have Hp := hide hp0
  have HB := hide hB
  have H1 := hide h
  have Hx := hide hx
  have Hm := hide hm
  have Hops := hide hops
  have Hwe := hide (h.wear x hx)
  have S5 := hide s5
  have S6 := hide s6
  have hnp : D.np ≤ 32 := s4
  clear h hB hd hx hm hp0 hops s1 s2 s3 s4 s5 s6
  go_enter Try.func22, Try.ntmps22
  go_wp2_with fail
  (with_reducible refine Hp.out.mono ?_)
  rintro e w3 ⟨rfl, hb⟩
  have Hb3 := hide hb
  have h3 := H1.out.below (hb.mono HB.out)
  have fb := block_some h3 x Hx.out
  have c0 := h3.b0 Hx.out
  rw [Hm.out] at c0
  have HB3 := hide (Nat.le_trans HB.out hb.size)
  have Fb := hide (begin_any h3 HB3.out Hops.out)
  have H3 := hide h3
  clear hb Hp H1 h3
  go_wp2_with (go_at_call 44; (with_reducible refine fb.mono ?_); rintro e w2 ⟨rfl, rfl⟩; clear fb)
  (with_reducible refine Fb.out.mono ?_)
  rintro e w5 ⟨A3, m3, c3, rfl, hm3, hl3, hd5, ht5⟩
  have HB5 := hide (Nat.le_trans HB3.out ht5.size)
  have Ht5 := hide ((Tch.of_below (S := [k, kb, kp]) Hb3.out).trans ht5)
  have Hm3 := hide hm3
  have b6 := (Below.refl w5.heap.size w5).alloc (Nat.le_refl _) (.cells #[.slice A3 m3 c3] 65)
  have h6 := hd5.below (b6.mono HB5.out)
  have hl6 := hl3.kept (w' := w5.alloc (.cells #[.slice A3 m3 c3] 65)) (fun q hq _ => b6.block q hq)
  have hc6 : (w5.alloc (.cells #[.slice A3 m3 c3] 65)).cell? ⟨w5.heap.size, 0, none⟩ = some (.slice A3 m3 c3) := by simp
  have Ht6 := hide (Ht5.out.trans (Tch.of_below (S := [k, kb, kp]) b6))
  have hB6 := Nat.le_trans HB5.out b6.size
  have hg : w5.heap.size ∉ [k, kb, kp] := off_three Hi3.out HB5.out
  have hs6 : w5.heap.size ≤ (w5.alloc (.cells #[.slice A3 m3 c3] 65)).heap.size := b6.size
  clear hm3 hl3 hd5 ht5 Fb H3 c0 Hb3 HB3 Ht5 b6
  go_wp2_with fail
  (with_reducible refine (makeErase_any A3 m3 c3 _).mono ?_)
  rintro e w6 ⟨rfl, hw6⟩
  rw [hw6] at h6 hl6 hc6 hB6 hs6 Ht6
  generalize w5.heap.size = g at *
  clear hw6
  have c1 := h6.c1
  rw [show D.begun.g.p = (D.np : Int) from S6.out] at c1
  have Hg := hide hg
  have H6 := hide h6
  have Hl6 := hide hl6
  have Hc6 := hide hc6
  have HB6 := hide hB6
  have Hs6 := hide hs6
  clear h6 hl6 hc6 hB6 hs6 hg HB5
  go_wp2
  clear c1
  go_loopw [41] (fun i wr => ∃ j : Nat, j ≤ D.np ∧ i = .int .i64 (j : Int) ∧ DevAt wr B0 B { D.begun with pg := D.erpg x j D.mask } k kb kp km ∧ Tch [k, kb, kp] w6 wr) (fun i _ => D.np - (intOf i).toNat)
  case atStart =>
    refine ⟨0, Nat.zero_le _, rfl, ?_, Tch.refl _ _⟩
    rw [Dv.erpg_zero]
    exact H6.out
  case round =>
    obtain ⟨j, hj, rfl, hd, ht⟩ := hrel
    have Hd := hide hd
    have Ht := hide ht
    have hBr := Nat.le_trans HB6.out ht.size
    by_cases hlt : j < D.np
    · have hlt' : (j : Int) < (D.np : Int) := by omega
      have Fy : Hid (Calls Try.prog 49 #[.pointer (some ⟨k, 0, none⟩), .agg #[.int .i64 (x : Int), .int .i64 (j : Int)]] wr fun e w' => e = .returned (.slice (some ⟨kp, (x * D.np + j) * 256, none⟩) 256 256) ∧ Below wr.heap.size wr w') := hide (bytes_any hd hBr x j Hx.out hlt)
      have e1 : wrap64 ((j : Int) + 1) = ((j + 1 : Nat) : Int) := by rw [i64w (by omega)]; rfl
      have HBr := hide hBr
      clear hd ht hBr
      go_wp2_with fail
      (with_reducible refine Fy.out.mono ?_)
      rintro e w7 ⟨rfl, hb⟩
      have h7 := Hd.out.below (hb.mono HBr.out)
      have t7 := Ht.out.trans (Tch.of_below (S := [k, kb, kp]) hb)
      have Fz := hide (doErase_any h7 (Nat.le_trans HBr.out hb.size) (x * D.np + j) (lt_mul Hx.out hlt) g g A3 m3 c3 D.mask (Nat.le_trans Hs6.out t7.size) (DevAt.tch_cell t7 Hg.out Hc6.out) (H6.out.lies_tch Hs6.out Hl6.out t7).lies Hm3.out)
      have T7 := hide t7
      clear h7 t7 hb Fy
      go_wp2_with fail
      (with_reducible refine Fz.out.mono ?_)
      rintro e w8 ⟨rfl, hd8, ht8⟩
      have Hd8 := hide hd8
      have Ht8 := hide (T7.out.trans ht8)
      clear hd8 ht8 Fz T7
      go_wp2
      refine ⟨⟨j + 1, hlt, rfl, ?_, Ht8.out⟩, by simp [intOf]; omega⟩
      have := Hd8.out
      rw [← Dv.erpg_next]
      exact this
    · obtain rfl : j = D.np := by omega
      have hwe := Hwe.out
      have hops := Hops.out
      have c2 : wr.cell? ⟨kb, x * 3 + 2, none⟩ = some (.int .i64 (D.we x : Int)) := hd.b2 (i := x) Hx.out
      have c1 : wr.cell? ⟨kb, x * 3 + 1, none⟩ = some (.int .i64 (D.nx x : Int)) := hd.b1 (i := x) Hx.out
      have f2 := hd.blocks.free (x * 3 + 2)
      have f1 := hd.blocks.free (x * 3 + 1)
      have cp : wr.cell? ⟨k, 1, none⟩ = some (.int .i64 (D.np : Int)) := by rw [hd.c1]; exact congrArg (fun z => some (Value.int .i64 z)) S6.out
      have nk := hd.ne.1
      have e1 : wrap64 ((D.we x : Int) + 1) = ((D.we x + 1 : Nat) : Int) := by rw [i64w (by omega)]; rfl
      have d1 := hd.set_wear hBr x (D.we x + 1) (show D.we x + 1 ≤ D.ops + 1 by omega)
      have hB1 : B ≤ (wr.setCell ⟨kb, x * 3 + 2, none⟩ (.int .i64 ((D.we x + 1 : Nat) : Int))).heap.size := by simpa [World.setCell] using hBr
      have d2 := fun n (hn : n ≤ D.np) => d1.set_next hB1 x n hn
      have t1 : Tch [k, kb, kp] wr (wr.setCell ⟨kb, x * 3 + 2, none⟩ (.int .i64 ((D.we x + 1 : Nat) : Int))) := Tch.set (by simp) _
      have t2 := fun (n : Nat) => Ht6.out.trans (ht.trans (t1.trans (Tch.set (p := ⟨kb, x * 3 + 1, none⟩) (by simp) (.int .i64 (n : Int)))))
      have hB2 : B ≤ ((wr.setCell ⟨kb, x * 3 + 2, none⟩ (.int .i64 ((D.we x + 1 : Nat) : Int))).setCell ⟨kb, x * 3 + 1, none⟩ (.int .i64 0)).heap.size := by simpa [World.setCell] using hBr
      have d3 := (d2 0 (Nat.zero_le _)).set_next hB2 x D.np (Nat.le_refl _)
      rw [show (upd ({ D.begun with pg := D.erpg x D.np D.mask } : Dv).nx x 0) = upd D.nx x 0 from rfl] at d3
      rw [upd_upd] at d3
      have D3 := hide d3
      have T3 := hide ((t2 0).trans (Tch.set (p := ⟨kb, x * 3 + 1, none⟩) (by simp) (.int .i64 (D.np : Int))))
      have D2 := hide d2
      have T2 := hide t2
      have Heq := hide (fun n (hn : n = if D.err = 0 then 0 else D.np) => show ({ D.begun with pg := D.erpg x D.np D.mask, we := upd D.we x (D.we x + 1), nx := upd D.nx x n } : Dv) = D.erased x by subst hn; rfl)
      clear hd ht hBr d1 d2 d3 hB1 hB2 t1 t2 hwe hops H6 Ht6
      by_cases he : D.err = 0
      · rw [he]
        have he0 := Heq.out 0 (by rw [if_pos he])
        have He0 := hide he0
        have Hz := hide he
        clear he0 he Heq
        go_wp2
        go_ret
        refine ⟨gret_int Hz.out.symm, ?_, T2.out 0⟩
        rw [← He0.out]
        exact D2.out 0 (Nat.zero_le _)
      · have he1 : (D.err != 0) = true := bne_iff_ne.2 he
        have He0 := hide (Heq.out D.np (by rw [if_neg he]))
        clear he Heq
        go_wp2
        go_ret
        refine ⟨rfl, ?_, T3.out⟩
        rw [← He0.out]
        exact D3.out
end
end
section
open Go.RowKit

theorem i64wR {n : Int} (h : -9223372036854775808 ≤ n ∧ n ≤ 9223372036854775807) : wrap64 n = n := by unfold wrap64; omega

theorem sub_and : ∀ o : Fin 256, ∀ x : Fin 256, o.val - (o.val &&& x.val) = o.val &&& (255 - x.val) := by decide +kernel
theorem part_byte (o b m : UInt8) : o.toNat - ((o.toNat &&& m.toNat) &&& (255 - b.toNat)) = (mixB o (o &&& b) m).toNat := by
  have h1 := sub_and ⟨o.toNat, o.toNat_lt⟩ ⟨m.toNat &&& (255 - b.toNat), Nat.lt_of_le_of_lt Nat.and_le_left m.toNat_lt⟩
  simp only at h1
  rw [Nat.and_assoc, h1, mixB_toNat, UInt8.toNat_and]
  have hx : m.toNat &&& (255 - b.toNat) < 256 := Nat.lt_of_le_of_lt Nat.and_le_left m.toNat_lt
  have nt : ∀ y : Nat, y < 256 → ∀ k, k < 8 → (255 - y).testBit k = !y.testBit k := by
    intro y hy k hk
    have := Nat.testBit_two_pow_sub_succ (show y < 2 ^ 8 from hy) k
    rw [show 2 ^ 8 - (y + 1) = 255 - y by omega] at this
    rw [this]; simp [hk]
  apply Nat.eq_of_testBit_eq
  intro k
  by_cases hk : k < 8
  · rw [Nat.testBit_and, nt _ hx k hk, Nat.testBit_and, nt _ b.toNat_lt k hk, Nat.testBit_or, Nat.testBit_and, nt _ m.toNat_lt k hk, Nat.testBit_and, Nat.testBit_and]
    cases o.toNat.testBit k <;> cases m.toNat.testBit k <;> cases b.toNat.testBit k <;> rfl
  · have ho : o.toNat.testBit k = false := Nat.testBit_lt_two_pow (Nat.lt_of_lt_of_le o.toNat_lt (Nat.pow_le_pow_right (by omega) (show 8 ≤ k by omega)))
    rw [Nat.testBit_and, Nat.testBit_or, Nat.testBit_and, Nat.testBit_and, Nat.testBit_and, ho]
    rfl
theorem wipe_byte (o m : UInt8) : o.toNat ||| m.toNat = (mixB o 255 m).toNat := by
  apply Nat.eq_of_testBit_eq
  intro k
  by_cases hk : k < 8
  · rw [mixB_test _ _ _ _ hk, Nat.testBit_or]
    have : (255 : UInt8).toNat.testBit k = true := by rw [← bitN_test, show (255 : UInt8).toNat = 255 from rfl, bits_255 k hk]; rfl
    rw [this]
    cases o.toNat.testBit k <;> cases m.toNat.testBit k <;> rfl
  · have h : ∀ z : UInt8, z.toNat.testBit k = false := fun z => Nat.testBit_lt_two_pow (Nat.lt_of_lt_of_le z.toNat_lt (Nat.pow_le_pow_right (by omega) (show 8 ≤ k by omega)))
    rw [Nat.testBit_or, h, h, h]
    rfl
/-- The numbers of a byte that is programmed. -/
theorem part_nums (o b m : UInt8) : ∃ p q r : Nat, bits .and .u8 (o.toNat : Int) (m.toNat : Int) = (p : Int) ∧ IntKind.u8.wrap (255 - (b.toNat : Int)) = (q : Int) ∧ bits .and .u8 (p : Int) (q : Int) = (r : Int) ∧ IntKind.u8.wrap ((o.toNat : Int) - (r : Int)) = ((mixB o (o &&& b) m).toNat : Int) := by
  have ho := o.toNat_lt
  have hb := b.toNat_lt
  have hm := m.toNat_lt
  have hp : o.toNat &&& m.toNat < 256 := Nat.lt_of_le_of_lt Nat.and_le_left ho
  have hr : (o.toNat &&& m.toNat) &&& (255 - b.toNat) ≤ o.toNat := Nat.le_trans Nat.and_le_left Nat.and_le_left
  refine ⟨o.toNat &&& m.toNat, 255 - b.toNat, (o.toNat &&& m.toNat) &&& (255 - b.toNat), u8_and_nat _ _ ho hm, ?_, u8_and_nat _ _ hp (by omega), ?_⟩
  · rw [IntKind.wrap_u8']; omega
  · rw [← part_byte, IntKind.wrap_u8']; omega
theorem wipe_nums (o m : UInt8) : bits .or .u8 (o.toNat : Int) (m.toNat : Int) = ((mixB o 255 m).toNat : Int) := by
  rw [u8_or_nat _ _ o.toNat_lt m.toNat_lt, wipe_byte]

/-- A mask's byte, told by two cases. -/
theorem maskB_pos {m : List UInt8} (h : 0 < m.length) (p : Nat) : maskB m p = m.getD (p % m.length) 0 := by unfold maskB; rw [if_neg (by omega)]
/-- Of a mask's bytes no more than 256 are looked at. -/
theorem maskB_take (m : List UInt8) (p : Nat) (hp : p < 256) : maskB (m.take 256) p = maskB m p := by
  by_cases h : m.length ≤ 256
  · rw [List.take_of_length_le h]
  · unfold maskB
    rw [List.length_take, if_neg (by omega), if_neg (by omega), show min 256 m.length = 256 by omega, Nat.mod_eq_of_lt hp, Nat.mod_eq_of_lt (show p < m.length by omega)]
    simp [List.getD, List.getElem?_take, hp]
theorem progL_take (old b m : List UInt8) (h : old.length = 256) : progL old b (m.take 256) = progL old b m := by
  unfold progL
  refine List.map_congr_left fun p hp => ?_
  have := List.mem_range.1 hp
  unfold progB
  rw [maskB_take m p (by omega)]
theorem erasL_take (old m : List UInt8) (h : old.length = 256) : erasL old (m.take 256) = erasL old m := by
  unfold erasL
  refine List.map_congr_left fun p hp => ?_
  have := List.mem_range.1 hp
  unfold erasB
  rw [maskB_take m p (by omega)]

set_option maxRecDepth 4000 in
set_option maxHeartbeats 800000 in
theorem wipe_any (A1 A3 : Option Addr) (n1 c1 n3 c3 B : Nat) (o m : List UInt8) (w : World) (h1 : Lies w B A1 (bys o)) (e1 : n1 = o.length) (h3 : Lies w B A3 (bys m)) (e3 : n3 = m.length) (hB : B ≤ w.heap.size) (hbig : n1 ≤ 1000000) (hbig3 : n3 ≤ 1000000) :
    Calls Try.prog 55 #[.slice A1 n1 c1, .slice A3 n3 c3] w fun e w' => ∃ A' c', e = .returned (.slice A' n1 c') ∧
      w'.ownsRow w.heap.size 5 1 (.slice A' n1 c') n1 (bys (erasL o m)) ∧ Below w.heap.size w w' := by
  have H1 := hide h1
  have E1 := hide e1
  have H3 := hide h3
  have E3 := hide e3
  clear h1 e1 h3 e3
  go_enter Try.func55, Try.ntmps55
  go_wp2
  go_loopw [5, 6] (fun out i wr => ∃ j : Nat, j ≤ n1 ∧ i = .int .i64 (j : Int) ∧ ∃ A c, out = .slice A j c ∧
      wr.ownsRow w.heap.size 5 1 (.slice A j c) j (bys ((List.range j).map (erasB o m))) ∧ Below w.heap.size w wr) (fun _ i _ => n1 - (intOf i).toNat)
  case atStart => exact ⟨0, Nat.zero_le _, rfl, none, 0, rfl, World.ownsRow_nil _ _ _ _, Below.refl _ _⟩
  case round =>
    obtain ⟨j, hj, rfl, A0, c0, rfl, ho, hb⟩ := hrel
    have Ho := hide ho
    have Hb := hide hb
    clear ho
    have hsz := hb.size
    by_cases hlt : j < n1
    · have hlt' : (j : Int) < (n1 : Int) := by omega
      have e1 : wrap64 ((j : Int) + 1) = ((j + 1 : Nat) : Int) := by rw [i64wR (by omega)]; rfl
      obtain ⟨a, rfl, _, hca⟩ := (H1.out.below (hb.mono hB)).byte (k := j) (by rw [← E1.out]; exact hlt)
      have hx : erasB o m j = mixB (o.getD j 0) 255 (maskB m j) := rfl
      have hw := wipe_nums (o.getD j 0) (maskB m j)
      rw [← hx] at hw
      generalize o.getD j 0 = ob at *
      by_cases h0 : n3 = 0
      · subst h0
        have hm0 : maskB m j = 0 := by rw [List.eq_nil_of_length_eq_zero E3.out.symm]; rfl
        rw [hm0] at hw
        generalize hz : (erasB o m j).toNat = z at hw
        generalize ob.toNat = oi at *
        have Hz := hide hz
        have hw' : bits .or .u8 (oi : Int) 0 = (z : Int) := hw
        clear hb hz hx hm0 hw
        go_wp2_with (at_builtin; refine wpl_app _ rfl u8elems (.tmp 24) (.tmp 31) rfl w.heap.size (.slice A0 j c0) j _ rfl (Ho.out.alloc _) (wr.heap.size + 1) (some ⟨wr.heap.size, 0, none⟩) 1 1 _ rfl (by rfl) (Lies.new wr _ _ _ _ (by omega)) (by simp [Value.oneCell']) (by unfold maxLen; omega) (by omega) (by simp; omega) ?_; intro A4 c4 w1 hown1 hg1 hat1; have Ho1 := hide hown1; have Hb1 := hide hg1; clear hown1 hg1 hat1)
        have hb1 : Below w.heap.size w w1 := (Hb.out.alloc hsz _).grown Hb1.out (by simp; omega) (fun g hg => (Ho.out.lt g hg).1)
        refine ⟨⟨j + 1, by omega, by go_num, A4, c4, rfl, ?_, hb1⟩, by simp [intOf]; omega⟩
        have h3 := Ho1.out
        rw [bys_snoc, Hz.out]
        exact h3
      · have hpos : (0 : Int) < (n3 : Int) := by omega
        have hne : ((n3 : Int) == 0) = false := by rw [beq_eq_false_iff_ne]; omega
        obtain ⟨k, hk, hk8⟩ : ∃ k, k = j % n3 ∧ k < n3 := ⟨_, rfl, Nat.mod_lt _ (by omega)⟩
        have e2 : (j : Int) % (n3 : Int) = (k : Int) := by rw [hk]; simp
        obtain ⟨a3, rfl, _, hcm⟩ := (H3.out.below (hb.mono hB)).byte (k := k) (by rw [← E3.out]; exact hk8)
        have hmk : maskB m j = m.getD k 0 := by rw [maskB_pos (by rw [← E3.out]; omega), hk, E3.out]
        rw [hmk] at hw
        generalize m.getD k 0 = mb at *
        have hkk : (k : Int) < (n3 : Int) := by omega
        generalize hz : (erasB o m j).toNat = z at hw
        generalize ob.toNat = oi at *
        generalize mb.toNat = mi at *
        have Hz := hide hz
        clear hb hz hx hmk hk h0
        go_wp2_with (at_builtin; refine wpl_app _ rfl u8elems (.tmp 24) (.tmp 31) rfl w.heap.size (.slice A0 j c0) j _ rfl (Ho.out.alloc _) (wr.heap.size + 1) (some ⟨wr.heap.size, 0, none⟩) 1 1 _ rfl (by rfl) (Lies.new wr _ _ _ _ (by omega)) (by simp [Value.oneCell']) (by unfold maxLen; omega) (by omega) (by simp; omega) ?_; intro A4 c4 w1 hown1 hg1 hat1; have Ho1 := hide hown1; have Hb1 := hide hg1; clear hown1 hg1 hat1)
        have hb1 : Below w.heap.size w w1 := (Hb.out.alloc hsz _).grown Hb1.out (by simp; omega) (fun g hg => (Ho.out.lt g hg).1)
        refine ⟨⟨j + 1, by omega, by go_num, A4, c4, rfl, ?_, hb1⟩, by simp [intOf]; omega⟩
        have h3 := Ho1.out
        rw [bys_snoc, Hz.out]
        exact h3
    · obtain rfl : j = n1 := by omega
      go_wp2
      go_ret
      exact ⟨A0, c0, rfl, by unfold erasL; rw [← E1.out]; exact Ho.out, Hb.out⟩
end
section
open Go.RowKit

theorem measR {K Z2 : Nat} (h : K < Z2) : Z2 - (intOf (.int .i64 ((K + 1 : Nat) : Int))).toNat < Z2 - (intOf (.int .i64 (K : Int))).toNat := by
  show Z2 - ((K + 1 : Nat) : Int).toNat < Z2 - (K : Int).toNat
  omega
set_option maxRecDepth 4000 in
set_option maxHeartbeats 2000000 in
theorem part_any (A1 A2 A3 : Option Addr) (n1 c1 c2 n3 c3 B : Nat) (o b m : List UInt8) (w : World) (h1 : Lies w B A1 (bys o)) (e1 : n1 = o.length) (h2 : Lies w B A2 (bys b)) (e2 : n1 = b.length) (h3 : Lies w B A3 (bys m)) (e3 : n3 = m.length) (hB : B ≤ w.heap.size) (hbig : n1 ≤ 1000000) (hbig3 : n3 ≤ 1000000) :
    Calls Try.prog 59 #[.slice A1 n1 c1, .slice A2 n1 c2, .slice A3 n3 c3] w fun e w' => ∃ A' c', e = .returned (.slice A' n1 c') ∧
      w'.ownsRow w.heap.size 5 1 (.slice A' n1 c') n1 (bys (progL o b m)) ∧ Below w.heap.size w w' := by
  have H1 := hide h1
  have E1 := hide e1
  have H2 := hide h2
  have E2 := hide e2
  have H3 := hide h3
  have E3 := hide e3
  clear h1 e1 h2 e2 h3 e3
  go_enter Try.func59, Try.ntmps59
  go_wp2
  go_loopw [7, 8] (fun out i wr => ∃ j : Nat, j ≤ n1 ∧ i = .int .i64 (j : Int) ∧ ∃ A c, out = .slice A j c ∧
      wr.ownsRow w.heap.size 5 1 (.slice A j c) j (bys ((List.range j).map (progB o b m))) ∧ Below w.heap.size w wr) (fun _ i _ => n1 - (intOf i).toNat)
  case atStart => exact ⟨0, Nat.zero_le _, rfl, none, 0, rfl, World.ownsRow_nil _ _ _ _, Below.refl _ _⟩
  case round =>
    obtain ⟨j, hj, rfl, A0, c0, rfl, ho, hb⟩ := hrel
    have Ho := hide ho
    have Hb := hide hb
    clear ho
    have hsz := hb.size
    by_cases hlt : j < n1
    · have hlt' : (j : Int) < (n1 : Int) := by omega
      have e1 : wrap64 ((j : Int) + 1) = ((j + 1 : Nat) : Int) := by rw [i64wR (by omega)]; rfl
      obtain ⟨a, rfl, hab, hca⟩ := (H1.out.below (hb.mono hB)).byte (k := j) (by rw [← E1.out]; exact hlt)
      obtain ⟨a2, rfl, hab2, hcb⟩ := (H2.out.below (hb.mono hB)).byte (k := j) (by rw [← E2.out]; exact hlt)
      have hx : progB o b m j = mixB (o.getD j 0) (o.getD j 0 &&& b.getD j 0) (maskB m j) := by unfold progB; rw [if_pos (by rw [← E2.out]; exact hlt)]
      obtain ⟨p, q, r, k1, k2, k3, k4⟩ := part_nums (o.getD j 0) (b.getD j 0) (maskB m j)
      rw [← hx] at k4
      obtain ⟨mi, hmi⟩ : ∃ mi, mi = (maskB m j).toNat := ⟨_, rfl⟩
      have Hmi := hide hmi
      rw [← hmi] at k1
      generalize hz : (progB o b m j).toNat = z at k4
      have Hz := hide hz
      generalize (o.getD j 0).toNat = oi at *
      generalize (b.getD j 0).toNat = bi at *
      have habB := Nat.lt_of_lt_of_le hab hB
      have hab2B := Nat.lt_of_lt_of_le hab2 hB
      have Ka := hide (And.intro hca habB)
      have Kb := hide (And.intro hcb hab2B)
      have K1 := hide k1
      have K2 := hide k2
      have K3 := hide k3
      have K4 := hide k4
      clear hx hmi hz hab hab2 hca hcb habB hab2B k1 k2 k3 k4
      go_upto_if 18 with fail
      go_cut [9] (fun s9 wx => wx = wr ∧ s9 = .int .u8 (mi : Int))
      case first =>
        by_cases h0 : n3 = 0
        · subst h0
          have hm0 : mi = 0 := by rw [Hmi.out, List.eq_nil_of_length_eq_zero E3.out.symm]; rfl
          subst hm0
          clear hb hlt
          go_wp2
          go_meet
          exact ⟨rfl, rfl⟩
        · have hpos : (0 : Int) < (n3 : Int) := by omega
          have hne : ((n3 : Int) == 0) = false := by rw [beq_eq_false_iff_ne]; omega
          obtain ⟨k, hk, hk8⟩ : ∃ k, k = j % n3 ∧ k < n3 := ⟨_, rfl, Nat.mod_lt _ (by omega)⟩
          have e2 : (j : Int) % (n3 : Int) = (k : Int) := by rw [hk]; simp
          obtain ⟨a3, rfl, _, hcm⟩ := (H3.out.below (hb.mono hB)).byte (k := k) (by rw [← E3.out]; exact hk8)
          have hmk : mi = (m.getD k 0).toNat := by rw [Hmi.out, maskB_pos (by rw [← E3.out]; omega), hk, E3.out]
          rw [← hmk] at hcm
          have hkk : (k : Int) < (n3 : Int) := by omega
          clear hb hmk hk h0 hlt
          go_wp2
          go_meet
          exact ⟨rfl, rfl⟩
      case rest =>
        obtain ⟨rfl, rfl⟩ := hcut
        have k1 := K1.out
        have k2 := K2.out
        have k3 := K3.out
        have k4 := K4.out
        have Hj := hide (And.intro hlt hbig)
        have HszB := hide hsz
        clear hb hlt hsz
        go_upto_region 8 with fail
        have hj := Hj.out
        have ca := Ka.out.1
        have cb := Kb.out.1
        go_region_law (refine step_app _ rfl u8elems (.tmp 26) (.tmp 44) rfl w.heap.size (.slice A0 j c0) j _ (by simp [Act.eval]) ((Ho.out.alloc _).drew) (wc.heap.size + 1) (some ⟨wc.heap.size, 0, none⟩) 1 1 _ (by simp [Act.eval]) (by rfl) ((Lies.new wc _ _ _ _ (by omega)).drew) (by simp [Value.oneCell']) (by unfold maxLen; omega) (by omega) (by have := HszB.out; simp; omega) ?_; intro A4 c4 w1 hown1 hg1 hat1; have Ho1 := hide hown1; have Hb1 := hide hg1; clear hown1 hg1 hat1)
        all_goals
          go_wp2
          have hb1 : Below w.heap.size w w1 := (((Hb.out.alloc HszB.out _).drew).grown Hb1.out (by have := HszB.out; simp; omega) (fun g hg => (Ho.out.lt g hg).1))
          refine ⟨⟨j + 1, Nat.succ_le_of_lt Hj.out.1, by go_num, A4, c4, rfl, ?_, hb1⟩, by have := Hj.out.1; simp [intOf]; omega⟩
          have h3 := Ho1.out
          rw [bys_snoc, Hz.out]
          exact h3
    · obtain rfl : j = n1 := by omega
      go_wp2
      go_ret
      exact ⟨A0, c0, rfl, by unfold progL; rw [← E1.out]; exact Ho.out, Hb.out⟩
end
end Go.Proofs.Ytahipfmokbiklaa
