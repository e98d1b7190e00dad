/-
  CONTRACTS of package nand: Erase.
-/
import Derived.Test.YtigpplckddnghaaDev6
namespace Go.Proofs.Ytigpplckddnghaa
open Go.RowKit

section
variable {w : World} {B0 B : Nat} {D : Dv} {k kb kp km : Nat}
theorem erase_bad0 (v : Value) (x : Int) (e0 : Int) (hc : e0 ≠ 0)
    (hp : Calls Try.prog 37 #[v, .agg #[.int .i64 x, .int .i64 0]] w fun e w' => e = .returned (.tuple #[.slice none 0 0, .int .i64 e0]) ∧ Below w.heap.size w w') :
    Calls Try.prog 25 #[v, .int .i64 x] w fun e w' => e = .returned (.int .i64 e0) ∧ Below w.heap.size w w' := by
  have Hp := hide hp
  have hc2 : (e0 != 0) = true := bne_iff_ne.2 hc
  clear hp
  go_enter Try.func25, Try.ntmps25
  go_wp2_with fail
  (with_reducible refine Hp.out.mono ?_)
  rintro e w3 ⟨rfl, hb⟩
  have Hb3 := hide hb
  clear hb Hp
  go_wp2
  go_ret
  exact ⟨rfl, Hb3.out⟩
theorem era_down (h : DevAt w B0 B D k kb kp km) (hB : B ≤ w.heap.size) (x : Int) (hd : D.dn = true) :
    Calls Try.prog 25 #[.pointer (some ⟨k, 0, none⟩), .int .i64 x] w fun e w' => e = .returned (.int .i64 9) ∧ Below w.heap.size w w' :=
  erase_bad0 _ x 9 (by decide) (page_down h hB x 0 hd)
theorem era_out (h : DevAt w B0 B D k kb kp km) (hB : B ≤ w.heap.size) (x : Int) (hd : D.dn = false) (hx : ¬ (0 ≤ x ∧ x < (D.nb : Int))) :
    Calls Try.prog 25 #[.pointer (some ⟨k, 0, none⟩), .int .i64 x] w fun e w' => e = .returned (.int .i64 3) ∧ Below w.heap.size w w' :=
  erase_bad0 _ x 3 (by decide) (page_out h hB x 0 hd (by have := h.sides.2.2.2.2.1; unfold Gm.Has; omega))
theorem era_marked (h : DevAt w B0 B D k kb kp km) (hB : B ≤ w.heap.size) (x : Nat) (hd : D.dn = false) (hx : x < D.nb) (hm : D.bad x = true) :
    Calls Try.prog 25 #[.pointer (some ⟨k, 0, none⟩), .int .i64 (x : Int)] w fun e w' => e = .returned (.int .i64 12) ∧ Below w.heap.size w w' := by
  have hp0 := page_ok h hB x 0 hd hx (by have := h.sides.2.2.1; omega)
  rw [show ((0 : Nat) : Int) = 0 from rfl] at hp0
  have Hp := hide hp0
  have HB := hide hB
  have H1 := hide h
  have Hx := hide hx
  have Hm := hide hm
  clear h hB hd hx hm hp0
  go_enter Try.func25, Try.ntmps25
  go_wp2_with fail
  (with_reducible refine Hp.out.mono ?_)
  rintro e w3 ⟨rfl, hb⟩
  have Hb3 := hide hb
  have h3 := H1.out.below (hb.mono HB.out)
  have fb := block_some h3 x Hx.out
  have c0 := h3.b0 Hx.out
  rw [Hm.out] at c0
  clear hb Hp H1 h3
  go_wp2_with (go_at_call 18; (with_reducible refine fb.mono ?_); rintro e w2 ⟨rfl, rfl⟩; clear fb)
  go_ret
  exact ⟨rfl, Hb3.out⟩

set_option maxRecDepth 4000 in
set_option maxHeartbeats 2000000 in
theorem era_ok (h : DevAt w B0 B D k kb kp km) (hB : B ≤ w.heap.size) (x : Nat) (hd : D.dn = false) (hx : x < D.nb) (hm : D.bad x = false) (hops : D.ops < 1000000) :
    Calls Try.prog 25 #[.pointer (some ⟨k, 0, none⟩), .int .i64 (x : Int)] w fun e w' => e = .returned (.int .i64 D.err) ∧ DevAt w' B0 B (D.erased x) k kb kp km ∧ Tch [k, kb, kp] w w' := by
  have hp0 := page_ok h hB x 0 hd hx (by have := h.sides.2.2.1; omega)
  rw [show ((0 : Nat) : Int) = 0 from rfl] at hp0
  obtain ⟨s1, s2, s3, s4, s5, s6⟩ := h.sides
  have Hi3 := hide h.hi
  have Hp := hide hp0
  have HB := hide hB
  have H1 := hide h
  have Hx := hide hx
  have Hm := hide hm
  have Hops := hide hops
  have Hwe := hide (h.wear x hx)
  have S5 := hide s5
  have S6 := hide s6
  have hnp : D.np ≤ 32 := s4
  clear h hB hd hx hm hp0 hops s1 s2 s3 s4 s5 s6
  go_enter Try.func25, Try.ntmps25
  go_wp2_with fail
  (with_reducible refine Hp.out.mono ?_)
  rintro e w3 ⟨rfl, hb⟩
  have Hb3 := hide hb
  have h3 := H1.out.below (hb.mono HB.out)
  have fb := block_some h3 x Hx.out
  have c0 := h3.b0 Hx.out
  rw [Hm.out] at c0
  have HB3 := hide (Nat.le_trans HB.out hb.size)
  have Fb := hide (begin_any h3 HB3.out Hops.out)
  have H3 := hide h3
  clear hb Hp H1 h3
  go_wp2_with (go_at_call 18; (with_reducible refine fb.mono ?_); rintro e w2 ⟨rfl, rfl⟩; clear fb)
  (with_reducible refine Fb.out.mono ?_)
  rintro e w5 ⟨A3, m3, c3, rfl, hm3, hl3, hd5, ht5⟩
  have HB5 := hide (Nat.le_trans HB3.out ht5.size)
  have Ht5 := hide ((Tch.of_below (S := [k, kb, kp]) Hb3.out).trans ht5)
  have Hm3 := hide hm3
  have b6 := (Below.refl w5.heap.size w5).alloc (Nat.le_refl _) (.cells #[.slice A3 m3 c3] 46)
  have h6 := hd5.below (b6.mono HB5.out)
  have hl6 := hl3.kept (w' := w5.alloc (.cells #[.slice A3 m3 c3] 46)) (fun q hq _ => b6.block q hq)
  have hc6 : (w5.alloc (.cells #[.slice A3 m3 c3] 46)).cell? ⟨w5.heap.size, 0, none⟩ = some (.slice A3 m3 c3) := by simp
  have Ht6 := hide (Ht5.out.trans (Tch.of_below (S := [k, kb, kp]) b6))
  have hB6 := Nat.le_trans HB5.out b6.size
  have hg : w5.heap.size ∉ [k, kb, kp] := off_three Hi3.out HB5.out
  have hs6 : w5.heap.size ≤ (w5.alloc (.cells #[.slice A3 m3 c3] 46)).heap.size := b6.size
  clear hm3 hl3 hd5 ht5 Fb H3 c0 Hb3 HB3 Ht5 b6
  go_wp2_with fail
  (with_reducible refine (makeErase_any A3 m3 c3 _).mono ?_)
  rintro e w6 ⟨rfl, hw6⟩
  rw [hw6] at h6 hl6 hc6 hB6 hs6 Ht6
  generalize w5.heap.size = g at *
  clear hw6
  have c1 := h6.c1
  rw [show D.begun.g.p = (D.np : Int) from S6.out] at c1
  have Hg := hide hg
  have H6 := hide h6
  have Hl6 := hide hl6
  have Hc6 := hide hc6
  have HB6 := hide hB6
  have Hs6 := hide hs6
  clear h6 hl6 hc6 hB6 hs6 hg HB5
  go_wp2
  clear c1
  go_loopw [41] (fun i wr => ∃ j : Nat, j ≤ D.np ∧ i = .int .i64 (j : Int) ∧ DevAt wr B0 B { D.begun with pg := D.erpg x j D.mask } k kb kp km ∧ Tch [k, kb, kp] w6 wr) (fun i _ => D.np - (intOf i).toNat)
  case atStart =>
    refine ⟨0, Nat.zero_le _, rfl, ?_, Tch.refl _ _⟩
    rw [Dv.erpg_zero]
    exact H6.out
  case round =>
    obtain ⟨j, hj, rfl, hd, ht⟩ := hrel
    have Hd := hide hd
    have Ht := hide ht
    have hBr := Nat.le_trans HB6.out ht.size
    by_cases hlt : j < D.np
    · have hlt' : (j : Int) < (D.np : Int) := by omega
      have Fy : Hid (Calls Try.prog 40 #[.pointer (some ⟨k, 0, none⟩), .agg #[.int .i64 (x : Int), .int .i64 (j : Int)]] wr fun e w' => e = .returned (.slice (some ⟨kp, (x * D.np + j) * 256, none⟩) 256 256) ∧ Below wr.heap.size wr w') := hide (bytes_any hd hBr x j Hx.out hlt)
      have e1 : wrap64 ((j : Int) + 1) = ((j + 1 : Nat) : Int) := by rw [i64w (by omega)]; rfl
      have HBr := hide hBr
      clear hd ht hBr
      go_wp2_with fail
      (with_reducible refine Fy.out.mono ?_)
      rintro e w7 ⟨rfl, hb⟩
      have h7 := Hd.out.below (hb.mono HBr.out)
      have t7 := Ht.out.trans (Tch.of_below (S := [k, kb, kp]) hb)
      have Fz := hide (doErase_any h7 (Nat.le_trans HBr.out hb.size) (x * D.np + j) (lt_mul Hx.out hlt) g g A3 m3 c3 D.mask (Nat.le_trans Hs6.out t7.size) (DevAt.tch_cell t7 Hg.out Hc6.out) (H6.out.lies_tch Hs6.out Hl6.out t7).lies Hm3.out)
      have T7 := hide t7
      clear h7 t7 hb Fy
      go_wp2_with fail
      (with_reducible refine Fz.out.mono ?_)
      rintro e w8 ⟨rfl, hd8, ht8⟩
      have Hd8 := hide hd8
      have Ht8 := hide (T7.out.trans ht8)
      clear hd8 ht8 Fz T7
      go_wp2
      refine ⟨⟨j + 1, hlt, rfl, ?_, Ht8.out⟩, by simp [intOf]; omega⟩
      have := Hd8.out
      rw [← Dv.erpg_next]
      exact this
    · obtain rfl : j = D.np := by omega
      have hwe := Hwe.out
      have hops := Hops.out
      have c2 : wr.cell? ⟨kb, x * 3 + 2, none⟩ = some (.int .i64 (D.we x : Int)) := hd.b2 (i := x) Hx.out
      have c1 : wr.cell? ⟨kb, x * 3 + 1, none⟩ = some (.int .i64 (D.nx x : Int)) := hd.b1 (i := x) Hx.out
      have f2 := hd.blocks.free (x * 3 + 2)
      have f1 := hd.blocks.free (x * 3 + 1)
      have cp : wr.cell? ⟨k, 1, none⟩ = some (.int .i64 (D.np : Int)) := by rw [hd.c1]; exact congrArg (fun z => some (Value.int .i64 z)) S6.out
      have nk := hd.ne.1
      have e1 : wrap64 ((D.we x : Int) + 1) = ((D.we x + 1 : Nat) : Int) := by rw [i64w (by omega)]; rfl
      have d1 := hd.set_wear hBr x (D.we x + 1) (show D.we x + 1 ≤ D.ops + 1 by omega)
      have hB1 : B ≤ (wr.setCell ⟨kb, x * 3 + 2, none⟩ (.int .i64 ((D.we x + 1 : Nat) : Int))).heap.size := by simpa [World.setCell] using hBr
      have d2 := fun n (hn : n ≤ D.np) => d1.set_next hB1 x n hn
      have t1 : Tch [k, kb, kp] wr (wr.setCell ⟨kb, x * 3 + 2, none⟩ (.int .i64 ((D.we x + 1 : Nat) : Int))) := Tch.set (by simp) _
      have t2 := fun (n : Nat) => Ht6.out.trans (ht.trans (t1.trans (Tch.set (p := ⟨kb, x * 3 + 1, none⟩) (by simp) (.int .i64 (n : Int)))))
      have hB2 : B ≤ ((wr.setCell ⟨kb, x * 3 + 2, none⟩ (.int .i64 ((D.we x + 1 : Nat) : Int))).setCell ⟨kb, x * 3 + 1, none⟩ (.int .i64 0)).heap.size := by simpa [World.setCell] using hBr
      have d3 := (d2 0 (Nat.zero_le _)).set_next hB2 x D.np (Nat.le_refl _)
      rw [show (upd ({ D.begun with pg := D.erpg x D.np D.mask } : Dv).nx x 0) = upd D.nx x 0 from rfl] at d3
      rw [upd_upd] at d3
      have D3 := hide d3
      have T3 := hide ((t2 0).trans (Tch.set (p := ⟨kb, x * 3 + 1, none⟩) (by simp) (.int .i64 (D.np : Int))))
      have D2 := hide d2
      have T2 := hide t2
      have Heq := hide (fun n (hn : n = if D.err = 0 then 0 else D.np) => show ({ D.begun with pg := D.erpg x D.np D.mask, we := upd D.we x (D.we x + 1), nx := upd D.nx x n } : Dv) = D.erased x by subst hn; rfl)
      clear hd ht hBr d1 d2 d3 hB1 hB2 t1 t2 hwe hops H6 Ht6
      by_cases he : D.err = 0
      · rw [he]
        have he0 := Heq.out 0 (by rw [if_pos he])
        have He0 := hide he0
        have Hz := hide he
        clear he0 he Heq
        go_wp2
        go_ret
        refine ⟨gret_int Hz.out.symm, ?_, T2.out 0⟩
        rw [← He0.out]
        exact D2.out 0 (Nat.zero_le _)
      · have he1 : (D.err != 0) = true := bne_iff_ne.2 he
        have He0 := hide (Heq.out D.np (by rw [if_neg he]))
        clear he Heq
        go_wp2
        go_ret
        refine ⟨rfl, ?_, T3.out⟩
        rw [← He0.out]
        exact D3.out
end
end Go.Proofs.Ytigpplckddnghaa
