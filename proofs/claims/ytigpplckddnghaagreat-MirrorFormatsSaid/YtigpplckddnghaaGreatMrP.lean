/-
  CONTRACT of wagtailref17.Write. (By gen/MrC.gen.py.)
  CONTRACTS of package mirror: Write that writes nothing: no device, one that is down, a table that may not be.
  MirrorOne: its loop. (By gen/MrP.gen.py.)
-/
import Derived.Test.YtigpplckddnghaaGreatMrB
import Derived.Test.YtigpplckddnghaaGreatMrX
import Derived.Test.YtigpplckddnghaaGreatFlo4
import Derived.Test.YtigpplckddnghaaGreatMrQ
import Derived.Test.YtigpplckddnghaaGreatPlan
namespace Go.Proofs.YtigpplckddnghaaGreat
section
open Go.RowKit
set_option maxRecDepth 8000

theorem Dv.eraR_len (D : Dv) (x : Int) (i : Nat) : ((D.eraR x).2.pg i).length = (D.pg i).length := by
  unfold Dv.eraR
  split
  · rfl
  split
  · rfl
  split
  · rfl
  show (D.erpg x.toNat D.np D.mask i).length = _
  unfold Dv.erpg
  split
  · exact erasL_len _ _
  · rfl
theorem Dv.older_at (D : Dv) : (newP D.newest = 0 ∧ D.older = 1) ∨ (newP D.newest ≠ 0 ∧ D.older = 0) := by
  unfold Dv.older
  rcases D.newest with _ | ⟨u, b⟩
  · exact .inr ⟨by decide, rfl⟩
  · rcases b with _ | b
    · exact .inl ⟨rfl, rfl⟩
    · exact .inr ⟨by show ((b + 1 : Nat) : Int) ≠ 0; omega, rfl⟩
theorem lies_tchO {w w' : World} {S : List Nat} {B : Nat} {A : Option Addr} {xs : List Value} (h : Lies w B A xs) (hB : B ≤ w.heap.size) (ht : Tch S w w') (hk : xs = [] ∨ ∃ a, A = some a ∧ a.block ∉ S) : Lies w' B A xs := by
  rcases h with h | ⟨a, hA, hb, hc⟩
  · exact .inl h
  · rcases hk with h | ⟨a', hA', hk⟩
    · exact .inl h
    · rw [hA] at hA'; injection hA' with e; subst e
      refine .inr ⟨a, hA, hb, fun i v hv => ?_⟩
      have e : (a.add i).block = a.block := by unfold Addr.add; split <;> rfl
      exact (World.cell?_of_block (w := w) (a := a.add i) (by rw [e]; exact ht.block _ (Nat.lt_of_lt_of_le hb hB) hk)).trans (hc i v hv)
theorem Tl.Ok.tchO {x : Tl} {w w' : World} {S : List Nat} {B : Nat} (h : x.Ok w B) (hoff : ∀ k ∈ S, x.Off k) (ht : Tch S w w') (hB : B ≤ w.heap.size) : x.Ok w' B := by
  have key : ∀ {A : Option Addr} {l : List Int} {kd : IntKind}, Lies w B A (nums kd l) → (∀ k ∈ S, l = [] ∨ ∃ a, A = some a ∧ a.block ≠ k) → (nums kd l = [] ∨ ∃ a, A = some a ∧ a.block ∉ S) := fun {A l kd} hl h => by
    rcases hl with hl | ⟨a, hA, _⟩
    · exact .inl hl
    · by_cases h0 : l = []
      · subst h0; exact .inl rfl
      · refine .inr ⟨a, hA, fun hm => ?_⟩
        rcases h _ hm with h | ⟨a', h, h2⟩
        · exact h0 h
        · rw [hA] at h; injection h with h; subst h; exact h2 rfl
  exact ⟨lies_tchO h.l1 hB ht (key h.l1 fun k hk => (hoff k hk).1), lies_tchO h.l2 hB ht (key h.l2 fun k hk => (hoff k hk).2.1), lies_tchO h.l3 hB ht (key h.l3 fun k hk => (hoff k hk).2.2), h.k1, h.k2, h.k3, h.pos, h.seq, h.top⟩
section
variable {w : World} {B0 B : Nat} {q : Pn} {D : Dv} {r rp rn rw cp cn cw : Nat}
set_option maxHeartbeats 8000000 in
theorem rwrite_any (h : RefAt w B0 B q D r rp rn rw cp cn cw) (hB : B ≤ w.heap.size) (hops : D.ops < 900000) (hwe : ∀ i, i < D.nb → D.we i ≤ D.ops) (hpl : ∀ i, i < D.nb * D.np → (D.pg i).length = 256) (x : Tl) (B2 : Nat) (hx : x.Ok w B2) (hoff : ∀ k ∈ [r, rp, rn, rw], x.Off k) (hm : x.t.May) (hB2 : B2 ≤ w.heap.size) :
    Calls Tryz.prog 23 #[.pointer (some ⟨r, 0, none⟩), x.val] w fun e w' => e = .returned (.int .i64 (D.writeR x.t.page).1) ∧ RefAt w' B0 B q (D.writeR x.t.page).2 r rp rn rw cp cn cw ∧ Tch [r, rp, rn, rw] w w' := by
  have hs := h.sides
  have hl := Tb.page_len hm
  have hb1 := (Below.refl w.heap.size w).alloc (Nat.le_refl _) (.cells x.cells.toArray 26)
  have hx1 := BoxT.new x w
  have F := hide (rnewest_any (h.below (hb1.mono hB)) (Nat.le_trans hB hb1.size) hpl)
  have HO1 := hide (hx.below (hb1.mono hB2))
  have H1 := hide (h.below (hb1.mono hB))
  have HB1 := hide hb1
  have HX1 := hide hx1
  have HBB := hide hB
  have HB2s := hide hB2
  have HS := hide hs
  have Hl := hide hl
  have Hm := hide hm
  have Hops := hide hops
  have Hwe := hide hwe
  have Hpl := hide hpl
  have HOl := hide D.older_at
  have Ho2 := hide D.older_two
  have HW : Hid (D.writeR x.t.page = if D.nx D.older = D.np then (if (D.eraR D.older).1 = 0 then (D.eraR D.older).2.progR D.older ((D.eraR D.older).2.nx D.older) x.t.page else D.eraR D.older) else D.progR D.older (D.nx D.older) x.t.page) := hide rfl
  have e0 : x.val = .agg #[.int .u64 (x.t.seq : Int), .slice x.A1 x.t.bad.length x.c1, .slice x.A2 x.t.wear.length x.c2, .slice x.A3 x.t.void.length x.c3] := rfl
  have e1 : x.cells.toArray = #[.int .u64 (x.t.seq : Int), .slice x.A1 x.t.bad.length x.c1, .slice x.A2 x.t.wear.length x.c2, .slice x.A3 x.t.void.length x.c3] := rfl
  have Hxo := hide (hx.up hB2)
  have Hoff := hide hoff
  rw [e0]
  rw [e1] at F H1 HB1 HX1 HO1
  generalize D.newest = nw at *
  generalize D.older = O at *
  clear h hB hops hwe hpl hx hoff hm hB2 hs hb1 hx1 hl
  go_enter Tryz.func23, Tryz.ntmps23
  go_wp2_with fail
  generalize w.alloc (.cells #[.int .u64 (x.t.seq : Int), .slice x.A1 x.t.bad.length x.c1, .slice x.A2 x.t.wear.length x.c2, .slice x.A3 x.t.void.length x.c3] 26) = w1 at *
  (with_reducible refine F.out.mono ?_)
  rintro e w2 ⟨y, rfl, u1, u2, u3, u4, hb⟩
  clear u1 u2 u3 u4
  have hb3 := hb.alloc hb.size (.cells #[.int .u64 (y.t.seq : Int), .slice y.A1 y.t.bad.length y.c1, .slice y.A2 y.t.wear.length y.c2, .slice y.A3 y.t.void.length y.c3] 26)
  have HB3 := hide (HB1.out.trans (hb3.mono HB1.out.size))
  have H3 := hide (H1.out.below (hb3.mono (Nat.le_trans HBB.out HB1.out.size)))
  have HX3 := hide (HX1.out.below hb3 HX1.out.lt)
  rw [show y.val = .agg #[.int .u64 (y.t.seq : Int), .slice y.A1 y.t.bad.length y.c1, .slice y.A2 y.t.wear.length y.c2, .slice y.A3 y.t.void.length y.c3] from rfl]
  clear hb hb3 F H1 HB1 HX1 HO1 e0 e1
  go_upto_if 15 with fail
  generalize w2.alloc (.cells #[.int .u64 (y.t.seq : Int), .slice y.A1 y.t.bad.length y.c1, .slice y.A2 y.t.wear.length y.c2, .slice y.A3 y.t.void.length y.c3] 26) = w3 at *
  go_cut [7] from 16 (fun o wx => o = .int .i64 (O : Int) ∧ wx = w3)
  case first =>
    rcases HOl.out with ⟨h1, h2⟩ | ⟨h1, h2⟩
    · have hb0 : (newP nw == 0) = true := beq_iff_eq.2 h1
      have H2 := hide h2
      clear h1 h2
      go_wp2
      go_meet
      exact ⟨by rw [H2.out]; rfl, rfl⟩
    · have hb0 : (newP nw == 0) = false := beq_eq_false_iff_ne.2 h1
      have H2 := hide h2
      clear h1 h2
      go_wp2
      go_meet
      exact ⟨by rw [H2.out]; rfl, rfl⟩
  obtain ⟨rfl, hw⟩ := hcut
  subst hw
  clear HOl
  have HO := hide (show O < D.nb by have := HS.out.1; rcases Ho2.out with e | e <;> omega)
  have hO' : (O : Int) < (D.nb : Int) := by have := HO.out; omega
  have d1 := H3.out.c 1 (.int .i64 (D.np : Int)) (by rw [← HS.out.2.2.2.2.2]; rfl)
  have d5 := H3.out.c 5 (.slice (some ⟨rn, 0, none⟩) D.nb cn) rfl
  have d6 := H3.out.next.cell HO.out
  have Hbr := hide (Below.refl wc.heap.size wc)
  by_cases hf : D.nx O = D.np
  · have hb0 : ((D.nx O : Int) == (D.np : Int)) = true := by rw [hf]; simp
    rw [if_pos hf] at HW
    clear hf
    go_upto_region 5 with fail
    go_quiet (fail)
    generalize hwq : wc.drewN _ = w4
    have HB4 : Hid (Below wc.heap.size wc w4) := hide (by rw [← hwq]; exact bel_drewN Hbr.out _)
    have H4 := hide (H3.out.below (HB4.out.mono (Nat.le_trans HBB.out HB3.out.size)))
    have HX4 := hide (HX3.out.below HB4.out HX3.out.lt)
    have HC4 := hide (HB3.out.trans (HB4.out.mono HB3.out.size))
    clear hwq HB4 H3 HX3 d1 d5 d6
    have Fe := hide (rera_any H4.out (Nat.le_trans HBB.out HC4.out.size) (by have := Hops.out; omega) Hwe.out Hpl.out (O : Int))
    go_wp2_with fail
    (with_reducible refine Fe.out.mono ?_)
    rintro e w5 ⟨rfl, hd5, ht5⟩
    have H5 := hide hd5
    have HT5 := hide (tch_low HC4.out ht5)
    have HX5 : Hid (BoxT x w.heap.size w5) := hide ((ht5.block _ HX4.out.lt (off_four H4.out.hi HBB.out)).trans HX4.out)
    have HO5x := hide (((Hxo.out.below HC4.out).tchO Hoff.out ht5 HC4.out.size).up (Nat.le_trans HC4.out.size ht5.size))
    have Hg5 := hide (D.eraR_g (O : Int))
    have Hops5 := hide (D.eraR_ops (O : Int))
    have Hlen5 := hide (D.eraR_len (O : Int))
    clear hd5 ht5 Fe
    generalize D.eraR (O : Int) = R at *
    rcases R with ⟨k0, E⟩
    dsimp only at HW H5 Hg5 Hops5 Hlen5 ⊢
    by_cases h0 : k0 = 0
    · subst h0
      rw [if_pos rfl] at HW
      have hnb : E.nb = D.nb := by unfold Dv.nb; rw [Hg5.out]
      have hnp : E.np = D.np := by unfold Dv.np; rw [Hg5.out]
      have HPL5 : Hid (∀ i, i < E.nb * E.np → (E.pg i).length = 256) := hide (fun i hi => (Hlen5.out i).trans (Hpl.out i (by rw [← hnb, ← hnp]; exact hi)))
      have HO5 := hide (show O < E.nb by rw [hnb]; exact HO.out)
      have hO5 : (O : Int) < (E.nb : Int) := by have := HO5.out; omega
      have HOP5 := hide (show E.ops < 950000 by have := Hops.out; have := Hops5.out; omega)
      clear hnb hnp
      have d5 := H5.out.c 5 (.slice (some ⟨rn, 0, none⟩) E.nb cn) rfl
      have d6 := H5.out.next.cell HO5.out
      have t0 := HX5.out.c 0 _ rfl
      have t1 := HX5.out.c 1 _ rfl
      have t2 := HX5.out.c 2 _ rfl
      have t3 := HX5.out.c 3 _ rfl
      have HBW := hide (Nat.le_trans HBB.out HT5.out.size)
      have Hdr := hide ((Below.refl w5.heap.size w5).drew)
      have FP := hide (put16_any x _ w5.drew ((HO5x.out.below Hdr.out).up (show w5.heap.size ≤ w5.drew.heap.size from Nat.le_refl _)) Hm.out (Nat.le_refl _))
      rw [show x.val = .agg #[.int .u64 (x.t.seq : Int), .slice x.A1 x.t.bad.length x.c1, .slice x.A2 x.t.wear.length x.c2, .slice x.A3 x.t.void.length x.c3] from rfl] at FP
      go_upto_region 9 with fail
      go_region_law (first
        | (refine step_callP (f := 54) (args := #[.agg #[.int .u64 (x.t.seq : Int), .slice x.A1 x.t.bad.length x.c1, .slice x.A2 x.t.wear.length x.c2, .slice x.A3 x.t.void.length x.c3]]) rfl (by simp [Act.eval, go_sem]) (FP.out.mono ?_); rintro e w7 ⟨rfl, hb7⟩; refine ⟨_, rfl, ?_⟩; obtain ⟨c7, w8, hcv, hcap, hb8, hl8⟩ := strBytesT w7 x.t.page; rw [Hl.out] at hcv; have HB7 := hide (Hdr.out.trans (hb7.mono (Nat.le_refl _))); have HB8 := hide (HB7.out.trans (hb8.mono HB7.out.size)); have H7 := hide (H5.out.below (HB7.out.mono HBW.out)); have H8 := hide (H5.out.below (HB8.out.mono HBW.out)); have HT8 := hide (HT5.out.trans (Tch.of_below HB8.out)); have d57 := H7.out.c 5 (.slice (some ⟨rn, 0, none⟩) E.nb cn) rfl; have d67 := H7.out.next.cell HO5.out; have d58 := H8.out.c 5 (.slice (some ⟨rn, 0, none⟩) E.nb cn) rfl; have d68 := H8.out.next.cell HO5.out; have FQ := hide (rprog_any H8.out (Nat.le_trans HBB.out HT8.out.size) (by have := HOP5.out; omega) HPL5.out (O : Int) (E.nx O : Int) (some ⟨w7.heap.size, 0, none⟩) c7 x.t.page hl8 Hl.out); clear hb7 hcap hb8 hl8)
        | (refine step_callP (f := 53) (args := #[.pointer (some ⟨r, 0, none⟩), .agg #[.int .i64 (O : Int), .int .i64 (E.nx O : Int)], .slice (some ⟨w7.heap.size, 0, none⟩) 256 c7]) rfl (by simp [Act.eval, go_sem]) (FQ.out.mono ?_); rintro e w9 ⟨rfl, hd9, ht9⟩; refine ⟨_, rfl, ?_⟩; have H9 := hide hd9; have HT9 := hide (HT8.out.trans ht9); clear hd9 ht9))
      all_goals
        go_wp2
        go_ret
        rw [HW.out]
        exact ⟨rfl, H9.out, HT9.out⟩
    · rw [if_neg h0] at HW
      have hb1 : (k0 != 0) = true := bne_iff_ne.2 h0
      clear h0
      go_wp2
      go_ret
      rw [HW.out]
      exact ⟨rfl, H5.out, HT5.out⟩
  · have hb0 : ((D.nx O : Int) == (D.np : Int)) = false := beq_eq_false_iff_ne.2 (fun h => hf (by omega))
    rw [if_neg hf] at HW
    clear hf
    go_upto_region 5 with fail
    go_quiet (fail)
    generalize hwq : wc.drewN _ = w4
    have HB4 : Hid (Below wc.heap.size wc w4) := hide (by rw [← hwq]; exact bel_drewN Hbr.out _)
    have H4 := hide (H3.out.below (HB4.out.mono (Nat.le_trans HBB.out HB3.out.size)))
    have HX4 := hide (HX3.out.below HB4.out HX3.out.lt)
    have HC4 := hide (HB3.out.trans (HB4.out.mono HB3.out.size))
    have HT4 := hide (Tch.of_below (S := [r, rp, rn, rw]) HC4.out)
    have HO4 := hide ((Hxo.out.below HC4.out).up HC4.out.size)
    have HOP4 := hide (show D.ops < 950000 by have := Hops.out; omega)
    clear hwq HB4 H3 HX3 d1 d5 d6
    have d5 := H4.out.c 5 (.slice (some ⟨rn, 0, none⟩) D.nb cn) rfl
    have d6 := H4.out.next.cell HO.out
    have t0 := HX4.out.c 0 _ rfl
    have t1 := HX4.out.c 1 _ rfl
    have t2 := HX4.out.c 2 _ rfl
    have t3 := HX4.out.c 3 _ rfl
    have HBW := hide (Nat.le_trans HBB.out HT4.out.size)
    have Hdr := hide ((Below.refl w4.heap.size w4).drew)
    have FP := hide (put16_any x _ w4.drew ((HO4.out.below Hdr.out).up (show w4.heap.size ≤ w4.drew.heap.size from Nat.le_refl _)) Hm.out (Nat.le_refl _))
    rw [show x.val = .agg #[.int .u64 (x.t.seq : Int), .slice x.A1 x.t.bad.length x.c1, .slice x.A2 x.t.wear.length x.c2, .slice x.A3 x.t.void.length x.c3] from rfl] at FP
    go_upto_region 9 with fail
    go_region_law (first
      | (refine step_callP (f := 54) (args := #[.agg #[.int .u64 (x.t.seq : Int), .slice x.A1 x.t.bad.length x.c1, .slice x.A2 x.t.wear.length x.c2, .slice x.A3 x.t.void.length x.c3]]) rfl (by simp [Act.eval, go_sem]) (FP.out.mono ?_); rintro e w7 ⟨rfl, hb7⟩; refine ⟨_, rfl, ?_⟩; obtain ⟨c7, w8, hcv, hcap, hb8, hl8⟩ := strBytesT w7 x.t.page; rw [Hl.out] at hcv; have HB7 := hide (Hdr.out.trans (hb7.mono (Nat.le_refl _))); have HB8 := hide (HB7.out.trans (hb8.mono HB7.out.size)); have H7 := hide (H4.out.below (HB7.out.mono HBW.out)); have H8 := hide (H4.out.below (HB8.out.mono HBW.out)); have HT8 := hide (HT4.out.trans (Tch.of_below HB8.out)); have d57 := H7.out.c 5 (.slice (some ⟨rn, 0, none⟩) D.nb cn) rfl; have d67 := H7.out.next.cell HO.out; have d58 := H8.out.c 5 (.slice (some ⟨rn, 0, none⟩) D.nb cn) rfl; have d68 := H8.out.next.cell HO.out; have FQ := hide (rprog_any H8.out (Nat.le_trans HBB.out HT8.out.size) (by have := HOP4.out; omega) Hpl.out (O : Int) (D.nx O : Int) (some ⟨w7.heap.size, 0, none⟩) c7 x.t.page hl8 Hl.out); clear hb7 hcap hb8 hl8)
      | (refine step_callP (f := 53) (args := #[.pointer (some ⟨r, 0, none⟩), .agg #[.int .i64 (O : Int), .int .i64 (D.nx O : Int)], .slice (some ⟨w7.heap.size, 0, none⟩) 256 c7]) rfl (by simp [Act.eval, go_sem]) (FQ.out.mono ?_); rintro e w9 ⟨rfl, hd9, ht9⟩; refine ⟨_, rfl, ?_⟩; have H9 := hide hd9; have HT9 := hide (HT8.out.trans ht9); clear hd9 ht9))
    all_goals
      go_wp2
      go_ret
      rw [HW.out]
      exact ⟨rfl, H9.out, HT9.out⟩
end
end
section
open Go.RowKit
set_option maxRecDepth 8000

theorem mwrite_nil (x : Tl) (w : World) : Calls Tryz.prog 22 #[.pointer none, x.val] w fun e w' => e = .returned (.int .i64 1) ∧ Below w.heap.size w w' := by
  have HB := hide ((Below.refl w.heap.size w).alloc (Nat.le_refl _) (.cells x.cells.toArray 26))
  rw [show x.cells.toArray = #[.int .u64 (x.t.seq : Int), .slice x.A1 x.t.bad.length x.c1, .slice x.A2 x.t.wear.length x.c2, .slice x.A3 x.t.void.length x.c3] from rfl] at HB
  rw [show x.val = .agg #[.int .u64 (x.t.seq : Int), .slice x.A1 x.t.bad.length x.c1, .slice x.A2 x.t.wear.length x.c2, .slice x.A3 x.t.void.length x.c3] from rfl]
  go_enter Tryz.func22, Tryz.ntmps22
  go_wp2_with fail
  (with_reducible refine (up_nil _).mono ?_)
  rintro e w1 ⟨rfl, rfl⟩
  go_wp2
  go_ret
  exact ⟨rfl, HB.out⟩
section
variable {w : World} {B0 B : Nat} {D : Dv} {k kb kp km : Nat}
theorem mwrite_down (h : DevAt w B0 B D k kb kp km) (hB : B ≤ w.heap.size) (hd : D.dn = true) (x : Tl) : Calls Tryz.prog 22 #[.pointer (some ⟨k, 0, none⟩), x.val] w fun e w' => e = .returned (.int .i64 9) ∧ Below w.heap.size w w' := by
  have hb1 := (Below.refl w.heap.size w).alloc (Nat.le_refl _) (.cells x.cells.toArray 26)
  have HB := hide hb1
  have F := hide (up_any (h.below (hb1.mono hB)))
  rw [if_pos hd] at F
  rw [show x.cells.toArray = #[.int .u64 (x.t.seq : Int), .slice x.A1 x.t.bad.length x.c1, .slice x.A2 x.t.wear.length x.c2, .slice x.A3 x.t.void.length x.c3] from rfl] at HB F
  rw [show x.val = .agg #[.int .u64 (x.t.seq : Int), .slice x.A1 x.t.bad.length x.c1, .slice x.A2 x.t.wear.length x.c2, .slice x.A3 x.t.void.length x.c3] from rfl]
  clear h hB hd hb1
  go_enter Tryz.func22, Tryz.ntmps22
  go_wp2_with fail
  (with_reducible refine F.out.mono ?_)
  rintro e w1 ⟨rfl, rfl⟩
  go_wp2
  go_ret
  exact ⟨rfl, HB.out⟩
set_option maxHeartbeats 1000000 in
theorem mwrite_bad (h : DevAt w B0 B D k kb kp km) (hB : B ≤ w.heap.size) (hd : D.dn = false) (x : Tl) (B2 : Nat) (hx : x.Ok w B2) (hf : x.Long) (hm : ¬ x.t.May) (hB2 : B2 ≤ w.heap.size) : Calls Tryz.prog 22 #[.pointer (some ⟨k, 0, none⟩), x.val] w fun e w' => e = .returned (.int .i64 3) ∧ Below w.heap.size w w' := by
  have hb1 := (Below.refl w.heap.size w).alloc (Nat.le_refl _) (.cells x.cells.toArray 26)
  have HX := hide (BoxT.new x w)
  have HB := hide hb1
  have F := hide (up_any (h.below (hb1.mono hB)))
  rw [if_neg (by rw [hd]; decide)] at F
  have FP := hide (tput_badL x B2 _ (hx.below (hb1.mono hB2)) hf hm (Nat.le_trans hB2 hb1.size))
  rw [show x.cells.toArray = #[.int .u64 (x.t.seq : Int), .slice x.A1 x.t.bad.length x.c1, .slice x.A2 x.t.wear.length x.c2, .slice x.A3 x.t.void.length x.c3] from rfl] at HB F FP HX
  rw [show x.val = .agg #[.int .u64 (x.t.seq : Int), .slice x.A1 x.t.bad.length x.c1, .slice x.A2 x.t.wear.length x.c2, .slice x.A3 x.t.void.length x.c3] from rfl] at FP ⊢
  clear h hB hd hb1 hx hf hm hB2
  have c0 := HX.out.c 0 _ rfl
  have c1 := HX.out.c 1 _ rfl
  have c2 := HX.out.c 2 _ rfl
  have c3 := HX.out.c 3 _ rfl
  go_enter Tryz.func22, Tryz.ntmps22
  go_wp2_with fail
  (with_reducible refine F.out.mono ?_)
  rintro e w1 ⟨rfl, rfl⟩
  go_wp2_with fail
  (with_reducible refine FP.out.mono ?_)
  rintro e w2 ⟨rfl, hb⟩
  have HB2 := hide (HB.out.trans (hb.mono HB.out.size))
  clear hb F FP HX HB c0 c1 c2 c3
  go_wp2
  go_ret
  exact ⟨rfl, HB2.out⟩
end
end
section
open Go.RowKit
set_option maxRecDepth 8000
/-- A table of another number. -/
def Tl.num (x : Tl) (s : Nat) : Tl := ⟨⟨s, x.t.bad, x.t.wear, x.t.void⟩, x.A1, x.A2, x.A3, x.c1, x.c2, x.c3⟩
theorem Tl.Ok.num {x : Tl} {w : World} {B s : Nat} (h : x.Ok w B) (hs : s < 18446744073709551616) : (x.num s).Ok w B := ⟨h.l1, h.l2, h.l3, h.k1, h.k2, h.k3, h.pos, hs, h.top⟩
theorem May.few {x : Tl} (h : x.t.May) : x.Few := ⟨by have := rise_len (b := 34) h.2.1; omega, by have := h.2.2.1.2; omega, by have := h.2.2.2.1; omega⟩
theorem Dv.writeR_ops (D : Dv) (p : List UInt8) : (D.writeR p).2.ops ≤ D.ops + 2 := by
  unfold Dv.writeR
  split
  · split
    · exact Nat.le_trans (Dv.progR_ops _ _ _ _) (Nat.succ_le_succ (Dv.eraR_ops _ _))
    · exact Nat.le_succ_of_le (Dv.eraR_ops _ _)
  · exact Nat.le_succ_of_le (Dv.progR_ops _ _ _ _)
theorem Dv.writeR_g (D : Dv) (p : List UInt8) : (D.writeR p).2.g = D.g := by
  unfold Dv.writeR
  split
  · split
    · exact (Dv.progR_g _ _ _ _).trans (Dv.eraR_g _ _)
    · exact Dv.eraR_g _ _
  · exact Dv.progR_g _ _ _ _
/-- What the loop knows behind j writes. -/
structure OneS (w : World) (B0 B : Nat) (k kb kp km kw j : Nat) (is : Bool) (D : Dv) (z : Tl) (W : World) : Prop where
  dev : DevAt W B0 B D k kb kp km
  big : B ≤ kw
  low : w.heap.size ≤ B0 ∧ B0 ≤ B
  mi : Mi D j
  dn : D.dn = false
  ops : D.ops ≤ 2 * j
  box : BoxT z kw W
  ok : z.Ok w w.heap.size
  few : z.Few
  yes : is = true → ∃ r, D.newest = some (z.t, r)
  no : is = false → D.newest = none
  below : Below w.heap.size w W
section
variable {w W W' : World} {B0 B k kb kp km kw j : Nat} {is : Bool} {D D' : Dv} {z y : Tl}
theorem OneS.bigW (h : OneS w B0 B k kb kp km kw j is D z W) : B ≤ W.heap.size := Nat.le_trans h.big (Nat.le_of_lt h.box.lt)
theorem OneS.later (h : OneS w B0 B k kb kp km kw j is D z W) (hb : Below W.heap.size W W') : OneS w B0 B k kb kp km kw j is D z W' :=
  ⟨h.dev.below (hb.mono h.bigW), h.big, h.low, h.mi, h.dn, h.ops, h.box.below hb h.box.lt, h.ok, h.few, h.yes, h.no, h.below.trans (hb.mono h.below.size)⟩
theorem OneS.next (h : OneS w B0 B k kb kp km kw j is D z W) : OneS w B0 B k kb kp km kw (j + 1) is D z W :=
  ⟨h.dev, h.big, h.low, h.mi.mono (Nat.le_succ _), h.dn, by have := h.ops; omega, h.box, h.ok, h.few, h.yes, h.no, h.below⟩
end
end
end Go.Proofs.YtigpplckddnghaaGreat
