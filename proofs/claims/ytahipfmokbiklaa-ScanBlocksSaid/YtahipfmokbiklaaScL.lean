/-
  LAYER 18: pages laid on both devices (Laid of the statements).
-/
import Derived.Test.YtahipfmokbiklaaScM
import Derived.Test.YtahipfmokbiklaaFlo4
import Derived.Test.YtahipfmokbiklaaPgQ
import Derived.Test.YtahipfmokbiklaaPgF
import Derived.Test.YtahipfmokbiklaaElem
import Derived.Test.YtahipfmokbiklaaDev10
import Derived.Deep.CutBlock
import Derived.StillTailTactics
namespace Go.Proofs.Ytahipfmokbiklaa
open Go.RowKit
open Go.Sort
set_option maxRecDepth 8000

/-- What is laid: a block, a head, data; or a wipe. -/
structure Ly where
  x : Int
  h : Hd
  d : List UInt8
  wipe : Bool
def Ly.cells (a : Ly) : List Value := [.int .i64 a.x, .int .i64 a.h.kind, .int .i64 a.h.index, .int .i64 a.h.count, .int .u64 (a.h.batch : Int), .int .u64 (a.h.opn : Int), .int .i64 a.h.lpn, .int .i64 a.h.len, .string (str a.d), .bool a.wipe]
theorem Ly.cells_len (a : Ly) : a.cells.length = 10 := rfl
theorem infoLy : (Try.prog.info? 75).map (·.size) = some 10 := by kernel_rfl
def BoxL (a : Ly) (k : Nat) (w : World) : Prop := w.heap[k]? = some (.cells a.cells.toArray 75 (0, 0))
section
variable {a : Ly} {k B : Nat} {w w' : World}
theorem BoxL.below (hx : BoxL a k w) (hb : Below B w w') (hk : k < B) : BoxL a k w' := (hb.block k hk).trans hx
theorem BoxL.lt (hx : BoxL a k w) : k < w.heap.size := (Array.getElem?_eq_some_iff.1 hx).1
theorem BoxL.c (hx : BoxL a k w) (j : Nat) (v : Value) (hj : a.cells[j]? = some v) : w.cell? ⟨k, j, none⟩ = some v := by
  have := World.news_of_block hx j v (by simpa using hj)
  have e : (⟨k, 0, none⟩ : Addr).add j = ⟨k, j, none⟩ := by unfold Addr.add; split <;> simp_all
  rw [e] at this
  exact this
theorem BoxL.tch {S : List Nat} (hx : BoxL a k w) (ht : Tch S w w') (hk : k ∉ S) : BoxL a k w' := (ht.block k hx.lt hk).trans hx
/-- The head in the midst of its box. -/
theorem BoxL.head (hx : BoxL a k w) : w.rangeAt k 1 a.h.cells := by
  intro j v hv
  refine hx.c (1 + j) v ?_
  have hj : j < 7 := (List.getElem?_eq_some_iff.1 hv).1
  rcases (by omega : j = 0 ∨ j = 1 ∨ j = 2 ∨ j = 3 ∨ j = 4 ∨ j = 5 ∨ j = 6) with rfl | rfl | rfl | rfl | rfl | rfl | rfl <;> exact hv
end

theorem LiesT.tch {S : List Nat} {w w' : World} {g : Nat} {l : List UInt8} (h : LiesT w w.heap.size (some ⟨g, 0, none⟩) l) (ht : Tch S w w') (hg : g ∉ S) : LiesT w' w'.heap.size (some ⟨g, 0, none⟩) l := by
  rcases h with rfl | ⟨a, hA, hb, ⟨cs, fr, hc⟩, hh⟩
  · exact .inl rfl
  · injection hA with hA
    subst hA
    refine .inr ⟨_, rfl, Nat.lt_of_lt_of_le hb ht.size, ⟨cs, fr, (ht.block g hb hg).trans hc⟩, fun j u hu => ?_⟩
    have e : ((⟨g, 0, none⟩ : Addr).add j).block = g := Addr.add_block _ _
    exact (World.cell?_of_block (by rw [e]; exact ht.block g hb hg)).trans (hh j u hu)

set_option maxHeartbeats 4000000 in
theorem laid_off (q : Pn) (A : Option Addr) (n c : Nat) (w : World) (hq : q.Ok w w.heap.size) (hl : ¬ (q.light = true ∧ q.g.Right)) :
    Calls Try.prog 7 #[q.val, .slice A n c] w fun e w' => e = .returned (.tuple #[.pointer none, .pointer none]) ∧ Below w.heap.size w w' := by
  have b1 := (Below.refl w.heap.size w).alloc (Nat.le_refl _) (.cells #[.int .i64 q.g.b, .int .i64 q.g.p, .int .i64 q.g.r, .slice q.A1 q.n1 q.c1, .slice q.A2 q.n2 q.c2] 27)
  have Hb1 := hide b1
  have hx1 : BoxQ q w.heap.size (w.alloc (.cells #[.int .i64 q.g.b, .int .i64 q.g.p, .int .i64 q.g.r, .slice q.A1 q.n1 q.c1, .slice q.A2 q.n2 q.c2] 27)) := heap_alloc_new w _
  have FL := hide (light_any q w.heap.size _ (hq.below b1) b1.size)
  have Hx1 := hide hx1
  have hs1 : w.heap.size < (w.alloc (.cells #[.int .i64 q.g.b, .int .i64 q.g.p, .int .i64 q.g.r, .slice q.A1 q.n1 q.c1, .slice q.A2 q.n2 q.c2] 27)).heap.size := by simp
  have Hs1 := hide hs1
  clear b1 hx1 hs1 hq
  unfold Pn.val at *
  cases hlight : q.light with
  | false =>
    rw [hlight] at FL
    clear hlight hl
    go_enter Try.func7, Try.ntmps7
    go_wp2_with fail
    (with_reducible refine FL.out.mono ?_)
    rintro e w1 ⟨rfl, hb⟩
    have Hb2 := hide (Hb1.out.trans (hb.mono Hb1.out.size))
    clear hb FL
    go_wp2
    go_ret2
    exact ⟨rfl, Hb2.out⟩
  | true =>
    have hr : ¬ q.g.Right := fun h => hl ⟨hlight, h⟩
    rw [hlight] at FL
    have FR := hide (fun W => right13_any q.g W)
    rw [decide_eq_false hr] at FR
    unfold Gm.val at FR
    clear hlight hl hr
    go_enter Try.func7, Try.ntmps7
    go_wp2_with fail
    (with_reducible refine FL.out.mono ?_)
    rintro e w1 ⟨rfl, hb⟩
    have Hb2 := hide (Hb1.out.trans (hb.mono Hb1.out.size))
    have Hx2 := hide (Hx1.out.below hb Hs1.out)
    clear hb FL
    have c0 := Hx2.out.c 0 _ rfl
    have c1 := Hx2.out.c 1 _ rfl
    have c2 := Hx2.out.c 2 _ rfl
    go_wp2_with fail
    (with_reducible refine (FR.out _).mono ?_)
    rintro e w4 ⟨rfl, hb⟩
    have Hb5 := hide (Hb2.out.trans (hb.mono Hb2.out.size))
    clear hb
    go_wp2
    go_ret2
    exact ⟨rfl, Hb5.out⟩
/-- What Laid's round does. -/
structure LdS (w : World) (q : Pn) (D : Dv) (m : Bl) (j : Nat) (W : World) : Prop where
  s : TS w q D D m W
  ops : D.ops ≤ j
/-- What Laid answers. -/
def LaidPost (w : World) (q : Pn) (e : Ending) (w' : World) : Prop := ∃ D m, e = .returned (.tuple #[.pointer (some ⟨m.k, 0, none⟩), .pointer (some ⟨m.r, 0, none⟩)]) ∧ LdS w q D m 60 w' ∧ D.dn = false

set_option maxHeartbeats 8000000 in
theorem laid_on (q : Pn) (A : Option Addr) (n c : Nat) (al : List Ly) (w : World) (hq : q.Ok w w.heap.size) (hl : q.light = true) (hr : q.g.Right) (hA : Lies w w.heap.size A (al.flatMap Ly.cells)) (hn : n = al.length) :
    Calls Try.prog 7 #[q.val, .slice A n c] w (LaidPost w q) := by
  have b1 := (Below.refl w.heap.size w).alloc (Nat.le_refl _) (.cells #[.int .i64 q.g.b, .int .i64 q.g.p, .int .i64 q.g.r, .slice q.A1 q.n1 q.c1, .slice q.A2 q.n2 q.c2] 27)
  have Hb1 := hide b1
  have hx1 : BoxQ q w.heap.size (w.alloc (.cells #[.int .i64 q.g.b, .int .i64 q.g.p, .int .i64 q.g.r, .slice q.A1 q.n1 q.c1, .slice q.A2 q.n2 q.c2] 27)) := heap_alloc_new w _
  have FL := hide (light_any q w.heap.size _ (hq.below b1) b1.size)
  have Hx1 := hide hx1
  have hs1 : w.heap.size < (w.alloc (.cells #[.int .i64 q.g.b, .int .i64 q.g.p, .int .i64 q.g.r, .slice q.A1 q.n1 q.c1, .slice q.A2 q.n2 q.c2] 27)).heap.size := by simp
  have Hs1 := hide hs1
  have Hq := hide hq
  have HA := hide hA
  have Hn := hide hn
  have Hr := hide hr
  have Hli := hide hl
  have Hl : Hid (q.n1 ≤ 60 ∧ q.n2 ≤ 40) := hide (by
    unfold Pn.light at hl
    simp only [Bool.and_eq_true, decide_eq_true_eq] at hl
    exact hl.1)
  rw [hl] at FL
  have FR := hide (fun W => right13_any q.g W)
  rw [decide_eq_true hr] at FR
  have FW := hide (fun W => rnew_any q W hr)
  unfold Gm.val at FR
  clear b1 hx1 hs1 hq hl hr hA hn
  unfold Pn.val at *
  go_enter Try.func7, Try.ntmps7
  go_wp2_with fail
  (with_reducible refine FL.out.mono ?_)
  rintro e w1 ⟨rfl, hb⟩
  have Hb2 := hide (Hb1.out.trans (hb.mono Hb1.out.size))
  have Hx2 := hide (Hx1.out.below hb Hs1.out)
  have Hs2 := hide (Nat.lt_of_lt_of_le Hs1.out hb.size)
  clear hb FL Hb1 Hx1 Hs1
  have c0 := Hx2.out.c 0 _ rfl
  have c1 := Hx2.out.c 1 _ rfl
  have c2 := Hx2.out.c 2 _ rfl
  go_wp2_with fail
  (with_reducible refine (FR.out _).mono ?_)
  rintro e w3 ⟨rfl, hb⟩
  have Hb4 := hide (Hb2.out.trans (hb.mono Hb2.out.size))
  have Hx4 := hide (Hx2.out.below hb Hs2.out)
  have Hs4 := hide (Nat.lt_of_lt_of_le Hs2.out hb.size)
  clear hb c0 c1 c2 FR Hb2 Hx2 Hs2
  have c0 := Hx4.out.c 0 _ rfl
  have c1 := Hx4.out.c 1 _ rfl
  have c2 := Hx4.out.c 2 _ rfl
  have c3 := Hx4.out.c 3 _ rfl
  have c4 := Hx4.out.c 4 _ rfl
  go_wp2_with fail
  have Hq4 := hide (Hq.out.below Hb4.out)
  have FN := hide (new_ok q.g q.A1 q.A2 q.n1 q.c1 q.n2 q.c2 w.heap.size q.bl q.fl w3 Hr.out Hq4.out.l1 Hq4.out.h1 (by have := Hl.out; omega) Hq4.out.l2 Hq4.out.h2 (by have := Hl.out; omega) Hq4.out.h3 Hb4.out.size)
  unfold Gm.val at FN
  (with_reducible refine FN.out.mono ?_)
  rintro e w5 ⟨k, kb, kp, km, rfl, hd, hb⟩
  have Hb5 := hide (Hb4.out.trans (hb.mono Hb4.out.size))
  have Hx5 := hide (Hx4.out.below hb Hs4.out)
  have Hs5 := hide (Nat.lt_of_lt_of_le Hs4.out hb.size)
  have Hs45 := hide hb.size
  have Hd5 := hide hd
  clear c0 c1 c2 c3 c4 hd hb FN Hx4 Hb4 Hq4
  have c0 := Hx5.out.c 0 _ rfl
  have c1 := Hx5.out.c 1 _ rfl
  have c2 := Hx5.out.c 2 _ rfl
  have c3 := Hx5.out.c 3 _ rfl
  have c4 := Hx5.out.c 4 _ rfl
  go_wp2_with fail
  (with_reducible refine (FW.out _).mono ?_)
  rintro e w8 ⟨b0, r, pv, nv, wv, rfl, hN⟩
  have hq5 := Hq.out.below Hb5.out
  obtain ⟨rp, rn, rw, cp, cn, cw, hR⟩ := refAt_new hN Hr.out (Pn.Ok.up hq5 Hb5.out.size) Hli.out
  obtain ⟨m, hm⟩ : ∃ m : Bl, m = ⟨k, kb, kp, km, r, rp, rn, rw, cp, cn, cw, w3.heap.size, w5.heap.size, w8.heap.size⟩ := ⟨_, rfl⟩
  have HS0 := hide (show TS w q (Dv.fresh q.g q.bl q.fl) (Dv.fresh q.g q.bl q.fl) m w8 from by
    have hb := hN.below
    subst hm
    refine ⟨Hd5.out.below hb, hR.base_down Hb5.out.size (hq5.below (hb.mono Hb5.out.size)), ?_, Hx5.out.below hb Hs5.out, Hb5.out.trans (hb.mono Hb5.out.size), ⟨Hs4.out, Hs45.out, hb.size, Nat.le_refl _⟩, rfl, rfl⟩
    intro b hbm
    have h1 := hR.lo
    simp only [List.mem_cons, List.not_mem_nil, or_false] at hbm
    show w5.heap.size ≤ b
    omega)
  have em1 : k = m.k := by rw [hm]
  have em2 : r = m.r := by rw [hm]
  clear hm
  subst em1
  subst em2
  obtain ⟨D, hD⟩ : ∃ D, D = Dv.fresh q.g q.bl q.fl := ⟨_, rfl⟩
  rw [← hD] at HS0
  have Hops : Hid (D.ops ≤ 0) := hide (by rw [hD]; exact Nat.le_refl _)
  have Hdn : Hid (D.dn = false) := hide (by rw [hD]; rfl)
  clear c0 c1 c2 c3 c4 hN hq5 hR hD FW Hb5 Hx5 Hs5 Hd5 Hs4 Hs45 Hl Hr Hli Hq
  go_wp2
  go_loopw [9] (fun i wr => ∃ j : Nat, j ≤ n ∧ j ≤ 60 ∧ i = .int .i64 (j : Int) ∧ ∃ D, LdS w q D m j wr ∧ D.dn = false) (fun i _ => n - (intOf i).toNat)
  case atStart => exact ⟨0, Nat.zero_le _, Nat.zero_le _, rfl, D, ⟨HS0.out, Hops.out⟩, Hdn.out⟩
  case round =>
    clear HS0 Hops Hdn
    obtain ⟨j, hj, hj60, rfl, D, hS, hdn⟩ := hrel
    have HS := hide hS.s
    have HP := hide hS.ops
    have Hdn := hide hdn
    clear hdn
    by_cases hgo : j < n ∧ j < 60
    · obtain ⟨hlt, h60⟩ := hgo
      have hlt' : (j : Int) < (n : Int) := by omega
      have h60' : (j : Int) < 60 := by omega
      have hjl : j < al.length := by rw [← Hn.out]; exact hlt
      obtain ⟨ad, rfl, hab, hca⟩ := (HA.out.below HS.out.below).elem Ly.cells_len hjl (by decide)
      have e1 : wrap64 ((j : Int) + 1) = ((j + 1 : Nat) : Int) := by rw [i64w (by omega)]; rfl
      generalize al[j] = a at *
      rcases a with ⟨bk, ⟨kd, ix, ct, bt, op, lp, ln⟩, d, wp⟩
      have Hca := hide hca
      have HOP := hide (show D.ops < 1000000 from Nat.lt_of_le_of_lt HP.out (by omega))
      have Hj := hide (show j + 1 ≤ n ∧ j + 1 ≤ 60 from ⟨hlt, h60⟩)
      have hb7 := (Below.refl wr.heap.size wr).alloc (Nat.le_refl _) (.cells #[.int .i64 bk, .int .i64 kd, .int .i64 ix, .int .i64 ct, .int .u64 (bt : Int), .int .u64 (op : Int), .int .i64 lp, .int .i64 ln, .string (str d), .bool wp] 75)
      have HS7 := hide (HS.out.next hb7)
      have BA7 : Hid (BoxL ⟨bk, ⟨kd, ix, ct, bt, op, lp, ln⟩, d, wp⟩ wr.heap.size (wr.alloc (.cells #[.int .i64 bk, .int .i64 kd, .int .i64 ix, .int .i64 ct, .int .u64 (bt : Int), .int .u64 (op : Int), .int .i64 lp, .int .i64 ln, .string (str d), .bool wp] 75))) := hide (heap_alloc_new wr _)
      have HC := hide (show m.C ≤ wr.heap.size from HS.out.pos.2.2.2)
      have Hga := hide (show wr.heap.size < (wr.alloc (.cells #[.int .i64 bk, .int .i64 kd, .int .i64 ix, .int .i64 ct, .int .u64 (bt : Int), .int .u64 (op : Int), .int .i64 lp, .int .i64 ln, .string (str d), .bool wp] 75)).heap.size by simp)
      clear hca hjl hS hb7 hab hlt h60 hj hj60
      unfold Ly.cells at Hca
      dsimp only at Hca
      go_upto_region 11 with (with_reducible refine wpl_load_addr rfl 75 (.tmp 52) rfl (ad.add (j * 10)) _ Hca.out rfl _ Try.underlying75 rfl 10 infoLy rfl ?_)
      generalize wr.alloc (.cells #[.int .i64 bk, .int .i64 kd, .int .i64 ix, .int .i64 ct, .int .u64 (bt : Int), .int .u64 (op : Int), .int .i64 lp, .int .i64 ln, .string (str d), .bool wp] 75) = w7 at *
      clear HS Hca hlt' h60'
      generalize wr.heap.size = ga at *
      have k0 := BA7.out.c 0 _ rfl
      have k8 := BA7.out.c 8 _ rfl
      have k9 := BA7.out.c 9 _ rfl
      dsimp only at k0 k8 k9
      obtain ⟨q0, q1⟩ := HS7.out.cells
      have hsz := str_size d
      by_cases hb0 : bk < 0
      ·
        go_wp2
        go_roundw
        case rel => exact ⟨j + 1, Hj.out.1, Hj.out.2, congrArg (Value.int .i64) e1, D, ⟨HS7.out, Nat.le_succ_of_le HP.out⟩, Hdn.out⟩
        case measure => first | exact measT Hj.out.1 | exact measT2 e1 Hj.out.1
      by_cases hb1 : (D.nb : Int) ≤ bk
      ·
        go_wp2
        go_roundw
        case rel => exact ⟨j + 1, Hj.out.1, Hj.out.2, congrArg (Value.int .i64) e1, D, ⟨HS7.out, Nat.le_succ_of_le HP.out⟩, Hdn.out⟩
        case measure => first | exact measT Hj.out.1 | exact measT2 e1 Hj.out.1
      by_cases h300 : (300 : Int) < (d.length : Int)
      ·
        go_wp2
        go_roundw
        case rel => exact ⟨j + 1, Hj.out.1, Hj.out.2, congrArg (Value.int .i64) e1, D, ⟨HS7.out, Nat.le_succ_of_le HP.out⟩, Hdn.out⟩
        case measure => first | exact measT Hj.out.1 | exact measT2 e1 Hj.out.1
      obtain ⟨x, rfl⟩ := Int.eq_ofNat_of_zero_le (show 0 ≤ bk by omega)
      have Hxn := hide (show x < D.nb by omega)
      have Hd3 := hide (show d.length ≤ 300 by omega)
      go_upto_if 72 with fail
      clear k8 q0 q1
      have Hoa := hide (HS7.out.off HC.out)
      have Hpl := hide HS7.out.dev.plen
      have Hwe := hide HS7.out.dev.wear
      go_cut [] (fun wx => ∃ D2, LdS w q D2 m (j + 1) wx)
      case first =>
        cases wp with
        | true =>
          go_wp2_with fail
          (with_reducible refine (dera_any HS7.out.dev HS7.out.bigB HOP.out (x : Int)).mono ?_)
          rintro e w9 ⟨rfl, hd9, ht9⟩
          have HS9 := hide (HS7.out.dev_step hd9 ht9 (Dv.eraR_g _ _))
          have BA9 := hide (BA7.out.tch (Tch.devS (m := m) ht9) Hoa.out)
          clear hd9 ht9 k0 k9 HS7 BA7
          have k0 := BA9.out.c 0 _ rfl
          dsimp only at k0
          go_wp2_with fail
          (with_reducible refine (rera_any HS9.out.ref HS9.out.pos.2.2.2 HOP.out Hwe.out Hpl.out (x : Int)).mono ?_)
          rintro e w10 ⟨rfl, hd10, ht10⟩
          have HS10 := hide (HS9.out.ref_step hd10 ht10 (Dv.eraR_g _ _))
          clear hd10 ht10 k0 HS9 BA9
          go_wp2
          go_meet
          exact ⟨_, HS10.out, Nat.le_trans (Dv.eraR_ops _ _) (Nat.succ_le_succ HP.out)⟩
        | false =>
          have FM := hide (fun W => may15_any ⟨kd, ix, ct, bt, op, lp, ln⟩ W)
          have HRg : Hid (w7.rangeAt ga 1 [.int .i64 kd, .int .i64 ix, .int .i64 ct, .int .u64 (bt : Int), .int .u64 (op : Int), .int .i64 lp, .int .i64 ln]) := hide BA7.out.head
          by_cases hm : Hd.May ⟨kd, ix, ct, bt, op, lp, ln⟩
          · rw [decide_eq_true hm] at FM
            unfold Hd.val at FM
            dsimp only at FM
            have Hm := hide hm
            clear hm
            go_wp2_with (with_reducible refine wpl_load_mid rfl 42 (.tmp 81) rfl ga 1 _ HRg.out rfl _ Try.underlying42 rfl 7 infoHd (by with_unfolding_all rfl) ?_)
            (with_reducible refine (FM.out _).mono ?_)
            rintro e w8 ⟨rfl, hb⟩
            have HS8 := hide (HS7.out.next hb)
            have BA8 := hide (BA7.out.below hb Hga.out)
            have Hga8 := hide (Nat.lt_of_lt_of_le Hga.out hb.size)
            clear hb FM HRg k0 k9 HS7 BA7 Hga
            have k7 := BA8.out.c 7 _ rfl
            have k8 := BA8.out.c 8 _ rfl
            dsimp only at k7 k8
            by_cases hdl : (d.length : Int) = ln
            · subst hdl
              have FP := hide (fun W => put15_any ⟨kd, ix, ct, bt, op, lp, (d.length : Int)⟩ d W Hm.out rfl)
              have Hpl256 := hide (pageB_len ⟨kd, ix, ct, bt, op, lp, (d.length : Int)⟩ d (by have h228 : (d.length : Int) ≤ 228 := Hm.out.2.2.2.2.2.2.2.2.2.2.2; omega))
              have HRg : Hid (w8.rangeAt ga 1 [.int .i64 kd, .int .i64 ix, .int .i64 ct, .int .u64 (bt : Int), .int .u64 (op : Int), .int .i64 lp, .int .i64 (d.length : Int)]) := hide BA8.out.head
              unfold Hd.val at FP
              dsimp only at FP
              go_wp2_with (with_reducible refine wpl_load_mid rfl 42 (.tmp 93) rfl ga 1 _ HRg.out rfl _ Try.underlying42 rfl 7 infoHd (by with_unfolding_all rfl) ?_)
              (with_reducible refine (FP.out _).mono ?_)
              rintro e w9 ⟨rfl, hb⟩
              have HS9 := hide (HS8.out.next hb)
              have BA9 := hide (BA8.out.below hb Hga8.out)
              have Hga9 := hide (Nat.lt_of_lt_of_le Hga8.out hb.size)
              clear hb FP HRg k7 k8 HS8 BA8 Hga8 Hm hsz
              generalize pageB ⟨kd, ix, ct, bt, op, lp, (d.length : Int)⟩ d = pg at *
              obtain ⟨cb, w10, hcv, hcap, hb10, hl10⟩ := strBytesT w9 pg
              rw [Hpl256.out] at hcv hcap
              have HS10 := hide (HS9.out.next hb10)
              have BA10 := hide (BA9.out.below hb10 Hga9.out)
              have HL10 := hide hl10
              have Hcb := hide hcap
              have Hbk := hide (show m.C ≤ w9.heap.size from HS9.out.pos.2.2.2)
              go_upto_region 17 with fail
              clear hcv hcap hb10 hl10 HS9 BA9 Hga9
              generalize w9.heap.size = gb at *
              have Hob := hide (HS10.out.off Hbk.out)
              have k0 := BA10.out.c 0 _ rfl
              dsimp only at k0
              have fm := Calls.back (next_some (HS10.out.dev.below (w' := w10.drew) ((Below.refl _ _).drew)) x Hxn.out)
              have Fm := hide fm
              have HS11 := hide (HS10.out.next (W' := w10.drew) ((Below.refl _ _).drew))
              have BA11 : Hid (BoxL _ ga w10.drew) := hide BA10.out
              have HL11 : Hid (LiesT w10.drew w10.drew.heap.size (some ⟨gb, 0, none⟩) pg) := hide HL10.out
              clear fm
              refine wp_region_still_tail 9 (by kernel_rfl) (by kernel_rfl) ?_
              simp only [List.take_succ_cons, List.take_zero, List.drop_succ_cons, List.drop_zero]
              repeat still_step
              still_call Fm.out
              repeat still_step
              refine wpStill_nil ?_
              change wpList _ _ _ _ _ w10.drew
              clear Fm HS10 BA10 HL10 k0
              generalize w10.drew = w11 at *
              go_wp2_with fail
              (with_reducible refine (dprog_any HS11.out.dev HS11.out.bigB HOP.out (x : Int) (D.nx x : Int) (some ⟨gb, 0, none⟩) cb pg HL11.out Hpl256.out).mono ?_)
              rintro e w12 ⟨rfl, hd, ht⟩
              have HS12 := hide (HS11.out.dev_step hd ht (Dv.progR_g _ _ _ _))
              have BA12 := hide (BA11.out.tch (Tch.devS (m := m) ht) Hoa.out)
              have HL12 := hide (HL11.out.tch (Tch.devS (m := m) ht) Hob.out)
              clear hd ht HS11 BA11 HL11
              go_upto_region 18 with fail
              have k0 := BA12.out.c 0 _ rfl
              dsimp only at k0
              have c5 : w12.cell? ⟨m.r, 5, none⟩ = some (.slice (some ⟨m.rn, 0, none⟩) D.nb m.cn) := HS12.out.ref.c 5 _ rfl
              have cn := HS12.out.ref.next.cell Hxn.out
              have hxn2 : (x : Int) < (D.nb : Int) := by have := Hxn.out; omega
              have HS13 := hide (HS12.out.next (W' := w12.drew) ((Below.refl _ _).drew))
              have HL13 : Hid (LiesT w12.drew w12.drew.heap.size (some ⟨gb, 0, none⟩) pg) := hide HL12.out
              refine wp_region_still_tail 13 (by kernel_rfl) (by kernel_rfl) ?_
              simp only [List.take_succ_cons, List.take_zero, List.drop_succ_cons, List.drop_zero]
              repeat still_step
              refine wpStill_nil ?_
              change wpList _ _ _ _ _ w12.drew
              clear HS12 BA12 HL12 k0 c5 cn
              generalize w12.drew = w13 at *
              go_wp2_with fail
              (with_reducible refine (rprog_any HS13.out.ref HS13.out.pos.2.2.2 HOP.out Hpl.out (x : Int) (D.nx x : Int) (some ⟨gb, 0, none⟩) cb pg HL13.out Hpl256.out).mono ?_)
              rintro e w14 ⟨rfl, hd, ht⟩
              have HS14 := hide (HS13.out.ref_step hd ht (Dv.progR_g _ _ _ _))
              clear hd ht HS13 HL13
              go_wp2
              go_meet
              exact ⟨_, HS14.out, Nat.le_trans (Dv.progR_ops _ _ _ _) (Nat.succ_le_succ HP.out)⟩
            · have hb0 : ((d.length : Int) == ln) = false := beq_eq_false_iff_ne.2 hdl
              clear hdl
              go_wp2
              go_meet
              exact ⟨D, HS8.out, Nat.le_succ_of_le HP.out⟩
          · rw [decide_eq_false hm] at FM
            unfold Hd.val at FM
            dsimp only at FM
            clear hm
            go_wp2_with (with_reducible refine wpl_load_mid rfl 42 (.tmp 81) rfl ga 1 _ HRg.out rfl _ Try.underlying42 rfl 7 infoHd (by with_unfolding_all rfl) ?_)
            (with_reducible refine (FM.out _).mono ?_)
            rintro e w8 ⟨rfl, hb⟩
            have HS8 := hide (HS7.out.next hb)
            clear hb FM HRg k0 k9 HS7 BA7
            go_wp2
            go_meet
            exact ⟨D, HS8.out, Nat.le_succ_of_le HP.out⟩
      case rest =>
        obtain ⟨D2, HL2⟩ := hcut
        have HS2 := hide HL2.s
        have HP2 := hide HL2.ops
        clear HL2 HS7 BA7 k0 k9
        go_wp2_with fail
        (with_reducible refine (power_any HS2.out.dev HS2.out.bigB).mono ?_)
        rintro e w9 ⟨rfl, hd9, ht9⟩
        have HS9 := hide (HS2.out.dev_step hd9 ht9 rfl)
        clear hd9 ht9
        have f9 := HS9.out.ref.f 9
        have c9 := HS9.out.ref.c 9 _ rfl
        have HS10 := hide (HS9.out.ref_step (HS9.out.ref.set_down false) (Tch.set (by simp) _) rfl)
        go_wp2
        go_roundw
        case rel => exact ⟨j + 1, Hj.out.1, Hj.out.2, congrArg (Value.int .i64) e1, { D2 with dn := false }, ⟨HS10.out, HP2.out⟩, rfl⟩
        case measure => first | exact measT Hj.out.1 | exact measT2 e1 Hj.out.1
    · have HL := hide (show LdS w q D m 60 wr from ⟨HS.out, Nat.le_trans HP.out hj60⟩)
      by_cases hlt : j < n
      · obtain rfl : j = 60 := by omega
        have hlt' : (60 : Int) < (n : Int) := by omega
        clear hgo hS
        go_wp2
        go_ret2
        exact ⟨D, m, rfl, HL.out, Hdn.out⟩
      · obtain rfl : j = n := by omega
        clear hgo hS
        go_wp2
        go_ret2
        exact ⟨D, m, rfl, HL.out, Hdn.out⟩
end Go.Proofs.Ytahipfmokbiklaa
