/-
  The walk of NandDoes, the loop. (By gen/DoLaw.gen.py.)
-/
import Derived.Test.YtppecnimpnlipaaDs
import Derived.Deep.CutBlock
namespace Go.Proofs.Ytppecnimpnlipaa
open Go.RowKit
open Go.Sort

set_option maxRecDepth 4000 in
set_option maxHeartbeats 8000000 in
theorem does_on (q : Pn) (A : Option Addr) (n c : Nat) (al : List Ac) (w : World) (hq : q.Ok w w.heap.size) (hl : q.light = true) (hr : q.g.Right) (hA : Lies w w.heap.size A (al.flatMap Ac.cells)) (hn : n = al.length) (hok : ∀ a ∈ al, a.Ok w w.heap.size) :
    Calls Try.prog 3 #[q.val, .slice A n c] w fun e w' => e = .returned (.bool true) ∧ Below w.heap.size w w' := by
  have b1 := (Below.refl w.heap.size w).alloc (Nat.le_refl _) (.cells #[.int .i64 q.g.b, .int .i64 q.g.p, .int .i64 q.g.r, .slice q.A1 q.n1 q.c1, .slice q.A2 q.n2 q.c2] 27)
  have Hb1 := hide b1
  have hx1 : BoxQ q w.heap.size (w.alloc (.cells #[.int .i64 q.g.b, .int .i64 q.g.p, .int .i64 q.g.r, .slice q.A1 q.n1 q.c1, .slice q.A2 q.n2 q.c2] 27)) := heap_alloc_new w _
  have FL := hide (light_any q w.heap.size _ (hq.below b1) b1.size)
  have Hx1 := hide hx1
  have hs1 : w.heap.size < (w.alloc (.cells #[.int .i64 q.g.b, .int .i64 q.g.p, .int .i64 q.g.r, .slice q.A1 q.n1 q.c1, .slice q.A2 q.n2 q.c2] 27)).heap.size := by simp
  have Hs1 := hide hs1
  have Hq := hide hq
  have HA := hide hA
  have Hn := hide hn
  have Hok := hide hok
  have Hr := hide hr
  have Hli := hide hl
  have Hl : Hid (q.n1 ≤ 60 ∧ q.n2 ≤ 40) := hide (by
    unfold Pn.light at hl
    simp only [Bool.and_eq_true, decide_eq_true_eq] at hl
    exact hl.1)
  rw [hl] at FL
  have FR := hide (fun W => right13_any q.g W)
  rw [decide_eq_true hr] at FR
  have FW := hide (fun W => rnew_any q W hr)
  unfold Gm.val at FR
  clear b1 hx1 hs1 hq hl hr hA hn hok
  unfold Pn.val at *
  go_enter Try.func3, Try.ntmps3
  go_wp2_with fail
  (with_reducible refine FL.out.mono ?_)
  rintro e w1 ⟨rfl, hb⟩
  have Hb2 := hide (Hb1.out.trans (hb.mono Hb1.out.size))
  have Hx2 := hide (Hx1.out.below hb Hs1.out)
  have Hs2 := hide (Nat.lt_of_lt_of_le Hs1.out hb.size)
  clear hb FL Hb1 Hx1 Hs1
  go_wp2_with fail
  (with_reducible refine (awake14_any _).mono ?_)
  rintro e w3 ⟨rfl, hb⟩
  have Hb4 := hide (Hb2.out.trans (hb.mono Hb2.out.size))
  have Hx4 := hide (Hx2.out.below hb Hs2.out)
  have Hs4 := hide (Nat.lt_of_lt_of_le Hs2.out hb.size)
  clear hb Hb2 Hx2 Hs2
  have c0 := Hx4.out.c 0 _ rfl
  have c1 := Hx4.out.c 1 _ rfl
  have c2 := Hx4.out.c 2 _ rfl
  have c3 := Hx4.out.c 3 _ rfl
  have c4 := Hx4.out.c 4 _ rfl
  go_wp2_with fail
  have Hq4 := hide (Hq.out.below Hb4.out)
  have FN := hide (new_ok q.g q.A1 q.A2 q.n1 q.c1 q.n2 q.c2 w.heap.size q.bl q.fl w3 Hr.out Hq4.out.l1 Hq4.out.h1 (by have := Hl.out; omega) Hq4.out.l2 Hq4.out.h2 (by have := Hl.out; omega) Hq4.out.h3 Hb4.out.size)
  unfold Gm.val at FN
  (with_reducible refine FN.out.mono ?_)
  rintro e w5 ⟨k, kb, kp, km, rfl, hd, hb⟩
  have Hb5 := hide (Hb4.out.trans (hb.mono Hb4.out.size))
  have Hx5 := hide (Hx4.out.below hb Hs4.out)
  have Hs5 := hide (Nat.lt_of_lt_of_le Hs4.out hb.size)
  have Hs45 := hide hb.size
  have Hd5 := hide hd
  clear c0 c1 c2 c3 c4 hd hb FN Hx4 Hb4 Hq4
  have c0 := Hx5.out.c 0 _ rfl
  have c1 := Hx5.out.c 1 _ rfl
  have c2 := Hx5.out.c 2 _ rfl
  go_wp2_with fail
  (with_reducible refine (FR.out _).mono ?_)
  rintro e w6 ⟨rfl, hb⟩
  have Hb6 := hide (Hb5.out.trans (hb.mono Hb5.out.size))
  have Hx6 := hide (Hx5.out.below hb Hs5.out)
  have Hs6 := hide (Nat.lt_of_lt_of_le Hs5.out hb.size)
  have Hs56 := hide hb.size
  have Hd6 := hide (Hd5.out.below hb)
  clear c0 c1 c2 hb FR Hb5 Hx5 Hs5 Hd5
  have c0 := Hx6.out.c 0 _ rfl
  have c1 := Hx6.out.c 1 _ rfl
  have c2 := Hx6.out.c 2 _ rfl
  have r0 := fun d os => cell_regrown c0 d os
  have r1 := fun d os => cell_regrown c1 d os
  have r2 := fun d os => cell_regrown c2 d os
  have FX := fun d os => sides_any (Hd6.out.below ((below_regrown w6 d os).mono Hs56.out))
  unfold Gm.val at FX
  rw [show (Dv.fresh q.g q.bl q.fl).g = q.g from rfl] at FX
  go_upto_region 6 with fail
  clear c0 c1 c2
  refine wp_region_quiet_below (by kernel_rfl) (by kernel_rfl) ?_
  repeat (go_big_quiet_step (exact Calls.regrown_of (FX _ _)))
  refine wpQuiet_nil ?_
  intro _ hw'
  obtain ⟨⟨dq, osq⟩, hw''⟩ := hw'
  subst hw''
  have hb := below_regrown w6 dq osq
  have Hb7 := hide (Hb6.out.trans (hb.mono Hb6.out.size))
  have Hx7 := hide (Hx6.out.below hb Hs6.out)
  have Hs7 := hide (Nat.lt_of_lt_of_le Hs6.out hb.size)
  have Hs57 := hide (Nat.le_trans Hs56.out hb.size)
  have Hd7 := hide (Hd6.out.below (hb.mono Hs56.out))
  clear hb r0 r1 r2 FX Hb6 Hx6 Hs6 Hd6 Hs56
  generalize grow (redrawn w6 dq) osq = w7 at *
  have c0 := Hx7.out.c 0 _ rfl
  have c1 := Hx7.out.c 1 _ rfl
  have c2 := Hx7.out.c 2 _ rfl
  have c3 := Hx7.out.c 3 _ rfl
  have c4 := Hx7.out.c 4 _ rfl
  go_wp2_with fail
  (with_reducible refine (FW.out _).mono ?_)
  rintro e w8 ⟨b0, r, pv, nv, wv, rfl, hN⟩
  have hq7 := Hq.out.below Hb7.out
  obtain ⟨rp, rn, rw, cp, cn, cw, hR⟩ := refAt_new hN Hr.out (Pn.Ok.up hq7 Hb7.out.size) Hli.out
  obtain ⟨m, hm⟩ : ∃ m : Bl, m = ⟨k, kb, kp, km, r, rp, rn, rw, cp, cn, cw, w3.heap.size, w5.heap.size, w8.heap.size⟩ := ⟨_, rfl⟩
  have HS0 := hide (show TS w q (Dv.fresh q.g q.bl q.fl) (Dv.fresh q.g q.bl q.fl) m w8 from by
    have hb := hN.below
    subst hm
    refine ⟨Hd7.out.below (hb.mono Hs57.out), hR.base_down Hb7.out.size (hq7.below (hb.mono Hb7.out.size)), ?_, Hx7.out.below hb Hs7.out, Hb7.out.trans (hb.mono Hb7.out.size), ⟨Hs4.out, Hs45.out, Nat.le_trans Hs57.out hb.size, Nat.le_refl _⟩, rfl, rfl⟩
    intro b hbm
    have h1 := hR.lo
    have h2 := Hs57.out
    simp only [List.mem_cons, List.not_mem_nil, or_false] at hbm
    show w5.heap.size ≤ b
    omega)
  have em1 : k = m.k := by rw [hm]
  have em2 : r = m.r := by rw [hm]
  clear hm
  subst em1
  subst em2
  obtain ⟨D, hD⟩ : ∃ D, D = Dv.fresh q.g q.bl q.fl := ⟨_, rfl⟩
  rw [← hD] at HS0
  have Hops : Hid (D.ops ≤ 0) := hide (by rw [hD]; exact Nat.le_refl _)
  clear c0 c1 c2 c3 c4 hN hq7 hR hD FW Hb7 Hx7 Hs7 Hs57 Hd7 Hs4 Hs45 Hl Hr Hli Hq
  go_wp2_with fail
  go_loopw [8] (fun i wr => ∃ j : Nat, j ≤ n ∧ j ≤ 40 ∧ i = .int .i64 (j : Int) ∧ ∃ D, TS w q D D m wr ∧ D.ops ≤ j) (fun i _ => n - (intOf i).toNat)
  case atStart => exact ⟨0, Nat.zero_le _, Nat.zero_le _, rfl, D, HS0.out, Hops.out⟩
  case round =>
    clear HS0 Hops
    obtain ⟨j, hj, hj40, rfl, D, hS, hops⟩ := hrel
    have HS := hide hS
    have HP := hide hops
    by_cases hgo : j < n ∧ j < 40
    · obtain ⟨hlt, h40⟩ := hgo
      have hlt' : (j : Int) < (n : Int) := by omega
      have h40' : (j : Int) < 40 := by omega
      have hjl : j < al.length := by rw [← Hn.out]; exact hlt
      obtain ⟨ad, rfl, hab, hca⟩ := (HA.out.below hS.below).elem Ac.cells_len hjl (by decide)
      have Hac := hide (Hok.out _ (List.getElem_mem hjl))
      have e1 : wrap64 ((j : Int) + 1) = ((j + 1 : Nat) : Int) := by rw [i64w (by omega)]; rfl
      generalize al[j] = a at *
      rcases a with ⟨kd, ax, ay, aA, an, ac, am⟩
      have Hca : Hid (∀ i v, [Value.int .i64 kd, .int .i64 ax, .int .i64 ay, .slice aA an ac][i]? = some v → wr.cell? ((ad.add (j * 4)).add i) = some v) := hide hca
      have hba := (Below.refl wr.heap.size wr).alloc (Nat.le_refl _) (.cells #[.int .i64 kd, .int .i64 ax, .int .i64 ay, .slice aA an ac] 42)
      have Hba := hide hba
      have HOP := hide (show D.ops < 1000000 by omega)
      clear hca hjl hS hops hba
      by_cases h300 : (300 : Int) < (an : Int)
      · go_wp2_with (with_reducible refine wpl_load_addr rfl 42 (.tmp 76) rfl (ad.add (j * 4)) _ Hca.out rfl _ Try.underlying42 rfl 4 infoAct rfl ?_)
        go_ret
        exact ⟨rfl, (HS.out.next Hba.out).below⟩
      · have hm3 : an ≤ 300 := by omega
        go_upto_region 13 with (with_reducible refine wpl_load_addr rfl 42 (.tmp 76) rfl (ad.add (j * 4)) _ Hca.out rfl _ Try.underlying42 rfl 4 infoAct rfl ?_)
        generalize hw7 : wr.alloc (.cells #[.int .i64 kd, .int .i64 ax, .int .i64 ay, .slice aA an ac] 42) = w7 at *
        have hb7 := Hba.out
        have HS7 := hide (HS.out.next hb7)
        have BA7 : Hid (BoxA ⟨kd, ax, ay, aA, an, ac, am⟩ wr.heap.size w7) := hide (by rw [← hw7]; exact heap_alloc_new wr _)
        have Hga := hide (show wr.heap.size < w7.heap.size by rw [← hw7]; simp)
        have HC := hide (show m.C ≤ wr.heap.size from HS.out.pos.2.2.2)
        clear hw7 hb7 Hba Hca HS
        generalize wr.heap.size = ga at *
        generalize wr = wA at *
        have k0 := BA7.out.c 0 _ rfl
        have k1 := BA7.out.c 1 _ rfl
        have k2 := BA7.out.c 2 _ rfl
        have k3 := BA7.out.c 3 _ rfl
        simp only at k0 k1 k2 k3
        go_upto_region 16 with fail
        generalize hw8 : w7.alloc (.cells #[.int .i64 ax, .int .i64 ay] 39) = w8 at *
        have hb8 : Below w7.heap.size w7 w8 := by rw [← hw8]; exact (Below.refl _ _).alloc (Nat.le_refl _) _
        have HS8 := hide (HS7.out.next hb8)
        have BA8 : Hid (BoxA ⟨kd, ax, ay, aA, an, ac, am⟩ ga w8) := hide ((hb8.block _ Hga.out).trans BA7.out)
        have HP8 : Hid (BoxedP ax ay w7.heap.size w8) := hide (by rw [← hw8]; exact heap_alloc_new w7 _)
        have Hgp := hide (show w7.heap.size < w8.heap.size by rw [← hw8]; simp)
        have Hgg := hide Hga.out
        have Hgc := hide (show m.C ≤ w7.heap.size from Nat.le_trans HC.out (Nat.le_of_lt Hga.out))
        clear hw8 hb8 HS7 BA7 k0 k1 k2 k3
        generalize w7.heap.size = gp at *
        have cx := HP8.out.x
        have cy := HP8.out.y
        obtain ⟨q0, q1⟩ := HS8.out.cells
        go_cut [99] (fun s99 wx => s99 = .bool (decide (ay < 0 ∧ 0 ≤ ax ∧ ax < (D.nb : Int))) ∧ wx = w8)
        case first =>
          by_cases h1 : ay < 0
          · by_cases h2 : 0 ≤ ax
            · by_cases h3 : ax < (D.nb : Int)
              ·
                have hz : decide (ay < 0 ∧ 0 ≤ ax ∧ ax < (D.nb : Int)) = true := decide_eq_true ⟨h1, h2, h3⟩
                go_wp2_with fail
                go_meet
                exact ⟨congrArg Value.bool hz.symm, rfl⟩
              ·
                have hz : decide (ay < 0 ∧ 0 ≤ ax ∧ ax < (D.nb : Int)) = false := decide_eq_false (fun h => h3 h.2.2)
                go_wp2_with fail
                go_meet
                exact ⟨congrArg Value.bool hz.symm, rfl⟩
            ·
              have hz : decide (ay < 0 ∧ 0 ≤ ax ∧ ax < (D.nb : Int)) = false := decide_eq_false (fun h => h2 h.2.1)
              go_wp2_with fail
              go_meet
              exact ⟨congrArg Value.bool hz.symm, rfl⟩
          ·
            have hz : decide (ay < 0 ∧ 0 ≤ ax ∧ ax < (D.nb : Int)) = false := decide_eq_false (fun h => h1 h.1)
            go_wp2_with fail
            go_meet
            exact ⟨congrArg Value.bool hz.symm, rfl⟩
        case rest =>
          obtain ⟨rfl, rfl⟩ := hcut
          clear q0 q1
          go_upto_if 99 with fail
          go_cut [] (fun wx => ∃ px py : Int, BoxedP px py gp wx ∧ BoxA ⟨kd, ax, ay, aA, an, ac, am⟩ ga wx ∧ TS w q D D m wx ∧ wc.heap.size ≤ wx.heap.size)
          case first =>
            by_cases hc : (ay < 0 ∧ 0 ≤ ax ∧ ax < (D.nb : Int))
            · rw [decide_eq_true hc]
              obtain ⟨x, rfl⟩ := Int.eq_ofNat_of_zero_le hc.2.1
              have hxn : x < D.nb := by omega
              have hxn2 : (x : Int) < (D.nb : Int) := hc.2.2
              have c5 : wc.cell? ⟨m.r, 5, none⟩ = some (.slice (some ⟨m.rn, 0, none⟩) D.nb m.cn) := HS8.out.ref.c 5 _ rfl
              have cn := HS8.out.ref.next.cell hxn
              have f0 := HP8.out.free 0
              have f1 := HP8.out.free 1
              clear hc
              go_upto_region 17 with fail
              go_region
              go_wp2_with fail
              go_meet
              refine ⟨x, D.nx x, heap_set (heap_set HP8.out 0 _) 1 _, ?_, HS8.out.high (((Below.refl _ _).setCell Hgc.out _).setCell Hgc.out _).drew, by simp [World.setCell]⟩
              exact (Below.heap_setCell _ _ _ _ (Nat.ne_of_lt Hgg.out)).trans ((Below.heap_setCell _ _ _ _ (Nat.ne_of_lt Hgg.out)).trans BA8.out)
            · rw [decide_eq_false hc]
              go_wp2_with fail
              go_meet
              exact ⟨ax, ay, HP8.out, BA8.out, HS8.out, Nat.le_refl _⟩
          case rest =>
            obtain ⟨px, py, hP, hBA, hS, hsz⟩ := hcut
            have HP9 := hide hP
            have BA9 := hide hBA
            have HS9 := hide hS
            have Hgp9 := hide (Nat.lt_of_lt_of_le Hgp.out hsz)
            have Hga9 := hide (Nat.lt_trans Hgg.out Hgp9.out)
            have Hoa := hide (hS.off HC.out)
            have Hop := hide (hS.off Hgc.out)
            have Hpl := hide hS.dev.plen
            have Hwe := hide hS.dev.wear
            clear hP hBA hS hsz HS8 BA8 HP8 Hgp cx cy
            have k0 := BA9.out.c 0 _ rfl
            simp only at k0
            generalize wc = w8 at *
            go_upto_block 2 with fail
            clear k0
            go_cut [11] (fun s11 wx => s11 = .bool true ∧ ∃ D2, TS w q D2 D2 m wx ∧ D2.ops ≤ j + 1)
            case first =>
              by_cases h1 : kd = 1
              · subst h1
                have k0 := BA9.out.c 0 _ rfl
                simp only at k0
                go_upto_region 25 with fail
                clear k0
                refine Big.wp_region_big (by kernel_rfl) (fun d v => match d with | 137 => v = .pointer (some ⟨m.k, 0, none⟩) | 138 => v = .agg #[.int .i64 px, .int .i64 py] | 139 => v = .pointer (some ⟨ga, 3, none⟩) | 140 => v = .slice aA an ac | 141 => ∃ A' c', v = .slice A' 256 c' | 142 => v = .int .i64 (D.progR px py (fullL am)).1 | 143 => v = .pointer (some ⟨m.r, 0, none⟩) | 144 => v = .agg #[.int .i64 px, .int .i64 py] | 145 => v = .pointer (some ⟨ga, 3, none⟩) | 146 => v = .slice aA an ac | 147 => ∃ A' c', v = .slice A' 256 c' | 148 => v = .int .i64 (D.progR px py (fullL am)).1 | 149 => v = .bool true | 11 => v = .bool true | _ => True) (PhiD w w8 q D (D.progR px py (fullL am)).2 m (fullL am)) [4, 5, 10, 11] [141, 147] (by kernel_rfl) (by kernel_rfl) (by decide) (PhiD.loc _ _ _ _ _ _ _) (⟨(Tch.refl _ _).drew, .inl ⟨rfl, HS9.out.next (Below.refl _ _).drew⟩⟩) ⟨?_, ?_, ?_, ?_, ?_, ?_, ?_, ?_, ?_, ?_, ?_, ?_, ?_, ?_, trivial⟩ ?_
                · refine Big.small (by decide) ?_
                  intro i' a' w' hi' hΦ h'
                  have ht := hΦ.1
                  have e5 : a'.tmps.getD 5 undef = .pointer (some ⟨m.k, 0, none⟩) := Big.sb h' 5 (by kernel_rfl) (by kernel_rfl) rfl
                  exact .val (want0 rfl) rfl (by simp [Act.eval, e5, go_sem]) rfl
                · refine Big.small (by decide) ?_
                  intro i' a' w' hi' hΦ h'
                  have ht := hΦ.1
                  have cx := ht.cellS Hop.out HP9.out.x
                  have cy := ht.cellS Hop.out HP9.out.y
                  have e10 : a'.tmps.getD 10 undef = .pointer (some ⟨gp, 0, none⟩) := Big.sb h' 10 (by kernel_rfl) (by kernel_rfl) rfl
                  exact .val (want0 rfl) rfl (by simp [Act.eval, e10, cx, cy, go_sem]) rfl
                · refine Big.small (by decide) ?_
                  intro i' a' w' hi' hΦ h'
                  have ht := hΦ.1
                  have e9 : a'.tmps.getD 9 undef = .pointer (some ⟨ga, 0, none⟩) := Big.sb h' 9 (by kernel_rfl) (by kernel_rfl) rfl
                  exact .val (want0 rfl) rfl (by simp [Act.eval, e9, go_sem]) rfl
                · refine Big.small (by decide) ?_
                  intro i' a' w' hi' hΦ h'
                  have ht := hΦ.1
                  have cc := ht.cellS Hoa.out (BA9.out.c 3 (.slice aA an ac) rfl)
                  have e139 : a'.tmps.getD 139 undef = .pointer (some ⟨ga, 3, none⟩) := Big.sw h' 139 (by kernel_rfl) (by kernel_rfl)
                  exact .val (want0 rfl) rfl (by simp [Act.eval, e139, cc, go_sem]) rfl
                · refine Big.great (i := 0) rfl (by decide) ?_
                  intro a' w' hsz' hΦ h'
                  have hS' := hΦ.at0
                  have e140 : a'.tmps.getD 140 undef = .slice aA an ac := Big.sw h' 140 (by kernel_rfl) (by kernel_rfl)
                  have hA' := Hac.out.below hS'.below
                  refine .called (d := 141) (want0 rfl) rfl (by simp [Act.eval, e140, go_sem]) ((full_any aA an ac w.heap.size am w' hA'.lies hA'.len hS'.below.size (Nat.le_trans hm3 (by decide))).mono ?_)
                  rintro e w9 ⟨A', c', rfl, ho, hb9⟩
                  exact ⟨_, rfl, ⟨A', c', rfl⟩, hΦ.1.trans (Tch.of_below hb9), .inr (.inl ⟨rfl, hS'.next hb9, A', c', Big.slots_put (by rw [hsz']; simp), LiesT.of_own ho⟩)⟩
                · refine Big.great (i := 1) rfl (by decide) ?_
                  intro a' w' hsz' hΦ h'
                  obtain ⟨hS', A', c', e141, hl'⟩ := hΦ.at1
                  have e141' : a'.tmps.getD 141 undef = .slice A' 256 c' := e141
                  have e137 : a'.tmps.getD 137 undef = .pointer (some ⟨m.k, 0, none⟩) := Big.sw h' 137 (by kernel_rfl) (by kernel_rfl)
                  have e138 : a'.tmps.getD 138 undef = .agg #[.int .i64 px, .int .i64 py] := Big.sw h' 138 (by kernel_rfl) (by kernel_rfl)
                  refine .called (d := 142) (want0 rfl) rfl (by simp [Act.eval, e137, e138, e141', go_sem]) ((dprog_any hS'.dev hS'.bigB HOP.out px py A' c' (fullL am) hl' (fullL_len am)).mono ?_)
                  rintro e w9 ⟨rfl, hd9, ht9⟩
                  exact ⟨_, rfl, rfl, hΦ.1.trans ht9.devS, .inr (.inr (.inl ⟨rfl, hS'.dev_step hd9 ht9 (Dv.progR_g _ _ _ _)⟩))⟩
                · refine Big.small (by decide) ?_
                  intro i' a' w' hi' hΦ h'
                  have ht := hΦ.1
                  have e7 : a'.tmps.getD 7 undef = .pointer (some ⟨m.r, 0, none⟩) := Big.sb h' 7 (by kernel_rfl) (by kernel_rfl) rfl
                  exact .val (want0 rfl) rfl (by simp [Act.eval, e7, go_sem]) rfl
                · refine Big.small (by decide) ?_
                  intro i' a' w' hi' hΦ h'
                  have ht := hΦ.1
                  have cx := ht.cellS Hop.out HP9.out.x
                  have cy := ht.cellS Hop.out HP9.out.y
                  have e10 : a'.tmps.getD 10 undef = .pointer (some ⟨gp, 0, none⟩) := Big.sb h' 10 (by kernel_rfl) (by kernel_rfl) rfl
                  exact .val (want0 rfl) rfl (by simp [Act.eval, e10, cx, cy, go_sem]) rfl
                · refine Big.small (by decide) ?_
                  intro i' a' w' hi' hΦ h'
                  have ht := hΦ.1
                  have e9 : a'.tmps.getD 9 undef = .pointer (some ⟨ga, 0, none⟩) := Big.sb h' 9 (by kernel_rfl) (by kernel_rfl) rfl
                  exact .val (want0 rfl) rfl (by simp [Act.eval, e9, go_sem]) rfl
                · refine Big.small (by decide) ?_
                  intro i' a' w' hi' hΦ h'
                  have ht := hΦ.1
                  have cc := ht.cellS Hoa.out (BA9.out.c 3 (.slice aA an ac) rfl)
                  have e145 : a'.tmps.getD 145 undef = .pointer (some ⟨ga, 3, none⟩) := Big.sw h' 145 (by kernel_rfl) (by kernel_rfl)
                  exact .val (want0 rfl) rfl (by simp [Act.eval, e145, cc, go_sem]) rfl
                · refine Big.great (i := 2) rfl (by decide) ?_
                  intro a' w' hsz' hΦ h'
                  have hS' := hΦ.at2
                  have e146 : a'.tmps.getD 146 undef = .slice aA an ac := Big.sw h' 146 (by kernel_rfl) (by kernel_rfl)
                  have hA' := Hac.out.below hS'.below
                  refine .called (d := 147) (want0 rfl) rfl (by simp [Act.eval, e146, go_sem]) ((full_any aA an ac w.heap.size am w' hA'.lies hA'.len hS'.below.size (Nat.le_trans hm3 (by decide))).mono ?_)
                  rintro e w9 ⟨A', c', rfl, ho, hb9⟩
                  exact ⟨_, rfl, ⟨A', c', rfl⟩, hΦ.1.trans (Tch.of_below hb9), .inr (.inr (.inr (.inl ⟨rfl, hS'.next hb9, A', c', Big.slots_put (by rw [hsz']; simp), LiesT.of_own ho⟩)))⟩
                · refine Big.great (i := 3) rfl (by decide) ?_
                  intro a' w' hsz' hΦ h'
                  obtain ⟨hS', A', c', e147, hl'⟩ := hΦ.at3
                  have e147' : a'.tmps.getD 147 undef = .slice A' 256 c' := e147
                  have e143 : a'.tmps.getD 143 undef = .pointer (some ⟨m.r, 0, none⟩) := Big.sw h' 143 (by kernel_rfl) (by kernel_rfl)
                  have e144 : a'.tmps.getD 144 undef = .agg #[.int .i64 px, .int .i64 py] := Big.sw h' 144 (by kernel_rfl) (by kernel_rfl)
                  refine .called (d := 148) (want0 rfl) rfl (by simp [Act.eval, e143, e144, e147', go_sem]) ((rprog_any hS'.ref hS'.pos.2.2.2 HOP.out Hpl.out px py A' c' (fullL am) hl' (fullL_len am)).mono ?_)
                  rintro e w9 ⟨rfl, hd9, ht9⟩
                  exact ⟨_, rfl, rfl, hΦ.1.trans ht9.refS, .inr (.inr (.inr (.inr ⟨Nat.le_refl _, hS'.ref_step hd9 ht9 (Dv.progR_g _ _ _ _)⟩)))⟩
                · refine Big.small (by decide) ?_
                  intro i' a' w' hi' hΦ h'
                  have ht := hΦ.1
                  have e142 : a'.tmps.getD 142 undef = .int .i64 (D.progR px py (fullL am)).1 := Big.sw h' 142 (by kernel_rfl) (by kernel_rfl)
                  have e148 : a'.tmps.getD 148 undef = .int .i64 (D.progR px py (fullL am)).1 := Big.sw h' 148 (by kernel_rfl) (by kernel_rfl)
                  exact .val (want0 rfl) rfl (by simp [Act.eval, (by simpa using e142 : a'.tmps[142]?.getD undef = _), (by simpa using e148 : a'.tmps[148]?.getD undef = _), go_sem]) rfl
                · refine Big.small (by decide) ?_
                  intro i' a' w' hi' hΦ h'
                  have ht := hΦ.1
                  have e149 : a'.tmps.getD 149 undef = .bool true := Big.sw h' 149 (by kernel_rfl) (by kernel_rfl)
                  exact .val (want0 rfl) rfl (by simp [Act.eval, e149, go_sem]) rfl
                · intro a' w' hdf hsz hwr hkp hΦ
                  have hS' := hΦ.at4
                  obtain ⟨v141, f141⟩ : ∃ v, a'.tmps.getD 141 undef = v := ⟨_, rfl⟩
                  obtain ⟨v147, f147⟩ : ∃ v, a'.tmps.getD 147 undef = v := ⟨_, rfl⟩
                  have f137 : a'.tmps.getD 137 undef = .pointer (some ⟨m.k, 0, none⟩) := hwr 137 (by kernel_rfl)
                  have f138 : a'.tmps.getD 138 undef = .agg #[.int .i64 px, .int .i64 py] := hwr 138 (by kernel_rfl)
                  have f139 : a'.tmps.getD 139 undef = .pointer (some ⟨ga, 3, none⟩) := hwr 139 (by kernel_rfl)
                  have f140 : a'.tmps.getD 140 undef = .slice aA an ac := hwr 140 (by kernel_rfl)
                  have f142 : a'.tmps.getD 142 undef = .int .i64 (D.progR px py (fullL am)).1 := hwr 142 (by kernel_rfl)
                  have f143 : a'.tmps.getD 143 undef = .pointer (some ⟨m.r, 0, none⟩) := hwr 143 (by kernel_rfl)
                  have f144 : a'.tmps.getD 144 undef = .agg #[.int .i64 px, .int .i64 py] := hwr 144 (by kernel_rfl)
                  have f145 : a'.tmps.getD 145 undef = .pointer (some ⟨ga, 3, none⟩) := hwr 145 (by kernel_rfl)
                  have f146 : a'.tmps.getD 146 undef = .slice aA an ac := hwr 146 (by kernel_rfl)
                  have f148 : a'.tmps.getD 148 undef = .int .i64 (D.progR px py (fullL am)).1 := hwr 148 (by kernel_rfl)
                  have f149 : a'.tmps.getD 149 undef = .bool true := hwr 149 (by kernel_rfl)
                  have f11 : a'.tmps.getD 11 undef = .bool true := hwr 11 (by kernel_rfl)
                  have hfr := Flo2.frame_eq [(137, .pointer (some ⟨m.k, 0, none⟩)), (138, .agg #[.int .i64 px, .int .i64 py]), (139, .pointer (some ⟨ga, 3, none⟩)), (140, .slice aA an ac), (141, v141), (142, .int .i64 (D.progR px py (fullL am)).1), (143, .pointer (some ⟨m.r, 0, none⟩)), (144, .agg #[.int .i64 px, .int .i64 py]), (145, .pointer (some ⟨ga, 3, none⟩)), (146, .slice aA an ac), (147, v147), (148, .int .i64 (D.progR px py (fullL am)).1), (149, .bool true), (11, .bool true)] a'.tmps _ hsz (by
                    intro x hx
                    simp only [List.mem_cons, List.not_mem_nil, or_false] at hx
                    rcases hx with h | h | h | h | h | h | h | h | h | h | h | h | h | h <;> subst h
                    · exact f137
                    · exact f138
                    · exact f139
                    · exact f140
                    · exact f141
                    · exact f142
                    · exact f143
                    · exact f144
                    · exact f145
                    · exact f146
                    · exact f147
                    · exact f148
                    · exact f149
                    · exact f11) (fun t ht => hkp t (Flo3.writes_not _ _ (by kernel_rfl) ht))
                  have ha := Flo3.act_ext hfr hdf
                  have HSe := hide hS'
                  clear hfr hwr hkp hsz hdf hΦ hS' f141 f147 f137 f138 f139 f140 f142 f143 f144 f145 f146 f148 f149 f11
                  subst ha
                  simp only [Flo2.puts, List.foldl_cons, List.foldl_nil, List.setIfInBounds_toArray, List.set, Exit.then]
                  go_wp2_with fail
                  go_meet
                  exact ⟨rfl, _, HSe.out, Nat.le_trans (Dv.progR_ops _ _ _ _) (Nat.succ_le_succ HP.out)⟩
              have k1 : (kd == 1) = false := beq_eq_false_iff_ne.2 h1
              by_cases h2 : kd = 2
              · subst h2
                have k0 := BA9.out.c 0 _ rfl
                simp only at k0
                go_upto_region 25 with fail
                clear k0
                refine Big.wp_region_big (by kernel_rfl) (fun d v => match d with | 137 => v = .pointer (some ⟨m.k, 0, none⟩) | 138 => v = .agg #[.int .i64 px, .int .i64 py] | 139 => v = .pointer (some ⟨ga, 3, none⟩) | 140 => v = .slice aA an ac | 141 => ∃ A' c', v = .slice A' 256 c' | 142 => v = .int .i64 (D.progR px py (fullL am)).1 | 143 => v = .pointer (some ⟨m.r, 0, none⟩) | 144 => v = .agg #[.int .i64 px, .int .i64 py] | 145 => v = .pointer (some ⟨ga, 3, none⟩) | 146 => v = .slice aA an ac | 147 => ∃ A' c', v = .slice A' 256 c' | 148 => v = .int .i64 (D.progR px py (fullL am)).1 | 149 => v = .bool true | 11 => v = .bool true | _ => True) (PhiD w w8 q D (D.progR px py (fullL am)).2 m (fullL am)) [4, 5, 10, 11] [141, 147] (by kernel_rfl) (by kernel_rfl) (by decide) (PhiD.loc _ _ _ _ _ _ _) (⟨(Tch.refl _ _).drew, .inl ⟨rfl, HS9.out.next (Below.refl _ _).drew⟩⟩) ⟨?_, ?_, ?_, ?_, ?_, ?_, ?_, ?_, ?_, ?_, ?_, ?_, ?_, ?_, trivial⟩ ?_
                · refine Big.small (by decide) ?_
                  intro i' a' w' hi' hΦ h'
                  have ht := hΦ.1
                  have e5 : a'.tmps.getD 5 undef = .pointer (some ⟨m.k, 0, none⟩) := Big.sb h' 5 (by kernel_rfl) (by kernel_rfl) rfl
                  exact .val (want0 rfl) rfl (by simp [Act.eval, e5, go_sem]) rfl
                · refine Big.small (by decide) ?_
                  intro i' a' w' hi' hΦ h'
                  have ht := hΦ.1
                  have cx := ht.cellS Hop.out HP9.out.x
                  have cy := ht.cellS Hop.out HP9.out.y
                  have e10 : a'.tmps.getD 10 undef = .pointer (some ⟨gp, 0, none⟩) := Big.sb h' 10 (by kernel_rfl) (by kernel_rfl) rfl
                  exact .val (want0 rfl) rfl (by simp [Act.eval, e10, cx, cy, go_sem]) rfl
                · refine Big.small (by decide) ?_
                  intro i' a' w' hi' hΦ h'
                  have ht := hΦ.1
                  have e9 : a'.tmps.getD 9 undef = .pointer (some ⟨ga, 0, none⟩) := Big.sb h' 9 (by kernel_rfl) (by kernel_rfl) rfl
                  exact .val (want0 rfl) rfl (by simp [Act.eval, e9, go_sem]) rfl
                · refine Big.small (by decide) ?_
                  intro i' a' w' hi' hΦ h'
                  have ht := hΦ.1
                  have cc := ht.cellS Hoa.out (BA9.out.c 3 (.slice aA an ac) rfl)
                  have e139 : a'.tmps.getD 139 undef = .pointer (some ⟨ga, 3, none⟩) := Big.sw h' 139 (by kernel_rfl) (by kernel_rfl)
                  exact .val (want0 rfl) rfl (by simp [Act.eval, e139, cc, go_sem]) rfl
                · refine Big.great (i := 0) rfl (by decide) ?_
                  intro a' w' hsz' hΦ h'
                  have hS' := hΦ.at0
                  have e140 : a'.tmps.getD 140 undef = .slice aA an ac := Big.sw h' 140 (by kernel_rfl) (by kernel_rfl)
                  have hA' := Hac.out.below hS'.below
                  refine .called (d := 141) (want0 rfl) rfl (by simp [Act.eval, e140, go_sem]) ((full_any aA an ac w.heap.size am w' hA'.lies hA'.len hS'.below.size (Nat.le_trans hm3 (by decide))).mono ?_)
                  rintro e w9 ⟨A', c', rfl, ho, hb9⟩
                  exact ⟨_, rfl, ⟨A', c', rfl⟩, hΦ.1.trans (Tch.of_below hb9), .inr (.inl ⟨rfl, hS'.next hb9, A', c', Big.slots_put (by rw [hsz']; simp), LiesT.of_own ho⟩)⟩
                · refine Big.great (i := 1) rfl (by decide) ?_
                  intro a' w' hsz' hΦ h'
                  obtain ⟨hS', A', c', e141, hl'⟩ := hΦ.at1
                  have e141' : a'.tmps.getD 141 undef = .slice A' 256 c' := e141
                  have e137 : a'.tmps.getD 137 undef = .pointer (some ⟨m.k, 0, none⟩) := Big.sw h' 137 (by kernel_rfl) (by kernel_rfl)
                  have e138 : a'.tmps.getD 138 undef = .agg #[.int .i64 px, .int .i64 py] := Big.sw h' 138 (by kernel_rfl) (by kernel_rfl)
                  refine .called (d := 142) (want0 rfl) rfl (by simp [Act.eval, e137, e138, e141', go_sem]) ((dprog_any hS'.dev hS'.bigB HOP.out px py A' c' (fullL am) hl' (fullL_len am)).mono ?_)
                  rintro e w9 ⟨rfl, hd9, ht9⟩
                  exact ⟨_, rfl, rfl, hΦ.1.trans ht9.devS, .inr (.inr (.inl ⟨rfl, hS'.dev_step hd9 ht9 (Dv.progR_g _ _ _ _)⟩))⟩
                · refine Big.small (by decide) ?_
                  intro i' a' w' hi' hΦ h'
                  have ht := hΦ.1
                  have e7 : a'.tmps.getD 7 undef = .pointer (some ⟨m.r, 0, none⟩) := Big.sb h' 7 (by kernel_rfl) (by kernel_rfl) rfl
                  exact .val (want0 rfl) rfl (by simp [Act.eval, e7, go_sem]) rfl
                · refine Big.small (by decide) ?_
                  intro i' a' w' hi' hΦ h'
                  have ht := hΦ.1
                  have cx := ht.cellS Hop.out HP9.out.x
                  have cy := ht.cellS Hop.out HP9.out.y
                  have e10 : a'.tmps.getD 10 undef = .pointer (some ⟨gp, 0, none⟩) := Big.sb h' 10 (by kernel_rfl) (by kernel_rfl) rfl
                  exact .val (want0 rfl) rfl (by simp [Act.eval, e10, cx, cy, go_sem]) rfl
                · refine Big.small (by decide) ?_
                  intro i' a' w' hi' hΦ h'
                  have ht := hΦ.1
                  have e9 : a'.tmps.getD 9 undef = .pointer (some ⟨ga, 0, none⟩) := Big.sb h' 9 (by kernel_rfl) (by kernel_rfl) rfl
                  exact .val (want0 rfl) rfl (by simp [Act.eval, e9, go_sem]) rfl
                · refine Big.small (by decide) ?_
                  intro i' a' w' hi' hΦ h'
                  have ht := hΦ.1
                  have cc := ht.cellS Hoa.out (BA9.out.c 3 (.slice aA an ac) rfl)
                  have e145 : a'.tmps.getD 145 undef = .pointer (some ⟨ga, 3, none⟩) := Big.sw h' 145 (by kernel_rfl) (by kernel_rfl)
                  exact .val (want0 rfl) rfl (by simp [Act.eval, e145, cc, go_sem]) rfl
                · refine Big.great (i := 2) rfl (by decide) ?_
                  intro a' w' hsz' hΦ h'
                  have hS' := hΦ.at2
                  have e146 : a'.tmps.getD 146 undef = .slice aA an ac := Big.sw h' 146 (by kernel_rfl) (by kernel_rfl)
                  have hA' := Hac.out.below hS'.below
                  refine .called (d := 147) (want0 rfl) rfl (by simp [Act.eval, e146, go_sem]) ((full_any aA an ac w.heap.size am w' hA'.lies hA'.len hS'.below.size (Nat.le_trans hm3 (by decide))).mono ?_)
                  rintro e w9 ⟨A', c', rfl, ho, hb9⟩
                  exact ⟨_, rfl, ⟨A', c', rfl⟩, hΦ.1.trans (Tch.of_below hb9), .inr (.inr (.inr (.inl ⟨rfl, hS'.next hb9, A', c', Big.slots_put (by rw [hsz']; simp), LiesT.of_own ho⟩)))⟩
                · refine Big.great (i := 3) rfl (by decide) ?_
                  intro a' w' hsz' hΦ h'
                  obtain ⟨hS', A', c', e147, hl'⟩ := hΦ.at3
                  have e147' : a'.tmps.getD 147 undef = .slice A' 256 c' := e147
                  have e143 : a'.tmps.getD 143 undef = .pointer (some ⟨m.r, 0, none⟩) := Big.sw h' 143 (by kernel_rfl) (by kernel_rfl)
                  have e144 : a'.tmps.getD 144 undef = .agg #[.int .i64 px, .int .i64 py] := Big.sw h' 144 (by kernel_rfl) (by kernel_rfl)
                  refine .called (d := 148) (want0 rfl) rfl (by simp [Act.eval, e143, e144, e147', go_sem]) ((rprog_any hS'.ref hS'.pos.2.2.2 HOP.out Hpl.out px py A' c' (fullL am) hl' (fullL_len am)).mono ?_)
                  rintro e w9 ⟨rfl, hd9, ht9⟩
                  exact ⟨_, rfl, rfl, hΦ.1.trans ht9.refS, .inr (.inr (.inr (.inr ⟨Nat.le_refl _, hS'.ref_step hd9 ht9 (Dv.progR_g _ _ _ _)⟩)))⟩
                · refine Big.small (by decide) ?_
                  intro i' a' w' hi' hΦ h'
                  have ht := hΦ.1
                  have e142 : a'.tmps.getD 142 undef = .int .i64 (D.progR px py (fullL am)).1 := Big.sw h' 142 (by kernel_rfl) (by kernel_rfl)
                  have e148 : a'.tmps.getD 148 undef = .int .i64 (D.progR px py (fullL am)).1 := Big.sw h' 148 (by kernel_rfl) (by kernel_rfl)
                  exact .val (want0 rfl) rfl (by simp [Act.eval, (by simpa using e142 : a'.tmps[142]?.getD undef = _), (by simpa using e148 : a'.tmps[148]?.getD undef = _), go_sem]) rfl
                · refine Big.small (by decide) ?_
                  intro i' a' w' hi' hΦ h'
                  have ht := hΦ.1
                  have e149 : a'.tmps.getD 149 undef = .bool true := Big.sw h' 149 (by kernel_rfl) (by kernel_rfl)
                  exact .val (want0 rfl) rfl (by simp [Act.eval, e149, go_sem]) rfl
                · intro a' w' hdf hsz hwr hkp hΦ
                  have hS' := hΦ.at4
                  obtain ⟨v141, f141⟩ : ∃ v, a'.tmps.getD 141 undef = v := ⟨_, rfl⟩
                  obtain ⟨v147, f147⟩ : ∃ v, a'.tmps.getD 147 undef = v := ⟨_, rfl⟩
                  have f137 : a'.tmps.getD 137 undef = .pointer (some ⟨m.k, 0, none⟩) := hwr 137 (by kernel_rfl)
                  have f138 : a'.tmps.getD 138 undef = .agg #[.int .i64 px, .int .i64 py] := hwr 138 (by kernel_rfl)
                  have f139 : a'.tmps.getD 139 undef = .pointer (some ⟨ga, 3, none⟩) := hwr 139 (by kernel_rfl)
                  have f140 : a'.tmps.getD 140 undef = .slice aA an ac := hwr 140 (by kernel_rfl)
                  have f142 : a'.tmps.getD 142 undef = .int .i64 (D.progR px py (fullL am)).1 := hwr 142 (by kernel_rfl)
                  have f143 : a'.tmps.getD 143 undef = .pointer (some ⟨m.r, 0, none⟩) := hwr 143 (by kernel_rfl)
                  have f144 : a'.tmps.getD 144 undef = .agg #[.int .i64 px, .int .i64 py] := hwr 144 (by kernel_rfl)
                  have f145 : a'.tmps.getD 145 undef = .pointer (some ⟨ga, 3, none⟩) := hwr 145 (by kernel_rfl)
                  have f146 : a'.tmps.getD 146 undef = .slice aA an ac := hwr 146 (by kernel_rfl)
                  have f148 : a'.tmps.getD 148 undef = .int .i64 (D.progR px py (fullL am)).1 := hwr 148 (by kernel_rfl)
                  have f149 : a'.tmps.getD 149 undef = .bool true := hwr 149 (by kernel_rfl)
                  have f11 : a'.tmps.getD 11 undef = .bool true := hwr 11 (by kernel_rfl)
                  have hfr := Flo2.frame_eq [(137, .pointer (some ⟨m.k, 0, none⟩)), (138, .agg #[.int .i64 px, .int .i64 py]), (139, .pointer (some ⟨ga, 3, none⟩)), (140, .slice aA an ac), (141, v141), (142, .int .i64 (D.progR px py (fullL am)).1), (143, .pointer (some ⟨m.r, 0, none⟩)), (144, .agg #[.int .i64 px, .int .i64 py]), (145, .pointer (some ⟨ga, 3, none⟩)), (146, .slice aA an ac), (147, v147), (148, .int .i64 (D.progR px py (fullL am)).1), (149, .bool true), (11, .bool true)] a'.tmps _ hsz (by
                    intro x hx
                    simp only [List.mem_cons, List.not_mem_nil, or_false] at hx
                    rcases hx with h | h | h | h | h | h | h | h | h | h | h | h | h | h <;> subst h
                    · exact f137
                    · exact f138
                    · exact f139
                    · exact f140
                    · exact f141
                    · exact f142
                    · exact f143
                    · exact f144
                    · exact f145
                    · exact f146
                    · exact f147
                    · exact f148
                    · exact f149
                    · exact f11) (fun t ht => hkp t (Flo3.writes_not _ _ (by kernel_rfl) ht))
                  have ha := Flo3.act_ext hfr hdf
                  have HSe := hide hS'
                  clear hfr hwr hkp hsz hdf hΦ hS' f141 f147 f137 f138 f139 f140 f142 f143 f144 f145 f146 f148 f149 f11
                  subst ha
                  simp only [Flo2.puts, List.foldl_cons, List.foldl_nil, List.setIfInBounds_toArray, List.set, Exit.then]
                  go_wp2_with fail
                  go_meet
                  exact ⟨rfl, _, HSe.out, Nat.le_trans (Dv.progR_ops _ _ _ _) (Nat.succ_le_succ HP.out)⟩
              have k2 : (kd == 2) = false := beq_eq_false_iff_ne.2 h2
              by_cases h3 : kd = 3
              · subst h3
                go_upto_region 27 with fail
                refine Big.wp_region_big (by kernel_rfl) (fun d v => match d with | 152 => v = .pointer (some ⟨m.k, 0, none⟩) | 153 => v = .pointer (some ⟨gp, 0, none⟩) | 154 => v = .int .i64 px | 155 => v = .int .i64 (D.eraR px).1 | 156 => v = .pointer (some ⟨m.r, 0, none⟩) | 157 => v = .pointer (some ⟨gp, 0, none⟩) | 158 => v = .int .i64 px | 159 => v = .int .i64 (D.eraR px).1 | 160 => v = .bool true | 11 => v = .bool true | _ => True) (PhiX w w8 q D (D.eraR px).2 m) [3, 7] [] (by kernel_rfl) (by kernel_rfl) (by decide) (PhiX.loc _ _ _ _ _ _) (⟨(Tch.refl _ _).drew, .inl ⟨rfl, HS9.out.next (Below.refl _ _).drew⟩⟩) ⟨?_, ?_, ?_, ?_, ?_, ?_, ?_, ?_, ?_, ?_, trivial⟩ ?_
                · refine Big.small (by decide) ?_
                  intro i' a' w' hi' hΦ h'
                  have ht := hΦ.1
                  have e5 : a'.tmps.getD 5 undef = .pointer (some ⟨m.k, 0, none⟩) := Big.sb h' 5 (by kernel_rfl) (by kernel_rfl) rfl
                  exact .val (want0 rfl) rfl (by simp [Act.eval, e5, go_sem]) rfl
                · refine Big.small (by decide) ?_
                  intro i' a' w' hi' hΦ h'
                  have ht := hΦ.1
                  have e10 : a'.tmps.getD 10 undef = .pointer (some ⟨gp, 0, none⟩) := Big.sb h' 10 (by kernel_rfl) (by kernel_rfl) rfl
                  exact .val (want0 rfl) rfl (by simp [Act.eval, e10, go_sem]) rfl
                · refine Big.small (by decide) ?_
                  intro i' a' w' hi' hΦ h'
                  have ht := hΦ.1
                  have cx := ht.cellS Hop.out HP9.out.x
                  have e153 : a'.tmps.getD 153 undef = .pointer (some ⟨gp, 0, none⟩) := Big.sw h' 153 (by kernel_rfl) (by kernel_rfl)
                  exact .val (want0 rfl) rfl (by simp [Act.eval, e153, cx, go_sem]) rfl
                · refine Big.great (i := 0) rfl (by decide) ?_
                  intro a' w' hsz' hΦ h'
                  have hS' := hΦ.at0
                  have e152 : a'.tmps.getD 152 undef = .pointer (some ⟨m.k, 0, none⟩) := Big.sw h' 152 (by kernel_rfl) (by kernel_rfl)
                  have e154 : a'.tmps.getD 154 undef = .int .i64 px := Big.sw h' 154 (by kernel_rfl) (by kernel_rfl)
                  refine .called (d := 155) (want0 rfl) rfl (by simp [Act.eval, e152, e154, go_sem]) ((dera_any hS'.dev hS'.bigB HOP.out px).mono ?_)
                  rintro e w9 ⟨rfl, hd9, ht9⟩
                  exact ⟨_, rfl, rfl, hΦ.1.trans ht9.devS, .inr (.inl ⟨rfl, hS'.dev_step hd9 ht9 (Dv.eraR_g _ _)⟩)⟩
                · refine Big.small (by decide) ?_
                  intro i' a' w' hi' hΦ h'
                  have ht := hΦ.1
                  have e7 : a'.tmps.getD 7 undef = .pointer (some ⟨m.r, 0, none⟩) := Big.sb h' 7 (by kernel_rfl) (by kernel_rfl) rfl
                  exact .val (want0 rfl) rfl (by simp [Act.eval, e7, go_sem]) rfl
                · refine Big.small (by decide) ?_
                  intro i' a' w' hi' hΦ h'
                  have ht := hΦ.1
                  have e10 : a'.tmps.getD 10 undef = .pointer (some ⟨gp, 0, none⟩) := Big.sb h' 10 (by kernel_rfl) (by kernel_rfl) rfl
                  exact .val (want0 rfl) rfl (by simp [Act.eval, e10, go_sem]) rfl
                · refine Big.small (by decide) ?_
                  intro i' a' w' hi' hΦ h'
                  have ht := hΦ.1
                  have cx := ht.cellS Hop.out HP9.out.x
                  have e157 : a'.tmps.getD 157 undef = .pointer (some ⟨gp, 0, none⟩) := Big.sw h' 157 (by kernel_rfl) (by kernel_rfl)
                  exact .val (want0 rfl) rfl (by simp [Act.eval, e157, cx, go_sem]) rfl
                · refine Big.great (i := 1) rfl (by decide) ?_
                  intro a' w' hsz' hΦ h'
                  have hS' := hΦ.at1
                  have e156 : a'.tmps.getD 156 undef = .pointer (some ⟨m.r, 0, none⟩) := Big.sw h' 156 (by kernel_rfl) (by kernel_rfl)
                  have e158 : a'.tmps.getD 158 undef = .int .i64 px := Big.sw h' 158 (by kernel_rfl) (by kernel_rfl)
                  refine .called (d := 159) (want0 rfl) rfl (by simp [Act.eval, e156, e158, go_sem]) ((rera_any hS'.ref hS'.pos.2.2.2 HOP.out Hwe.out Hpl.out px).mono ?_)
                  rintro e w9 ⟨rfl, hd9, ht9⟩
                  exact ⟨_, rfl, rfl, hΦ.1.trans ht9.refS, .inr (.inr ⟨Nat.le_refl _, hS'.ref_step hd9 ht9 (Dv.eraR_g _ _)⟩)⟩
                · refine Big.small (by decide) ?_
                  intro i' a' w' hi' hΦ h'
                  have ht := hΦ.1
                  have e155 : a'.tmps.getD 155 undef = .int .i64 (D.eraR px).1 := Big.sw h' 155 (by kernel_rfl) (by kernel_rfl)
                  have e159 : a'.tmps.getD 159 undef = .int .i64 (D.eraR px).1 := Big.sw h' 159 (by kernel_rfl) (by kernel_rfl)
                  exact .val (want0 rfl) rfl (by simp [Act.eval, (by simpa using e155 : a'.tmps[155]?.getD undef = _), (by simpa using e159 : a'.tmps[159]?.getD undef = _), go_sem]) rfl
                · refine Big.small (by decide) ?_
                  intro i' a' w' hi' hΦ h'
                  have ht := hΦ.1
                  have e160 : a'.tmps.getD 160 undef = .bool true := Big.sw h' 160 (by kernel_rfl) (by kernel_rfl)
                  exact .val (want0 rfl) rfl (by simp [Act.eval, e160, go_sem]) rfl
                · intro a' w' hdf hsz hwr hkp hΦ
                  have hS' := hΦ.at2
                  have f152 : a'.tmps.getD 152 undef = .pointer (some ⟨m.k, 0, none⟩) := hwr 152 (by kernel_rfl)
                  have f153 : a'.tmps.getD 153 undef = .pointer (some ⟨gp, 0, none⟩) := hwr 153 (by kernel_rfl)
                  have f154 : a'.tmps.getD 154 undef = .int .i64 px := hwr 154 (by kernel_rfl)
                  have f155 : a'.tmps.getD 155 undef = .int .i64 (D.eraR px).1 := hwr 155 (by kernel_rfl)
                  have f156 : a'.tmps.getD 156 undef = .pointer (some ⟨m.r, 0, none⟩) := hwr 156 (by kernel_rfl)
                  have f157 : a'.tmps.getD 157 undef = .pointer (some ⟨gp, 0, none⟩) := hwr 157 (by kernel_rfl)
                  have f158 : a'.tmps.getD 158 undef = .int .i64 px := hwr 158 (by kernel_rfl)
                  have f159 : a'.tmps.getD 159 undef = .int .i64 (D.eraR px).1 := hwr 159 (by kernel_rfl)
                  have f160 : a'.tmps.getD 160 undef = .bool true := hwr 160 (by kernel_rfl)
                  have f11 : a'.tmps.getD 11 undef = .bool true := hwr 11 (by kernel_rfl)
                  have hfr := Flo2.frame_eq [(152, .pointer (some ⟨m.k, 0, none⟩)), (153, .pointer (some ⟨gp, 0, none⟩)), (154, .int .i64 px), (155, .int .i64 (D.eraR px).1), (156, .pointer (some ⟨m.r, 0, none⟩)), (157, .pointer (some ⟨gp, 0, none⟩)), (158, .int .i64 px), (159, .int .i64 (D.eraR px).1), (160, .bool true), (11, .bool true)] a'.tmps _ hsz (by
                    intro x hx
                    simp only [List.mem_cons, List.not_mem_nil, or_false] at hx
                    rcases hx with h | h | h | h | h | h | h | h | h | h <;> subst h
                    · exact f152
                    · exact f153
                    · exact f154
                    · exact f155
                    · exact f156
                    · exact f157
                    · exact f158
                    · exact f159
                    · exact f160
                    · exact f11) (fun t ht => hkp t (Flo3.writes_not _ _ (by kernel_rfl) ht))
                  have ha := Flo3.act_ext hfr hdf
                  have HSe := hide hS'
                  clear hfr hwr hkp hsz hdf hΦ hS' f152 f153 f154 f155 f156 f157 f158 f159 f160 f11
                  subst ha
                  simp only [Flo2.puts, List.foldl_cons, List.foldl_nil, List.setIfInBounds_toArray, List.set, Exit.then]
                  go_wp2_with fail
                  go_meet
                  exact ⟨rfl, _, HSe.out, Nat.le_trans (Dv.eraR_ops _ _) (Nat.succ_le_succ HP.out)⟩
              have k3 : (kd == 3) = false := beq_eq_false_iff_ne.2 h3
              by_cases h4 : kd = 4
              · subst h4
                have Pw := hide (power_any HS9.out.dev HS9.out.bigB)
                go_wp2_with fail
                (with_reducible refine Pw.out.mono ?_)
                rintro e w9 ⟨rfl, hd, ht⟩
                have hSa := HS9.out.dev_step hd ht rfl
                have c9 : w9.cell? ⟨m.r, 9, none⟩ = some (.bool D.dn) := hSa.ref.c 9 _ rfl
                have f9 := hSa.ref.f 9
                have HSe := hide (hSa.ref_step (hSa.ref.set_down false) (Tch.set (by simp) _) rfl)
                clear Pw hd ht hSa
                go_wp2_with fail
                go_meet
                exact ⟨rfl, _, HSe.out, Nat.le_succ_of_le HP.out⟩
              have k4 : (kd == 4) = false := beq_eq_false_iff_ne.2 h4
              clear h1 h2 h3 h4
              have Fd := hide (dread_any HS9.out.dev HS9.out.bigB px py)
              have cx := HP9.out.x
              have cy := HP9.out.y
              go_wp2_with fail
              (with_reducible refine Fd.out.mono ?_)
              rintro e w9 ⟨A1, n1, c1, rfl, hl, hn, hb⟩
              have HSr := hide (HS9.out.next hb)
              have hP2 := HP9.out.below hb Hgp9.out
              have Hl := hide hl
              have Hn1 := hide hn
              have Fr := hide (rread_any HSr.out.ref HSr.out.pos.2.2.2 px py)
              obtain ⟨f0, l, hfl⟩ : ∃ f0 l, D.readR px py = (f0, l) := ⟨_, _, rfl⟩
              rw [hfl] at Hl Hn1 Fr
              rw [hfl]
              clear Fd cx cy hl hn hb hfl
              have cx := hP2.x
              have cy := hP2.y
              clear hP2
              go_wp2_with fail
              (with_reducible refine Fr.out.mono ?_)
              rintro e w10 ⟨rfl, hb⟩
              have HSe := hide (HSr.out.next hb)
              have hst := strU8 c1 (Hl.out.below hb) Hn1.out
              clear Fr hb cx cy Hl Hn1
              go_wp2_with fail
              go_meet
              exact ⟨rfl, _, HSe.out, Nat.le_succ_of_le HP.out⟩
            case rest =>
              obtain ⟨rfl, D2, hS, hops⟩ := hcut
              have FS := hide (same_any hS.dev hS.ref)
              have HS10 := hide hS
              have HO10 := hide hops
              have hltn := hlt
              have Hlt := hide hlt
              clear hS hops HS9 BA9 HP9 hltn
              go_wp2_with fail
              (with_reducible refine FS.out.mono ?_)
              rintro e w9 ⟨rfl, hb⟩
              have HS11 := hide (HS10.out.next hb)
              clear hb FS HS10
              go_wp2_with fail
              go_roundw
              case rel => exact ⟨j + 1, Nat.succ_le_of_lt Hlt.out, h40, rfl, D2, HS11.out, HO10.out⟩
              case measure => simp [intOf]; omega
    · go_wp2
      all_goals
        go_ret
        exact ⟨rfl, HS.out.below⟩
end Go.Proofs.Ytppecnimpnlipaa
