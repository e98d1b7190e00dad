/-
  The walk of NandOneWay, the loop. (By gen/OLaw.gen.py.)
-/
import Derived.Test.YtkmkepkkdgpbiaaOLs
namespace Go.Proofs.Ytkmkepkkdgpbiaa
open Go.RowKit
open Go.Sort

set_option maxRecDepth 4000 in
set_option maxHeartbeats 8000000 in
theorem oneWay_on (q : Pn) (A : Option Addr) (n c : Nat) (al : List Ac) (w : World) (hq : q.Ok w w.heap.size) (hl : q.light = true) (hr : q.g.Right) (hA : Lies w w.heap.size A (al.flatMap Ac.cells)) (hn : n = al.length) (hok : ∀ a ∈ al, a.Ok w w.heap.size) :
    Calls Try.prog 4 #[q.val, .slice A n c] w fun e w' => e = .returned (.bool true) ∧ Below w.heap.size w w' := by
  have b1 := (Below.refl w.heap.size w).alloc (Nat.le_refl _) (.cells #[.int .i64 q.g.b, .int .i64 q.g.p, .int .i64 q.g.r, .slice q.A1 q.n1 q.c1, .slice q.A2 q.n2 q.c2] 27)
  have Hb1 := hide b1
  have hx1 : BoxQ q w.heap.size (w.alloc (.cells #[.int .i64 q.g.b, .int .i64 q.g.p, .int .i64 q.g.r, .slice q.A1 q.n1 q.c1, .slice q.A2 q.n2 q.c2] 27)) := heap_alloc_new w _
  have FL := hide (light_any q w.heap.size _ (hq.below b1) b1.size)
  have Hx1 := hide hx1
  have hs1 : w.heap.size < (w.alloc (.cells #[.int .i64 q.g.b, .int .i64 q.g.p, .int .i64 q.g.r, .slice q.A1 q.n1 q.c1, .slice q.A2 q.n2 q.c2] 27)).heap.size := by simp
  have Hs1 := hide hs1
  have Hq := hide hq
  have HA := hide hA
  have Hn := hide hn
  have Hok := hide hok
  have Hr := hide hr
  have Hl : Hid (q.n1 ≤ 60 ∧ q.n2 ≤ 40) := hide (by
    unfold Pn.light at hl
    simp only [Bool.and_eq_true, decide_eq_true_eq] at hl
    exact hl.1)
  rw [hl] at FL
  have FR := hide (fun W => right13_any q.g W)
  rw [decide_eq_true hr] at FR
  unfold Gm.val at FR
  clear b1 hx1 hs1 hq hl hr hA hn hok
  unfold Pn.val at *
  go_enter Try.func4, Try.ntmps4
  go_wp2_with fail
  (with_reducible refine FL.out.mono ?_)
  rintro e w1 ⟨rfl, hb⟩
  have Hb2 := hide (Hb1.out.trans (hb.mono Hb1.out.size))
  have Hx2 := hide (Hx1.out.below hb Hs1.out)
  have Hs2 := hide (Nat.lt_of_lt_of_le Hs1.out hb.size)
  have c0 := Hx2.out.c 0 _ rfl
  have c1 := Hx2.out.c 1 _ rfl
  have c2 := Hx2.out.c 2 _ rfl
  clear hb FL Hb1 Hx1 Hs1
  go_wp2_with fail
  (with_reducible refine (FR.out _).mono ?_)
  rintro e w2 ⟨rfl, hb⟩
  have Hb3 := hide (Hb2.out.trans (hb.mono Hb2.out.size))
  have Hx3 := hide (Hx2.out.below hb Hs2.out)
  have Hs3 := hide (Nat.lt_of_lt_of_le Hs2.out hb.size)
  clear hb FR Hb2 Hx2 Hs2 c0 c1 c2
  go_wp2_with fail
  (with_reducible refine (awake14_any _).mono ?_)
  rintro e w3 ⟨rfl, hb⟩
  have Hb4 := hide (Hb3.out.trans (hb.mono Hb3.out.size))
  have Hx4 := hide (Hx3.out.below hb Hs3.out)
  have Hs4 := hide (Nat.lt_of_lt_of_le Hs3.out hb.size)
  clear hb Hb3 Hx3 Hs3
  have c0 := Hx4.out.c 0 _ rfl
  have c1 := Hx4.out.c 1 _ rfl
  have c2 := Hx4.out.c 2 _ rfl
  have c3 := Hx4.out.c 3 _ rfl
  have c4 := Hx4.out.c 4 _ rfl
  go_wp2_with fail
  have Hq4 := hide (Hq.out.below Hb4.out)
  have FN := hide (new_ok q.g q.A1 q.A2 q.n1 q.c1 q.n2 q.c2 w.heap.size q.bl q.fl w3 Hr.out Hq4.out.l1 Hq4.out.h1 (by have := Hl.out; omega) Hq4.out.l2 Hq4.out.h2 (by have := Hl.out; omega) Hq4.out.h3 Hb4.out.size)
  unfold Gm.val at FN
  (with_reducible refine FN.out.mono ?_)
  rintro e w5 ⟨k, kb, kp, km, rfl, hd, hb⟩
  have Hb5 := hide (Hb4.out.trans (hb.mono Hb4.out.size))
  have Hx5 := hide (Hx4.out.below hb Hs4.out)
  have hd5 := hd
  obtain ⟨D, hD⟩ : ∃ D, D = Dv.fresh q.g q.bl q.fl := ⟨_, rfl⟩
  rw [← hD] at hd5
  have Hg : Hid (D.g = q.g) := hide (by rw [hD]; rfl)
  have Ho : Hid (OW D (fun _ => [])) := hide (by rw [hD]; exact OW.start _ _ _)
  have Hops : Hid (D.ops ≤ 0) := hide (by rw [hD]; exact Nat.le_refl _)
  have Hd5 := hide hd5
  obtain ⟨s1, s2, s3, s4, s5, s6⟩ := hd5.sides
  have hN : D.nb * D.np ≤ 34 * 32 := Nat.mul_le_mul s2 s4
  rw [Hg.out] at s5 s6
  have e0 : IntKind.i64.wrap (q.g.b * q.g.p) = ((D.nb * D.np : Nat) : Int) := by
    rw [s5, s6, ← Int.natCast_mul]; exact IntWalk.i64_in _ (by omega)
  have e0w : wrap64 (q.g.b * q.g.p) = ((D.nb * D.np : Nat) : Int) := by
    rw [s5, s6, ← Int.natCast_mul]; exact i64w (by omega)
  obtain ⟨N, hN2⟩ : ∃ N, N = D.nb * D.np := ⟨_, rfl⟩
  rw [← hN2] at e0 e0w hN
  have HN2 := hide hN2
  obtain ⟨hmk, hrow⟩ := make_strs w5 N hN
  have Hrow := hide hrow
  have HNb := hide hN
  have Hlt4 := hide Hs4.out
  have Hsz5 := hide hb.size
  clear c0 c1 c2 c3 c4 hd hb hd5 hD FN Hx4 hrow s1 s2 s3 s4 s5 s6 hN hN2
  have c0 := Hx5.out.c 0 _ rfl
  have c1 := Hx5.out.c 1 _ rfl
  go_wp2
  generalize hwm : w5.alloc (.cells (madeCells #[.string ⟨#[]⟩] N) 9) = w6 at *
  have b6 : Below w5.heap.size w5 w6 := by rw [← hwm]; exact (Below.refl _ _).alloc (Nat.le_refl _) _
  have S0 := hide (show LS w q D (fun _ => []) k kb kp km w3.heap.size w5.heap.size w.heap.size w5.heap.size N w6 from
    ⟨Hd5.out.below b6, Hx5.out.below b6 (by have := Hlt4.out; have := Hsz5.out; omega), Hrow.out, Hb5.out.trans (b6.mono Hb5.out.size), ⟨Nat.le_refl _, Hlt4.out, Nat.le_of_lt Hlt4.out, Hsz5.out, Nat.le_refl _⟩, Hg.out, HN2.out⟩)
  have HB0 := hide Hlt4.out
  clear hwm b6 hmk c0 c1 e0 e0w Hrow Hd5 Hx5 Hb5 Hb4 Hq4 Hg HN2
  generalize w5.heap.size = gw at *
  generalize w3.heap.size = B0 at *
  go_loopw [9] (fun i wr => ∃ j : Nat, j ≤ n ∧ j ≤ 30 ∧ i = .int .i64 (j : Int) ∧ ∃ D want, LS w q D want k kb kp km B0 gw w.heap.size gw N wr ∧ OW D want ∧ D.ops ≤ j) (fun i _ => n - (intOf i).toNat)
  case atStart => exact ⟨0, Nat.zero_le _, Nat.zero_le _, rfl, D, _, S0.out, Ho.out, Hops.out⟩
  case round =>
    clear S0 Ho Hops
    obtain ⟨j, hj, hj30, rfl, D, want, hS, hO, hops⟩ := hrel
    have HS := hide hS
    have HO := hide hO
    have HP := hide hops
    by_cases hgo : j < n ∧ j < 30
    · obtain ⟨hlt, h30⟩ := hgo
      have hlt' : (j : Int) < (n : Int) := by omega
      have h30' : (j : Int) < 30 := by omega
      have hjl : j < al.length := by rw [← Hn.out]; exact hlt
      obtain ⟨ad, rfl, hab, hca⟩ := (HA.out.below hS.below).elem Ac.cells_len hjl (by decide)
      have Hac := hide ((Hok.out _ (List.getElem_mem hjl)).below hS.below)
      have e1 : wrap64 ((j : Int) + 1) = ((j + 1 : Nat) : Int) := by rw [i64w (by omega)]; rfl
      generalize al[j] = a at *
      rcases a with ⟨kd, ax, ay, aA, an, ac, am⟩
      have Hca : Hid (∀ i v, [Value.int .i64 kd, .int .i64 ax, .int .i64 ay, .slice aA an ac][i]? = some v → wr.cell? ((ad.add (j * 4)).add i) = some v) := hide hca
      have hba := (Below.refl wr.heap.size wr).alloc (Nat.le_refl _) (.cells #[.int .i64 kd, .int .i64 ax, .int .i64 ay, .slice aA an ac] 42)
      have Hba := hide hba
      obtain ⟨p0, p1⟩ := hS.cells
      have hgq : w.heap.size < wr.heap.size := (Array.getElem?_eq_some_iff.1 hS.box).1
      clear hca hjl hS hO hops hba
      by_cases h300 : (300 : Int) < (an : Int)
      · go_wp2_with (with_reducible refine wpl_load_addr rfl 42 (.tmp 68) rfl (ad.add (j * 4)) _ Hca.out rfl _ Try.underlying42 rfl 4 infoAct rfl ?_)
        go_roundw
        case rel => exact ⟨j + 1, by omega, by omega, rfl, D, want, HS.out.next Hba.out, HO.out, by have := HP.out; omega⟩
        case measure => simp [intOf]; omega
      · by_cases hx0 : ax < 0
        · go_wp2_with (with_reducible refine wpl_load_addr rfl 42 (.tmp 68) rfl (ad.add (j * 4)) _ Hca.out rfl _ Try.underlying42 rfl 4 infoAct rfl ?_)
          go_roundw
          case rel => exact ⟨j + 1, by omega, by omega, rfl, D, want, HS.out.next Hba.out, HO.out, by have := HP.out; omega⟩
          case measure => simp [intOf]; omega
        · obtain ⟨x, rfl⟩ := Int.eq_ofNat_of_zero_le (show 0 ≤ ax by omega)
          by_cases hxb : (D.nb : Int) ≤ (x : Int)
          · go_wp2_with (with_reducible refine wpl_load_addr rfl 42 (.tmp 68) rfl (ad.add (j * 4)) _ Hca.out rfl _ Try.underlying42 rfl 4 infoAct rfl ?_)
            go_roundw
            case rel => exact ⟨j + 1, by omega, by omega, rfl, D, want, HS.out.next Hba.out, HO.out, by have := HP.out; omega⟩
            case measure => simp [intOf]; omega
          · have hm3 : an ≤ 300 := by omega
            have hxn : x < D.nb := by omega
            go_upto_region 13 with (with_reducible refine wpl_load_addr rfl 42 (.tmp 68) rfl (ad.add (j * 4)) _ Hca.out rfl _ Try.underlying42 rfl 4 infoAct rfl ?_)
            generalize hw7 : wr.alloc (.cells #[.int .i64 kd, .int .i64 (x : Int), .int .i64 ay, .slice aA an ac] 42) = w7 at *
            have hb7 := Hba.out
            have HS7 := hide (HS.out.next hb7)
            have BA7 : Hid (BoxA ⟨kd, x, ay, aA, an, ac, am⟩ wr.heap.size w7) := hide (by rw [← hw7]; exact heap_alloc_new wr _)
            have HA7 := hide (Hac.out.below (hb7.mono (show w.heap.size ≤ wr.heap.size from HS.out.below.size)))
            have Hga := hide (show wr.heap.size < w7.heap.size by rw [← hw7]; simp)
            have Hgb := hide (show gw < wr.heap.size from HS.out.row.lt)
            clear hw7 hb7 Hba Hca Hac
            generalize wr.heap.size = ga at *
            refine Big.wp_region_big (by kernel_rfl) (fun d v => match d with | 89 => v = .pointer (some ⟨ga, 1, none⟩) | 90 => v = .pointer (some ⟨ga, 1, none⟩) | 91 => v = .int .i64 (x : Int) | 92 => v = .pointer (some ⟨k, 0, none⟩) | 93 => v = .pointer (some ⟨ga, 1, none⟩) | 94 => v = .pointer (some ⟨ga, 1, none⟩) | 95 => v = .int .i64 (x : Int) | 96 => v = .int .i64 (D.nx x : Int) | 97 => v = .agg #[.int .i64 (x : Int), .int .i64 (D.nx x : Int)] | 11 => ∃ gp, v = .pointer (some ⟨gp, 0, none⟩) | _ => True) (PhiP w7 x (D.nx x)) [9, 10] [11] (by kernel_rfl) (by kernel_rfl) (by decide) (PhiP.loc _ _ _) (⟨(Below.refl _ _).drew, .inl rfl⟩) ⟨?_, ?_, ?_, ?_, ?_, ?_, ?_, ?_, ?_, ?_, ?_, trivial⟩ ?_
            · refine Big.small (by decide) ?_
              intro i' a' w' hi' hΦ h'
              have hb' := hΦ.1
              have e10 : a'.tmps.getD 10 undef = .pointer (some ⟨ga, 0, none⟩) := Big.sb h' 10 (by kernel_rfl) (by kernel_rfl) rfl
              exact .val (want0 rfl) rfl (by simp [Act.eval, e10, go_sem]) rfl
            · refine Big.small (by decide) ?_
              intro i' a' w' hi' hΦ h'
              have hb' := hΦ.1
              have e89 : a'.tmps.getD 89 undef = .pointer (some ⟨ga, 1, none⟩) := Big.sw h' 89 (by kernel_rfl) (by kernel_rfl)
              exact .val (want0 rfl) rfl (by simp [Act.eval, e89, go_sem]) rfl
            · refine Big.small (by decide) ?_
              intro i' a' w' hi' hΦ h'
              have hb' := hΦ.1
              have cc := (hb'.cell (p := ⟨ga, 1, none⟩) Hga.out).trans (BA7.out.c 1 _ rfl)
              have e90 : a'.tmps.getD 90 undef = .pointer (some ⟨ga, 1, none⟩) := Big.sw h' 90 (by kernel_rfl) (by kernel_rfl)
              exact .val (want0 rfl) rfl (by simp [Act.eval, e90, cc, go_sem]) rfl
            · refine Big.small (by decide) ?_
              intro i' a' w' hi' hΦ h'
              have hb' := hΦ.1
              have e5 : a'.tmps.getD 5 undef = .pointer (some ⟨k, 0, none⟩) := Big.sb h' 5 (by kernel_rfl) (by kernel_rfl) rfl
              exact .val (want0 rfl) rfl (by simp [Act.eval, e5, go_sem]) rfl
            · refine Big.small (by decide) ?_
              intro i' a' w' hi' hΦ h'
              have hb' := hΦ.1
              have e10 : a'.tmps.getD 10 undef = .pointer (some ⟨ga, 0, none⟩) := Big.sb h' 10 (by kernel_rfl) (by kernel_rfl) rfl
              exact .val (want0 rfl) rfl (by simp [Act.eval, e10, go_sem]) rfl
            · refine Big.small (by decide) ?_
              intro i' a' w' hi' hΦ h'
              have hb' := hΦ.1
              have e93 : a'.tmps.getD 93 undef = .pointer (some ⟨ga, 1, none⟩) := Big.sw h' 93 (by kernel_rfl) (by kernel_rfl)
              exact .val (want0 rfl) rfl (by simp [Act.eval, e93, go_sem]) rfl
            · refine Big.small (by decide) ?_
              intro i' a' w' hi' hΦ h'
              have hb' := hΦ.1
              have cc := (hb'.cell (p := ⟨ga, 1, none⟩) Hga.out).trans (BA7.out.c 1 _ rfl)
              have e94 : a'.tmps.getD 94 undef = .pointer (some ⟨ga, 1, none⟩) := Big.sw h' 94 (by kernel_rfl) (by kernel_rfl)
              exact .val (want0 rfl) rfl (by simp [Act.eval, e94, cc, go_sem]) rfl
            · refine Big.small (by decide) ?_
              intro i' a' w' hi' hΦ h'
              have hb' := hΦ.1
              have e92 : a'.tmps.getD 92 undef = .pointer (some ⟨k, 0, none⟩) := Big.sw h' 92 (by kernel_rfl) (by kernel_rfl)
              have e95 : a'.tmps.getD 95 undef = .int .i64 (x : Int) := Big.sw h' 95 (by kernel_rfl) (by kernel_rfl)
              exact .called (want0 rfl) rfl (by simp [Act.eval, e92, e95, go_sem]) (next_some (HS7.out.next hb').dev x hxn) rfl
            · refine Big.small (by decide) ?_
              intro i' a' w' hi' hΦ h'
              have hb' := hΦ.1
              have e91 : a'.tmps.getD 91 undef = .int .i64 (x : Int) := Big.sw h' 91 (by kernel_rfl) (by kernel_rfl)
              have e96 : a'.tmps.getD 96 undef = .int .i64 (D.nx x : Int) := Big.sw h' 96 (by kernel_rfl) (by kernel_rfl)
              exact .val (want0 rfl) rfl (by simp [Act.eval, (by simpa using e91 : a'.tmps[91]?.getD undef = _), (by simpa using e96 : a'.tmps[96]?.getD undef = _), go_sem]) rfl
            · refine Big.great (i := 0) rfl (by decide) ?_
              intro a' w' hsz' hΦ h'
              have hb' := hΦ.1
              exact .made (d := 11) (v := .pointer (some ⟨w'.heap.size, 0, none⟩)) (w' := w'.alloc (.cells #[.int .i64 0, .int .i64 0] 39)) (want0 rfl) rfl (by simp [go_sem]) ⟨_, rfl⟩ ⟨hb'.alloc hb'.size _, .inr ⟨_, Big.slots_put (by rw [hsz']; simp), hb'.size, .inl ⟨rfl, BoxedP.new 0 0 w'⟩⟩⟩
            · refine Big.great (i := 1) rfl (by decide) ?_
              intro a' w' hsz' hΦ h'
              have e97 : a'.tmps.getD 97 undef = .agg #[.int .i64 (x : Int), .int .i64 (D.nx x : Int)] := Big.sw h' 97 (by kernel_rfl) (by kernel_rfl)
              obtain ⟨hb', h0 | ⟨gp, e11, hgp, ⟨_, hP⟩ | ⟨h2, _⟩⟩⟩ := hΦ
              · cases h0
              · intro K Q hK
                rw [if_pos (want0 rfl)]
                exact wp_store_row 39 (.tmp 11) (.tmp 97) rfl gp #[.int .i64 (x : Int), .int .i64 (D.nx x : Int)] e11 e97 39 _ hP infoPlc rfl (by simp [Value.oneCell']) (hK undef _ (fun d hd => by cases hd) ⟨setRow_below hb' hgp _, .inr ⟨gp, e11, hgp, .inr ⟨Nat.le_refl _, setRow_heap _ _ _ _ _ _ hP⟩⟩⟩)
              · omega
            · intro a' w' hdf hsz hwr hkp hΦ
              obtain ⟨hb', h0 | ⟨gp, e11, hgp, ⟨h1, _⟩ | ⟨_, hP⟩⟩⟩ := hΦ
              · cases h0
              · cases h1
              · have f89 : a'.tmps.getD 89 undef = .pointer (some ⟨ga, 1, none⟩) := hwr 89 (by kernel_rfl)
                have f90 : a'.tmps.getD 90 undef = .pointer (some ⟨ga, 1, none⟩) := hwr 90 (by kernel_rfl)
                have f91 : a'.tmps.getD 91 undef = .int .i64 (x : Int) := hwr 91 (by kernel_rfl)
                have f92 : a'.tmps.getD 92 undef = .pointer (some ⟨k, 0, none⟩) := hwr 92 (by kernel_rfl)
                have f93 : a'.tmps.getD 93 undef = .pointer (some ⟨ga, 1, none⟩) := hwr 93 (by kernel_rfl)
                have f94 : a'.tmps.getD 94 undef = .pointer (some ⟨ga, 1, none⟩) := hwr 94 (by kernel_rfl)
                have f95 : a'.tmps.getD 95 undef = .int .i64 (x : Int) := hwr 95 (by kernel_rfl)
                have f96 : a'.tmps.getD 96 undef = .int .i64 (D.nx x : Int) := hwr 96 (by kernel_rfl)
                have f97 : a'.tmps.getD 97 undef = .agg #[.int .i64 (x : Int), .int .i64 (D.nx x : Int)] := hwr 97 (by kernel_rfl)
                have hfr := Flo2.frame_eq [(89, .pointer (some ⟨ga, 1, none⟩)), (90, .pointer (some ⟨ga, 1, none⟩)), (91, .int .i64 (x : Int)), (92, .pointer (some ⟨k, 0, none⟩)), (93, .pointer (some ⟨ga, 1, none⟩)), (94, .pointer (some ⟨ga, 1, none⟩)), (95, .int .i64 (x : Int)), (96, .int .i64 (D.nx x : Int)), (97, .agg #[.int .i64 (x : Int), .int .i64 (D.nx x : Int)]), (11, .pointer (some ⟨gp, 0, none⟩))] a'.tmps _ hsz (by
                  intro x hx
                  simp only [List.mem_cons, List.not_mem_nil, or_false] at hx
                  rcases hx with h | h | h | h | h | h | h | h | h | h <;> subst h
                  · exact f89
                  · exact f90
                  · exact f91
                  · exact f92
                  · exact f93
                  · exact f94
                  · exact f95
                  · exact f96
                  · exact f97
                  · exact e11) (fun t ht => hkp t (Flo3.writes_not _ _ (by kernel_rfl) ht))
                have ha := Flo3.act_ext hfr hdf
                have HS8 := hide (HS7.out.next hb')
                have BA8 : Hid (BoxA ⟨kd, x, ay, aA, an, ac, am⟩ ga w') := hide ((hb'.block _ Hga.out).trans BA7.out)
                have HA8 := hide (HA7.out.below (hb'.mono HS7.out.below.size))
                have HP8 := hide hP
                have Hgp := hide (show gp < w'.heap.size from (Array.getElem?_eq_some_iff.1 hP).1)
                have Hgp2 := hide (show ga < gp from Nat.lt_of_lt_of_le Hga.out hgp)
                clear hfr hwr hkp hsz hdf e11 hP hb' hgp HS7 BA7 HA7 Hga f89 f90 f91 f92 f93 f94 f95 f96 f97
                subst ha
                simp only [Flo2.puts, List.foldl_cons, List.foldl_nil, List.setIfInBounds_toArray, List.set, Exit.inBlock, Exit.then]
                have hnx := HS8.out.dev.next x hxn
                have ck := BA8.out.c 0 _ rfl
                try simp only at ck
                go_upto_if 100 with fail
                go_cut [12, 13] (fun s12 s13 wx => ∃ D2 want2, LS w q D2 want2 k kb kp km B0 gw w.heap.size gw N wx ∧ OW { D2 with dn := false } want2 ∧ D2.ops ≤ j + 1 ∧ BoxA ⟨kd, x, ay, aA, an, ac, am⟩ ga wx ∧ BoxedP x (D.nx x) gp wx)
                case first =>
                  have HD8 := hide HS8.out.big
                  have Hdn := hide HO.out.dn
                  have Hop := hide (show D.ops < 1000000 by have := HP.out; omega)
                  have cx := HP8.out.x
                  have cy := HP8.out.y
                  obtain ⟨q0, q1⟩ := HS8.out.cells
                  generalize wr = wA at *
                  clear ck p0 p1
                  by_cases h3 : kd = 3
                  · subst h3
                    cases hbad : D.bad x with
                    | true =>
                      have Fe := hide (era_marked HS8.out.dev HD8.out x Hdn.out hxn hbad)
                      clear hbad
                      go_wp2_with fail
                      (with_reducible refine Fe.out.mono ?_)
                      rintro e w9 ⟨rfl, hb⟩
                      have HS9 := hide (HS8.out.next hb)
                      have HB9 := hide (hb.block _ (Nat.lt_trans Hgp2.out Hgp.out))
                      have HQ9 := hide (HP8.out.below hb Hgp.out)
                      clear hb Fe
                      go_wp2
                      go_meet
                      exact ⟨D, want, HS9.out, ⟨rfl, HO.out.blank, HO.out.cov⟩, Nat.le_succ_of_le HP.out, HB9.out.trans BA8.out, HQ9.out⟩
                    | false =>
                      have Fe := hide (era_ok HS8.out.dev HD8.out x Hdn.out hxn hbad Hop.out)
                      clear hbad
                      go_wp2_with fail
                      (with_reducible refine Fe.out.mono ?_)
                      rintro e w9 ⟨rfl, hd, ht⟩
                      have HS9 := hide (HS8.out.turn hd ht rfl)
                      have h4 := HS8.out.dev.hi
                      have o1 : ga ∉ [k, kb, kp] := off_three h4 (Nat.le_of_lt Hgb.out)
                      have o2 : gp ∉ [k, kb, kp] := off_three h4 (Nat.le_of_lt (Nat.lt_trans Hgb.out Hgp2.out))
                      have BA9 : Hid (BoxA ⟨3, x, ay, aA, an, ac, am⟩ ga w9) := hide ((ht.block _ (Nat.lt_trans Hgp2.out Hgp.out) o1).trans BA8.out)
                      have HQ9 : Hid (BoxedP x (D.nx x) gp w9) := hide ((ht.block _ Hgp.out o2).trans HP8.out)
                      have HO9 := hide (show D.ops + 1 ≤ j + 1 from Nat.succ_le_succ HP.out)
                      have Hpl := hide HS8.out.dev.plen
                      clear hd ht h4 o1 o2 Fe cx cy q0 q1
                      by_cases he : D.err = 0
                      · have HW := hide (HO.out.erase_ok hxn he Hpl.out)
                        rw [he]
                        clear he
                        have cx := HQ9.out.x
                        obtain ⟨q0, q1⟩ := HS9.out.cells
                        rw [show (D.erased x).nb = D.nb from rfl] at q0
                        rw [show (D.erased x).np = D.np from rfl] at q1
                        obtain ⟨Z, Z2, hZ, hZ2, hZle, hle, w1', w2', w3', hZb⟩ := erase_nums hxn HS8.out.dev.sides.2.1 HS8.out.n HNb.out
                        rw [← hZ] at HW
                        rw [← hZ2] at HW
                        have Hle := hide hle
                        have HZle := hide hZle
                        have HZb := hide hZb
                        clear hZ hZ2 hZle hle hZb
                        go_wp2
                        clear q0 q1 cx
                        go_loopw [12] (fun s12 wr => ∃ K : Nat, Z ≤ K ∧ K ≤ Z2 ∧ s12 = .int .i64 (K : Int) ∧ LS w q (D.erased x) (fun q => if Z ≤ q ∧ q < K then [] else want q) k kb kp km B0 gw w.heap.size gw N wr ∧ BoxA ⟨3, x, ay, aA, an, ac, am⟩ ga wr ∧ BoxedP x (D.nx x) gp wr) (fun s12 _ => Z2 - (intOf s12).toNat)
                        case atStart =>
                          refine ⟨Z, Nat.le_refl _, HZle.out, congrArg (Value.int .i64) w1', ?_, BA9.out, HQ9.out⟩
                          have h := HS9.out
                          rw [erase_none]
                          exact h
                        case round =>
                          obtain ⟨K, hK1, hK2, rfl, hS, hBA, hPP⟩ := hrel
                          have cx := hPP.x
                          obtain ⟨q0, q1⟩ := hS.cells
                          rw [show (D.erased x).nb = D.nb from rfl] at q0
                          rw [show (D.erased x).np = D.np from rfl] at q1
                          have HBAr := hide hBA
                          have HPr := hide hPP
                          have HK1 := hide hK1
                          have HK2 := hide hK2
                          by_cases hlt9 : K < Z2
                          · obtain ⟨h1', h2', h3', e9⟩ := erase_round hlt9 Hle.out HZb.out
                            have cw := hS.row.cell h3'
                            have cf := hS.row.free K
                            have Hst := hS.store K []
                            rw [erase_wants want Z K hK1] at Hst
                            have Hst2 := hide Hst
                            have Hgw1 := hide (Nat.ne_of_gt Hgb.out)
                            have Hgw2 := hide (Nat.ne_of_gt (Nat.lt_trans Hgb.out Hgp2.out))
                            have HM := hide (meas hlt9)
                            have HK3 := hide (Nat.le_succ_of_le hK1)
                            have HK4 := hide (Nat.succ_le_of_lt hlt9)
                            clear hS hBA hPP Hst hK1 hK2 h3' hlt9
                            go_wp2
                            go_roundw
                            case rel => exact ⟨K + 1, HK3.out, HK4.out, congrArg (Value.int .i64) e9, Hst2.out, (Below.heap_setCell _ _ _ _ Hgw1.out).trans HBAr.out, (Below.heap_setCell _ _ _ _ Hgw2.out).trans HPr.out⟩
                            case measure =>
                              rw [e9]
                              exact HM.out
                          · have HKe := hide (Nat.le_antisymm hK2 (Nat.not_lt.1 hlt9))
                            have h1' : ¬ (K : Int) < (Z2 : Int) := fun h => hlt9 (Int.ofNat_lt.1 h)
                            have HSr := hide hS
                            clear hS hBA hPP hK1 hK2 hlt9
                            go_wp2
                            go_meet
                            refine ⟨_, _, HSr.out, ?_, HO9.out, HBAr.out, HPr.out⟩
                            rw [HKe.out]
                            exact HW.out
                      · have HW := hide (HO.out.erase_fell (x := x) he)
                        have he1 : (D.err == 0) = false := beq_eq_false_iff_ne.2 he
                        clear he
                        go_wp2
                        go_meet
                        exact ⟨_, want, HS9.out, HW.out, HO9.out, BA9.out, HQ9.out⟩
                  · have k3 : (kd == 3) = false := beq_eq_false_iff_ne.2 h3
                    clear h3 cx cy q0 q1
                    generalize w' = w8 at *
                    obtain ⟨D2, f0, hcase, hprog⟩ := prog_all HS8.out.dev HD8.out Hdn.out Hop.out hxn (fullL am) (fullL_len am)
                    have HPg := hide hprog
                    have HCs := hide hcase
                    clear hprog hcase
                    have Hoff1 := hide (off_three HS8.out.dev.hi (Nat.le_of_lt Hgb.out))
                    have Hoff2 := hide (off_three HS8.out.dev.hi (Nat.le_of_lt (Nat.lt_trans Hgb.out Hgp2.out)))
                    go_upto_region 20 with fail
                    refine Big.wp_region_big (by kernel_rfl) (fun d v => match d with | 126 => v = .pointer (some ⟨k, 0, none⟩) | 127 => v = .agg #[.int .i64 (x : Int), .int .i64 (D.nx x : Int)] | 128 => v = .pointer (some ⟨ga, 3, none⟩) | 129 => v = .slice aA an ac | 130 => ∃ A' c', v = .slice A' 256 c' | 131 => v = .int .i64 f0 | 13 => v = .int .i64 f0 | _ => True) (PhiF w8 (fullL am) 130 (fun W => DevAt W B0 gw D2 k kb kp km ∧ Tch [k, kb, kp] w8 W)) [4, 5] [130] (by kernel_rfl) (by kernel_rfl) (by decide) (PhiF.loc _ _ _ _) (Or.inl ⟨rfl, (Below.refl _ _).drew⟩) ⟨?_, ?_, ?_, ?_, ?_, ?_, ?_, trivial⟩ ?_
                    · refine Big.small (by decide) ?_
                      intro i' a' w' hi' hΦ h'
                      have ht := PhiF.tch (fun _ h => h.2) hΦ
                      have e5 : a'.tmps.getD 5 undef = .pointer (some ⟨k, 0, none⟩) := Big.sb h' 5 (by kernel_rfl) (by kernel_rfl) rfl
                      exact .val (want0 rfl) rfl (by simp [Act.eval, e5, go_sem]) rfl
                    · refine Big.small (by decide) ?_
                      intro i' a' w' hi' hΦ h'
                      have ht := PhiF.tch (fun _ h => h.2) hΦ
                      have cx := DevAt.tch_cell ht Hoff2.out HP8.out.x
                      have cy := DevAt.tch_cell ht Hoff2.out HP8.out.y
                      have e11 : a'.tmps.getD 11 undef = .pointer (some ⟨gp, 0, none⟩) := Big.sb h' 11 (by kernel_rfl) (by kernel_rfl) rfl
                      exact .val (want0 rfl) rfl (by simp [Act.eval, e11, cx, cy, go_sem]) rfl
                    · refine Big.small (by decide) ?_
                      intro i' a' w' hi' hΦ h'
                      have ht := PhiF.tch (fun _ h => h.2) hΦ
                      have e10 : a'.tmps.getD 10 undef = .pointer (some ⟨ga, 0, none⟩) := Big.sb h' 10 (by kernel_rfl) (by kernel_rfl) rfl
                      exact .val (want0 rfl) rfl (by simp [Act.eval, e10, go_sem]) rfl
                    · refine Big.small (by decide) ?_
                      intro i' a' w' hi' hΦ h'
                      have ht := PhiF.tch (fun _ h => h.2) hΦ
                      have cc := DevAt.tch_cell ht Hoff1.out (BA8.out.c 3 (.slice aA an ac) rfl)
                      have e128 : a'.tmps.getD 128 undef = .pointer (some ⟨ga, 3, none⟩) := Big.sw h' 128 (by kernel_rfl) (by kernel_rfl)
                      exact .val (want0 rfl) rfl (by simp [Act.eval, e128, cc, go_sem]) rfl
                    · refine Big.great (i := 0) rfl (by decide) ?_
                      intro a' w' hsz' hΦ h'
                      have hb' := hΦ.at0
                      have e129 : a'.tmps.getD 129 undef = .slice aA an ac := Big.sw h' 129 (by kernel_rfl) (by kernel_rfl)
                      refine .called (d := 130) (want0 rfl) rfl (by simp [Act.eval, e129, go_sem]) ((full_any aA an ac w.heap.size am w' (HA8.out.lies.below (hb'.mono HS8.out.below.size)) HA8.out.len (Nat.le_trans HS8.out.below.size hb'.size) (Nat.le_trans hm3 (by decide))).mono ?_)
                      rintro e w9 ⟨A', c', rfl, ho, hb9⟩
                      exact ⟨_, rfl, ⟨A', c', rfl⟩, .inr (.inl ⟨rfl, hb'.trans (hb9.mono hb'.size), A', c', Big.slots_put (by rw [hsz']; simp), LiesT.of_own ho⟩)⟩
                    · refine Big.great (i := 1) rfl (by decide) ?_
                      intro a' w' hsz' hΦ h'
                      obtain ⟨hb', A', c', e130, hl'⟩ := hΦ.at1
                      have e130' : a'.tmps.getD 130 undef = .slice A' 256 c' := e130
                      have e126 : a'.tmps.getD 126 undef = .pointer (some ⟨k, 0, none⟩) := Big.sw h' 126 (by kernel_rfl) (by kernel_rfl)
                      have e127 : a'.tmps.getD 127 undef = .agg #[.int .i64 (x : Int), .int .i64 (D.nx x : Int)] := Big.sw h' 127 (by kernel_rfl) (by kernel_rfl)
                      refine .called (d := 131) (want0 rfl) rfl (by simp [Act.eval, e126, e127, e130', go_sem]) ((HPg.out w' A' c' hb' hl').mono ?_)
                      rintro e w9 ⟨rfl, hd9, ht9⟩
                      exact ⟨_, rfl, rfl, .inr (.inr ⟨Nat.le_refl _, hd9, ht9⟩)⟩
                    · refine Big.small (by decide) ?_
                      intro i' a' w' hi' hΦ h'
                      have ht := PhiF.tch (fun _ h => h.2) hΦ
                      have e131 : a'.tmps.getD 131 undef = .int .i64 f0 := Big.sw h' 131 (by kernel_rfl) (by kernel_rfl)
                      exact .val (want0 rfl) rfl (by simp [Act.eval, e131, go_sem]) rfl
                    · intro a' w' hdf hsz hwr hkp hΦ
                      obtain ⟨hd9, ht9⟩ := hΦ.at2
                      obtain ⟨v130, f130⟩ : ∃ v, a'.tmps.getD 130 undef = v := ⟨_, rfl⟩
                      have f126 : a'.tmps.getD 126 undef = .pointer (some ⟨k, 0, none⟩) := hwr 126 (by kernel_rfl)
                      have f127 : a'.tmps.getD 127 undef = .agg #[.int .i64 (x : Int), .int .i64 (D.nx x : Int)] := hwr 127 (by kernel_rfl)
                      have f128 : a'.tmps.getD 128 undef = .pointer (some ⟨ga, 3, none⟩) := hwr 128 (by kernel_rfl)
                      have f129 : a'.tmps.getD 129 undef = .slice aA an ac := hwr 129 (by kernel_rfl)
                      have f131 : a'.tmps.getD 131 undef = .int .i64 f0 := hwr 131 (by kernel_rfl)
                      have f13 : a'.tmps.getD 13 undef = .int .i64 f0 := hwr 13 (by kernel_rfl)
                      have hfr := Flo2.frame_eq [(126, .pointer (some ⟨k, 0, none⟩)), (127, .agg #[.int .i64 (x : Int), .int .i64 (D.nx x : Int)]), (128, .pointer (some ⟨ga, 3, none⟩)), (129, .slice aA an ac), (130, v130), (131, .int .i64 f0), (13, .int .i64 f0)] a'.tmps _ hsz (by
                        intro x hx
                        simp only [List.mem_cons, List.not_mem_nil, or_false] at hx
                        rcases hx with h | h | h | h | h | h | h <;> subst h
                        · exact f126
                        · exact f127
                        · exact f128
                        · exact f129
                        · exact f130
                        · exact f131
                        · exact f13) (fun t ht => hkp t (Flo3.writes_not _ _ (by kernel_rfl) ht))
                      have ha := Flo3.act_ext hfr hdf
                      have hg2 : D2.g = D.g := by rcases HCs.out with ⟨h, _⟩ | ⟨h, _⟩ <;> rw [h] <;> rfl
                      have HS9 := hide (HS8.out.turn hd9 ht9 hg2)
                      have BA9 : Hid (BoxA ⟨kd, x, ay, aA, an, ac, am⟩ ga w') := hide ((ht9.block _ (Nat.lt_trans Hgp2.out Hgp.out) Hoff1.out).trans BA8.out)
                      have HQ9 : Hid (BoxedP x (D.nx x) gp w') := hide ((ht9.block _ Hgp.out Hoff2.out).trans HP8.out)
                      have HA9 := hide (HA8.out.below (ht9.below HS8.out.below.size (fun b hb => by have h1 := HS8.out.dev.lo; have h2 := HS8.out.pos; simp only [List.mem_cons, List.not_mem_nil, or_false] at hb; omega)))
                      have Hgp9 := hide (Nat.lt_of_lt_of_le Hgp.out ht9.size)
                      clear hfr hwr hkp hsz hdf hΦ hd9 ht9 hg2 f130 f126 f127 f128 f129 f131 f13 HPg
                      subst ha
                      simp only [Flo2.puts, List.foldl_cons, List.foldl_nil, List.setIfInBounds_toArray, List.set, Exit.then]
                      generalize w' = w9 at *
                      have cx := HQ9.out.x
                      have cy := HQ9.out.y
                      have r0 := fun d os => cell_regrown cx d os
                      have r1 := fun d os => cell_regrown cy d os
                      go_upto_region 21 with fail
                      clear cx cy
                      rcases HCs.out with ⟨rfl, hf⟩ | ⟨rfl, hf, hlt⟩
                      · rcases hf with rfl | rfl
                        all_goals
                          refine wp_region_quiet_below (by kernel_rfl) (by kernel_rfl) ?_
                          repeat (go_big_quiet_step (fail))
                          refine wpQuiet_nil ?_
                          intro _ hw'
                          obtain ⟨⟨dq, osq⟩, hw''⟩ := hw'
                          subst hw''
                          have hb := below_regrown w9 dq osq
                          have HS10 := hide (HS9.out.next hb)
                          have HB10 := hide ((hb.block _ (Nat.lt_trans Hgp2.out Hgp9.out)).trans BA9.out)
                          have HQ10 := hide (HQ9.out.below hb Hgp9.out)
                          clear hb r0 r1
                          generalize grow (redrawn w9 dq) osq = w10 at *
                          go_wp2
                          go_meet
                          exact ⟨_, want, HS10.out, ⟨rfl, HO.out.blank, HO.out.cov⟩, Nat.le_succ_of_le HP.out, HB10.out, HQ10.out⟩
                      · have n3 : (f0 != 3) = true := bne_iff_ne.2 (by rcases hf with rfl | rfl | rfl <;> decide)
                        have n12 : (f0 != 12) = true := bne_iff_ne.2 (by rcases hf with rfl | rfl | rfl <;> decide)
                        have n11 : (f0 != 11) = true := bne_iff_ne.2 (by rcases hf with rfl | rfl | rfl <;> decide)
                        have FX := fun d os => q2b (next_some (HS9.out.next (below_regrown w9 d os)).dev x hxn)
                        rw [show (D.progd x (fullL am)).nx x = D.nx x + 1 from upd_same _ _ _] at FX
                        have hgt : ((D.nx x : Nat) : Int) < ((D.nx x + 1 : Nat) : Int) := Int.ofNat_lt.2 (Nat.lt_succ_self _)
                        refine wp_region_quiet_below (by kernel_rfl) (by kernel_rfl) ?_
                        repeat (go_big_quiet_step (exact Calls.regrown_of (FX _ _)))
                        refine wpQuiet_nil ?_
                        intro _ hw'
                        obtain ⟨⟨dq, osq⟩, hw''⟩ := hw'
                        subst hw''
                        have hb := below_regrown w9 dq osq
                        have HS10 := hide (HS9.out.next hb)
                        have HB10 := hide ((hb.block _ (Nat.lt_trans Hgp2.out Hgp9.out)).trans BA9.out)
                        have HQ10 := hide (HQ9.out.below hb Hgp9.out)
                        have HA10 := hide (HA9.out.below (hb.mono HS9.out.below.size))
                        clear hb r0 r1 FX n3 n12 n11 hgt
                        generalize grow (redrawn w9 dq) osq = w10 at *
                        change Hid (BoxA ⟨kd, x, ay, aA, an, ac, am⟩ ga w10) at HB10
                        obtain ⟨Z, I, hZ, hI, hIN, hIN2, m1, m2, m3, m4⟩ := page_nums hxn HS8.out.dev.sides.2.1 HS8.out.n HNb.out hlt
                        have HW := hide (HO.out.prog hxn hlt (fullL_len am))
                        rw [← hI] at HW
                        have HIN := hide hIN
                        have Hn1 := hide (Nat.ne_of_gt Hgb.out)
                        have Hn2 := hide (Nat.ne_of_gt (Nat.lt_trans Hgb.out Hgp2.out))
                        have Hn3 := hide (Nat.ne_of_lt (Nat.lt_of_lt_of_le HS8.out.pos.2.1 HS8.out.pos.2.2.2.1))
                        have HopE := hide (show D.ops + 1 ≤ j + 1 from Nat.succ_le_succ HP.out)
                        clear hZ hI hIN
                        go_upto_region 22 with fail
                        refine Big.wp_region_big (by kernel_rfl) (fun d v => match d with | 151 => v = .slice (some ⟨gw, 0, none⟩) N N | 152 => v = .pointer (some ⟨gp, 0, none⟩) | 153 => v = .int .i64 (x : Int) | 154 => v = .pointer (some ⟨w.heap.size, 0, none⟩) | 155 => v = .pointer (some ⟨w.heap.size, 1, none⟩) | 156 => v = .int .i64 (D.np : Int) | 157 => v = .int .i64 (Z : Int) | 158 => v = .pointer (some ⟨gp, 1, none⟩) | 159 => v = .int .i64 (D.nx x : Int) | 160 => v = .int .i64 (I : Int) | 161 => v = .pointer (some ⟨ga, 3, none⟩) | 162 => v = .slice aA an ac | 163 => ∃ A' c', v = .slice A' 256 c' | 164 => v = .string (str (fullL am)) | 165 => v = .pointer (some ⟨gw, I, none⟩) | _ => True) (PhiW w10 (fullL am) gw I) [12, 13, 15] [163] (by kernel_rfl) (by kernel_rfl) (by decide) (PhiW.loc _ _ _ _) (Or.inl ⟨by decide, (Below.refl _ _).drew, fun h => by cases h⟩) ⟨?_, ?_, ?_, ?_, ?_, ?_, ?_, ?_, ?_, ?_, ?_, ?_, ?_, ?_, ?_, ?_, trivial⟩ ?_
                        · refine Big.small (by decide) ?_
                          intro i' a' w' hi' hΦ h'
                          have e8 : a'.tmps.getD 8 undef = .slice (some ⟨gw, 0, none⟩) N N := Big.sb h' 8 (by kernel_rfl) (by kernel_rfl) rfl
                          exact .val (want0 rfl) rfl (by simp [Act.eval, e8, go_sem]) rfl
                        · refine Big.small (by decide) ?_
                          intro i' a' w' hi' hΦ h'
                          have e11 : a'.tmps.getD 11 undef = .pointer (some ⟨gp, 0, none⟩) := Big.sb h' 11 (by kernel_rfl) (by kernel_rfl) rfl
                          exact .val (want0 rfl) rfl (by simp [Act.eval, e11, go_sem]) rfl
                        · refine Big.small (by decide) ?_
                          intro i' a' w' hi' hΦ h'
                          have cx := hΦ.cell Hn2.out HQ10.out.x
                          have e152 : a'.tmps.getD 152 undef = .pointer (some ⟨gp, 0, none⟩) := Big.sw h' 152 (by kernel_rfl) (by kernel_rfl)
                          exact .val (want0 rfl) rfl (by simp [Act.eval, e152, cx, go_sem]) rfl
                        · refine Big.small (by decide) ?_
                          intro i' a' w' hi' hΦ h'
                          have e2 : a'.tmps.getD 2 undef = .pointer (some ⟨w.heap.size, 0, none⟩) := Big.sb h' 2 (by kernel_rfl) (by kernel_rfl) rfl
                          exact .val (want0 rfl) rfl (by simp [Act.eval, e2, go_sem]) rfl
                        · refine Big.small (by decide) ?_
                          intro i' a' w' hi' hΦ h'
                          have e154 : a'.tmps.getD 154 undef = .pointer (some ⟨w.heap.size, 0, none⟩) := Big.sw h' 154 (by kernel_rfl) (by kernel_rfl)
                          exact .val (want0 rfl) rfl (by simp [Act.eval, e154, go_sem]) rfl
                        · refine Big.small (by decide) ?_
                          intro i' a' w' hi' hΦ h'
                          have q1 := hΦ.cell Hn3.out (show w10.cell? ⟨w.heap.size, 1, none⟩ = some (.int .i64 (D.np : Int)) from HS10.out.cells.2)
                          have e155 : a'.tmps.getD 155 undef = .pointer (some ⟨w.heap.size, 1, none⟩) := Big.sw h' 155 (by kernel_rfl) (by kernel_rfl)
                          exact .val (want0 rfl) rfl (by simp [Act.eval, e155, q1, go_sem]) rfl
                        · refine Big.small (by decide) ?_
                          intro i' a' w' hi' hΦ h'
                          have e153 : a'.tmps.getD 153 undef = .int .i64 (x : Int) := Big.sw h' 153 (by kernel_rfl) (by kernel_rfl)
                          have e156 : a'.tmps.getD 156 undef = .int .i64 (D.np : Int) := Big.sw h' 156 (by kernel_rfl) (by kernel_rfl)
                          exact .val (want0 rfl) rfl (by simp [Act.eval, e153, e156, m2, go_sem]) rfl
                        · refine Big.small (by decide) ?_
                          intro i' a' w' hi' hΦ h'
                          have e11 : a'.tmps.getD 11 undef = .pointer (some ⟨gp, 0, none⟩) := Big.sb h' 11 (by kernel_rfl) (by kernel_rfl) rfl
                          exact .val (want0 rfl) rfl (by simp [Act.eval, e11, go_sem]) rfl
                        · refine Big.small (by decide) ?_
                          intro i' a' w' hi' hΦ h'
                          have cy := hΦ.cell Hn2.out HQ10.out.y
                          have e158 : a'.tmps.getD 158 undef = .pointer (some ⟨gp, 1, none⟩) := Big.sw h' 158 (by kernel_rfl) (by kernel_rfl)
                          exact .val (want0 rfl) rfl (by simp [Act.eval, e158, cy, go_sem]) rfl
                        · refine Big.small (by decide) ?_
                          intro i' a' w' hi' hΦ h'
                          have e157 : a'.tmps.getD 157 undef = .int .i64 (Z : Int) := Big.sw h' 157 (by kernel_rfl) (by kernel_rfl)
                          have e159 : a'.tmps.getD 159 undef = .int .i64 (D.nx x : Int) := Big.sw h' 159 (by kernel_rfl) (by kernel_rfl)
                          exact .val (want0 rfl) rfl (by simp [Act.eval, e157, e159, m4, go_sem]) rfl
                        · refine Big.small (by decide) ?_
                          intro i' a' w' hi' hΦ h'
                          have e10 : a'.tmps.getD 10 undef = .pointer (some ⟨ga, 0, none⟩) := Big.sb h' 10 (by kernel_rfl) (by kernel_rfl) rfl
                          exact .val (want0 rfl) rfl (by simp [Act.eval, e10, go_sem]) rfl
                        · refine Big.small (by decide) ?_
                          intro i' a' w' hi' hΦ h'
                          have cc := hΦ.cell Hn1.out (HB10.out.c 3 (.slice aA an ac) rfl)
                          have e161 : a'.tmps.getD 161 undef = .pointer (some ⟨ga, 3, none⟩) := Big.sw h' 161 (by kernel_rfl) (by kernel_rfl)
                          exact .val (want0 rfl) rfl (by simp [Act.eval, e161, cc, go_sem]) rfl
                        · refine Big.great (i := 0) rfl (by decide) ?_
                          intro a' w' hsz' hΦ h'
                          have hb' := hΦ.at0 (by decide)
                          have e162 : a'.tmps.getD 162 undef = .slice aA an ac := Big.sw h' 162 (by kernel_rfl) (by kernel_rfl)
                          refine .called (d := 163) (want0 rfl) rfl (by simp [Act.eval, e162, go_sem]) ((full_any aA an ac w.heap.size am w' (HA10.out.lies.below (hb'.mono HS10.out.below.size)) HA10.out.len (Nat.le_trans HS10.out.below.size hb'.size) (Nat.le_trans hm3 (by decide))).mono ?_)
                          rintro e w9 ⟨A', c', rfl, ho, hb9⟩
                          exact ⟨_, rfl, ⟨A', c', rfl⟩, .inl ⟨by decide, hb'.trans (hb9.mono hb'.size), fun _ => ⟨A', c', Big.slots_put (by rw [hsz']; simp), LiesT.of_own ho⟩⟩⟩
                        · refine Big.great (i := 1) rfl (by decide) ?_
                          intro a' w' hsz' hΦ h'
                          rcases hΦ with ⟨_, hb', hs⟩ | ⟨h, _⟩
                          · obtain ⟨A', c', e163, hl'⟩ := hs rfl
                            have e163' : a'.tmps.getD 163 undef = .slice A' 256 c' := e163
                            have hcv := strU8 c' hl'.lies (show 256 = (fullL am).length from (fullL_len am).symm)
                            exact .made (d := 164) (want0 rfl) rfl (by simp [Act.eval, e163', hcv, go_sem]) rfl (.inl ⟨by decide, hb', fun h => by cases h⟩)
                          · exact absurd h (by decide)
                        · refine Big.small (by decide) ?_
                          intro i' a' w' hi' hΦ h'
                          have e151 : a'.tmps.getD 151 undef = .slice (some ⟨gw, 0, none⟩) N N := Big.sw h' 151 (by kernel_rfl) (by kernel_rfl)
                          have e160 : a'.tmps.getD 160 undef = .int .i64 (I : Int) := Big.sw h' 160 (by kernel_rfl) (by kernel_rfl)
                          exact .val (want0 rfl) rfl (by simp [Act.eval, e151, e160, hIN2, go_sem]) rfl
                        · refine Big.great (i := 2) rfl (by decide) ?_
                          intro a' w' hsz' hΦ h'
                          have hb' := hΦ.at0 (by decide)
                          have e164 : a'.tmps.getD 164 undef = .string (str (fullL am)) := Big.sw h' 164 (by kernel_rfl) (by kernel_rfl)
                          have e165 : a'.tmps.getD 165 undef = .pointer (some ⟨gw, I, none⟩) := Big.sw h' 165 (by kernel_rfl) (by kernel_rfl)
                          have cw := (HS10.out.next hb').row.cell HIN.out
                          have cf := (HS10.out.next hb').row.free I
                          exact .stored (w' := w'.setCell ⟨gw, I, none⟩ (.string (str (fullL am)))) (want0 rfl) rfl (by simp [Act.eval, e164, e165, cw, cf, go_sem]) (.inr ⟨by decide, w', hb', rfl⟩)
                        · intro a' w' hdf hsz hwr hkp hΦ
                          rcases hΦ with ⟨h, _⟩ | ⟨_, W0, hb', rfl⟩
                          · exact absurd h (by decide)
                          obtain ⟨v163, f163⟩ : ∃ v, a'.tmps.getD 163 undef = v := ⟨_, rfl⟩
                          have f151 : a'.tmps.getD 151 undef = .slice (some ⟨gw, 0, none⟩) N N := hwr 151 (by kernel_rfl)
                          have f152 : a'.tmps.getD 152 undef = .pointer (some ⟨gp, 0, none⟩) := hwr 152 (by kernel_rfl)
                          have f153 : a'.tmps.getD 153 undef = .int .i64 (x : Int) := hwr 153 (by kernel_rfl)
                          have f154 : a'.tmps.getD 154 undef = .pointer (some ⟨w.heap.size, 0, none⟩) := hwr 154 (by kernel_rfl)
                          have f155 : a'.tmps.getD 155 undef = .pointer (some ⟨w.heap.size, 1, none⟩) := hwr 155 (by kernel_rfl)
                          have f156 : a'.tmps.getD 156 undef = .int .i64 (D.np : Int) := hwr 156 (by kernel_rfl)
                          have f157 : a'.tmps.getD 157 undef = .int .i64 (Z : Int) := hwr 157 (by kernel_rfl)
                          have f158 : a'.tmps.getD 158 undef = .pointer (some ⟨gp, 1, none⟩) := hwr 158 (by kernel_rfl)
                          have f159 : a'.tmps.getD 159 undef = .int .i64 (D.nx x : Int) := hwr 159 (by kernel_rfl)
                          have f160 : a'.tmps.getD 160 undef = .int .i64 (I : Int) := hwr 160 (by kernel_rfl)
                          have f161 : a'.tmps.getD 161 undef = .pointer (some ⟨ga, 3, none⟩) := hwr 161 (by kernel_rfl)
                          have f162 : a'.tmps.getD 162 undef = .slice aA an ac := hwr 162 (by kernel_rfl)
                          have f164 : a'.tmps.getD 164 undef = .string (str (fullL am)) := hwr 164 (by kernel_rfl)
                          have f165 : a'.tmps.getD 165 undef = .pointer (some ⟨gw, I, none⟩) := hwr 165 (by kernel_rfl)
                          have hfr := Flo2.frame_eq [(151, .slice (some ⟨gw, 0, none⟩) N N), (152, .pointer (some ⟨gp, 0, none⟩)), (153, .int .i64 (x : Int)), (154, .pointer (some ⟨w.heap.size, 0, none⟩)), (155, .pointer (some ⟨w.heap.size, 1, none⟩)), (156, .int .i64 (D.np : Int)), (157, .int .i64 (Z : Int)), (158, .pointer (some ⟨gp, 1, none⟩)), (159, .int .i64 (D.nx x : Int)), (160, .int .i64 (I : Int)), (161, .pointer (some ⟨ga, 3, none⟩)), (162, .slice aA an ac), (163, v163), (164, .string (str (fullL am))), (165, .pointer (some ⟨gw, I, none⟩))] a'.tmps _ hsz (by
                            intro x hx
                            simp only [List.mem_cons, List.not_mem_nil, or_false] at hx
                            rcases hx with h | h | h | h | h | h | h | h | h | h | h | h | h | h | h <;> subst h
                            · exact f151
                            · exact f152
                            · exact f153
                            · exact f154
                            · exact f155
                            · exact f156
                            · exact f157
                            · exact f158
                            · exact f159
                            · exact f160
                            · exact f161
                            · exact f162
                            · exact f163
                            · exact f164
                            · exact f165) (fun t ht => hkp t (Flo3.writes_not _ _ (by kernel_rfl) ht))
                          have ha := Flo3.act_ext hfr hdf
                          have HS11 := hide ((HS10.out.next hb').store I (fullL am))
                          have HB11 := hide ((Below.heap_setCell W0 ⟨gw, I, none⟩ (.string (str (fullL am))) ga Hn1.out).trans ((hb'.block _ ((Array.getElem?_eq_some_iff.1 HB10.out).1)).trans HB10.out))
                          have HQ11 := hide ((Below.heap_setCell W0 ⟨gw, I, none⟩ (.string (str (fullL am))) gp Hn2.out).trans ((hb'.block _ ((Array.getElem?_eq_some_iff.1 HQ10.out).1)).trans HQ10.out))
                          clear hfr hwr hkp hsz hdf hb' f163 f151 f152 f153 f154 f155 f156 f157 f158 f159 f160 f161 f162 f164 f165 m1 m2 m3 m4 hIN2
                          subst ha
                          simp only [Flo2.puts, List.foldl_cons, List.foldl_nil, List.setIfInBounds_toArray, List.set, Exit.then]
                          go_wp2
                          go_meet
                          exact ⟨_, _, HS11.out, HW.out, HopE.out, HB11.out, HQ11.out⟩
                case rest =>
                  clear HS HO HP ck p0 p1
                  obtain ⟨D2, want2, hS, hO, hops, hBA, hPP⟩ := hcut
                  have hg := hS.g.trans HS8.out.g.symm
                  have hnp : D2.np = D.np := congrArg (fun g : Gm => g.p.toNat) hg
                  have hnb : D2.nb = D.nb := congrArg (fun g : Gm => g.b.toNat) hg
                  clear HS8 BA8 HA8 HP8 Hgp
                  have hltn := hlt
                  rw [← hnp] at hnx
                  rw [← hnb] at hxn hxb
                  generalize D.nx x = y at hnx hPP
                  clear hg hnp hnb
                  obtain ⟨D3, e3, g3, o3⟩ : ∃ D3 : Dv, D3 = { D2 with dn := false } ∧ D3.g = D2.g ∧ D3.ops = D2.ops := ⟨_, rfl, rfl, rfl⟩
                  rw [← e3] at hO
                  have Pw := hide (power_any hS.dev hS.big)
                  rw [← e3] at Pw
                  have hnp : D3.np = D2.np := congrArg (fun g : Gm => g.p.toNat) g3
                  have hnb : D3.nb = D2.nb := congrArg (fun g : Gm => g.b.toNat) g3
                  rw [← hnp] at hnx
                  rw [← hnb] at hxn hxb
                  rw [← o3] at hops
                  have HS := hide hS
                  have HO := hide hO
                  have HP3 := hide hops
                  have HQ := hide hPP
                  have Hg3 := hide g3
                  have Hgp := hide (show gp < wc.heap.size from (Array.getElem?_eq_some_iff.1 hPP).1)
                  have Hoff2 := hide (off_three hS.dev.hi (Nat.le_of_lt (Nat.lt_trans Hgb.out Hgp2.out)))
                  clear hS hO hops hBA hPP e3 o3 g3 hnp hnb
                  go_wp2_with fail
                  (with_reducible refine Pw.out.mono ?_)
                  rintro e w9 ⟨rfl, hd, ht⟩
                  have HS9 := hide (HS.out.turn hd ht Hg3.out)
                  have HQ9 : Hid (BoxedP x y gp w9) := hide ((ht.block _ Hgp.out Hoff2.out).trans HQ.out)
                  have Hgp9 := hide (Nat.lt_of_lt_of_le Hgp.out ht.size)
                  clear Pw hd ht HS HQ Hgp Hg3
                  obtain ⟨s1, s2, s3, s4, _, _⟩ := HS9.out.dev.sides
                  obtain ⟨Z, I, m, hm, hI, hIN, hIN2, hmin, k1, k2, k3, k4, k5, k6, d1, d2, d3, d4, v1, v2, v3, v4, z0⟩ := read_nums hxn s2 HS9.out.n HNb.out hnx s3 s4
                  have z1 : ¬ D3.np = 0 := fun h => by rw [h] at z0; exact absurd z0 (by decide)
                  have FX := fun d os => q2b (low_any (y : Int) ((D3.np : Int) - 1) (grow (redrawn w9 d) os))
                  rw [hmin] at FX
                  have Hm := hide hm
                  have HI := hide hI
                  have HIN := hide hIN
                  have HIv := hide (show I < D3.nb * D3.np from HS9.out.n ▸ hIN)
                  clear s1 s2 s3 s4 hm hI hIN hmin
                  have cx := HQ9.out.x
                  have cy := HQ9.out.y
                  obtain ⟨q0, q1⟩ := HS9.out.cells
                  have r0 := fun d os => cell_regrown cx d os
                  have r1 := fun d os => cell_regrown cy d os
                  have r2 := fun d os => cell_regrown q1 d os
                  go_upto_region 24 with fail
                  clear cx cy q0 q1
                  refine wp_region_quiet_below (by kernel_rfl) (by kernel_rfl) ?_
                  repeat (go_big_quiet_step (exact Calls.regrown_of (FX _ _)))
                  refine wpQuiet_nil ?_
                  intro _ hw'
                  obtain ⟨⟨dq, osq⟩, hw''⟩ := hw'
                  subst hw''
                  have hb := below_regrown w9 dq osq
                  have HS10 := hide (HS9.out.next hb)
                  clear hb r0 r1 r2 FX HQ9 HS9 Hgp9 k1 k2 k3 k4 k5 k6
                  generalize grow (redrawn w9 dq) osq = w10 at *
                  go_upto_region 25 with fail
                  refine Big.wp_region_big (by kernel_rfl) (fun d v => match d with | 183 => v = .pointer (some ⟨k, 0, none⟩) | 184 => v = .int .i64 (I : Int) | 185 => v = .pointer (some ⟨w.heap.size, 0, none⟩) | 186 => v = .pointer (some ⟨w.heap.size, 1, none⟩) | 187 => v = .int .i64 (D3.np : Int) | 188 => v = .int .i64 (x : Int) | 189 => v = .int .i64 (I : Int) | 190 => v = .pointer (some ⟨w.heap.size, 0, none⟩) | 191 => v = .pointer (some ⟨w.heap.size, 1, none⟩) | 192 => v = .int .i64 (D3.np : Int) | 193 => v = .int .i64 (m : Int) | 194 => v = .agg #[.int .i64 (x : Int), .int .i64 (m : Int)] | 195 => ∃ A' c', v = .tuple #[.slice A' 256 c', .int .i64 0] | 182 => ∃ A' c', v = .tuple #[.slice A' 256 c', .int .i64 0] | 196 => ∃ A' c', v = .slice A' 256 c' | 197 => v = .int .i64 0 | 15 => ∃ A' c', v = .slice A' 256 c' | 16 => v = .int .i64 0 | _ => True) (PhiR w10 (D3.pg (x * D3.np + m))) [12, 13, 14, 16] [195, 182, 196, 15] (by kernel_rfl) (by kernel_rfl) (by decide) (PhiR.loc _ _) (⟨(Below.refl _ _).drew, .inl rfl⟩) ⟨?_, ?_, ?_, ?_, ?_, ?_, ?_, ?_, ?_, ?_, ?_, ?_, ?_, ?_, ?_, ?_, ?_, ?_, trivial⟩ ?_
                  · refine Big.small (by decide) ?_
                    intro i' a' w' hi' hΦ h'
                    have e5 : a'.tmps.getD 5 undef = .pointer (some ⟨k, 0, none⟩) := Big.sb h' 5 (by kernel_rfl) (by kernel_rfl) rfl
                    exact .val (want0 rfl) rfl (by simp [Act.eval, e5, go_sem]) rfl
                  · refine Big.small (by decide) ?_
                    intro i' a' w' hi' hΦ h'
                    have e14 : a'.tmps.getD 14 undef = .int .i64 (I : Int) := Big.sb h' 14 (by kernel_rfl) (by kernel_rfl) rfl
                    exact .val (want0 rfl) rfl (by simp [Act.eval, e14, go_sem]) rfl
                  · refine Big.small (by decide) ?_
                    intro i' a' w' hi' hΦ h'
                    have e2 : a'.tmps.getD 2 undef = .pointer (some ⟨w.heap.size, 0, none⟩) := Big.sb h' 2 (by kernel_rfl) (by kernel_rfl) rfl
                    exact .val (want0 rfl) rfl (by simp [Act.eval, e2, go_sem]) rfl
                  · refine Big.small (by decide) ?_
                    intro i' a' w' hi' hΦ h'
                    have e185 : a'.tmps.getD 185 undef = .pointer (some ⟨w.heap.size, 0, none⟩) := Big.sw h' 185 (by kernel_rfl) (by kernel_rfl)
                    exact .val (want0 rfl) rfl (by simp [Act.eval, e185, go_sem]) rfl
                  · refine Big.small (by decide) ?_
                    intro i' a' w' hi' hΦ h'
                    have q1 := (hΦ.1.cell (World.block_lt_of_cell? w10 _ HS10.out.cells.2)).trans HS10.out.cells.2
                    have e186 : a'.tmps.getD 186 undef = .pointer (some ⟨w.heap.size, 1, none⟩) := Big.sw h' 186 (by kernel_rfl) (by kernel_rfl)
                    exact .val (want0 rfl) rfl (by simp [Act.eval, e186, q1, go_sem]) rfl
                  · refine Big.small (by decide) ?_
                    intro i' a' w' hi' hΦ h'
                    have e184 : a'.tmps.getD 184 undef = .int .i64 (I : Int) := Big.sw h' 184 (by kernel_rfl) (by kernel_rfl)
                    have e187 : a'.tmps.getD 187 undef = .int .i64 (D3.np : Int) := Big.sw h' 187 (by kernel_rfl) (by kernel_rfl)
                    exact .val (want0 rfl) rfl (by simp [Act.eval, e184, e187, d1, d2, d3, d4, v1, v2, v3, v4, z1, z0, go_sem]) rfl
                  · refine Big.small (by decide) ?_
                    intro i' a' w' hi' hΦ h'
                    have e14 : a'.tmps.getD 14 undef = .int .i64 (I : Int) := Big.sb h' 14 (by kernel_rfl) (by kernel_rfl) rfl
                    exact .val (want0 rfl) rfl (by simp [Act.eval, e14, go_sem]) rfl
                  · refine Big.small (by decide) ?_
                    intro i' a' w' hi' hΦ h'
                    have e2 : a'.tmps.getD 2 undef = .pointer (some ⟨w.heap.size, 0, none⟩) := Big.sb h' 2 (by kernel_rfl) (by kernel_rfl) rfl
                    exact .val (want0 rfl) rfl (by simp [Act.eval, e2, go_sem]) rfl
                  · refine Big.small (by decide) ?_
                    intro i' a' w' hi' hΦ h'
                    have e190 : a'.tmps.getD 190 undef = .pointer (some ⟨w.heap.size, 0, none⟩) := Big.sw h' 190 (by kernel_rfl) (by kernel_rfl)
                    exact .val (want0 rfl) rfl (by simp [Act.eval, e190, go_sem]) rfl
                  · refine Big.small (by decide) ?_
                    intro i' a' w' hi' hΦ h'
                    have q1 := (hΦ.1.cell (World.block_lt_of_cell? w10 _ HS10.out.cells.2)).trans HS10.out.cells.2
                    have e191 : a'.tmps.getD 191 undef = .pointer (some ⟨w.heap.size, 1, none⟩) := Big.sw h' 191 (by kernel_rfl) (by kernel_rfl)
                    exact .val (want0 rfl) rfl (by simp [Act.eval, e191, q1, go_sem]) rfl
                  · refine Big.small (by decide) ?_
                    intro i' a' w' hi' hΦ h'
                    have e189 : a'.tmps.getD 189 undef = .int .i64 (I : Int) := Big.sw h' 189 (by kernel_rfl) (by kernel_rfl)
                    have e192 : a'.tmps.getD 192 undef = .int .i64 (D3.np : Int) := Big.sw h' 192 (by kernel_rfl) (by kernel_rfl)
                    exact .val (want0 rfl) rfl (by simp [Act.eval, e189, e192, d1, d2, d3, d4, v1, v2, v3, v4, z1, z0, go_sem]) rfl
                  · refine Big.small (by decide) ?_
                    intro i' a' w' hi' hΦ h'
                    have e188 : a'.tmps.getD 188 undef = .int .i64 (x : Int) := Big.sw h' 188 (by kernel_rfl) (by kernel_rfl)
                    have e193 : a'.tmps.getD 193 undef = .int .i64 (m : Int) := Big.sw h' 193 (by kernel_rfl) (by kernel_rfl)
                    exact .val (want0 rfl) rfl (by simp [Act.eval, (by simpa using e188 : a'.tmps[188]?.getD undef = _), (by simpa using e193 : a'.tmps[193]?.getD undef = _), go_sem]) rfl
                  · refine Big.great (i := 0) rfl (by decide) ?_
                    intro a' w' hsz' hΦ h'
                    have hb' := hΦ.1
                    have e183 : a'.tmps.getD 183 undef = .pointer (some ⟨k, 0, none⟩) := Big.sw h' 183 (by kernel_rfl) (by kernel_rfl)
                    have e194 : a'.tmps.getD 194 undef = .agg #[.int .i64 (x : Int), .int .i64 (m : Int)] := Big.sw h' 194 (by kernel_rfl) (by kernel_rfl)
                    have hS' := HS10.out.next hb'
                    refine .called (d := 195) (want0 rfl) rfl (by simp [Act.eval, e183, e194, go_sem]) ((read_ok hS'.dev hS'.big x m HO.out.dn hxn Hm.out).mono ?_)
                    rintro e w9 ⟨A', c', rfl, ho, hb9⟩
                    exact ⟨_, rfl, ⟨A', c', rfl⟩, hb'.trans (hb9.mono hb'.size), .inr ⟨A', c', LiesT.of_own ho, .inl ⟨rfl, Big.slots_put (by rw [hsz']; simp)⟩⟩⟩
                  · refine Big.great (i := 1) rfl (by decide) ?_
                    intro a' w' hsz' hΦ h'
                    obtain ⟨hb', A', c', hl', e195⟩ := hΦ.at1
                    have e195' : a'.tmps.getD 195 undef = .tuple #[.slice A' 256 c', .int .i64 0] := e195
                    exact .made (d := 182) (want0 rfl) rfl (by simp [Act.eval, e195', go_sem]) ⟨A', c', rfl⟩ ⟨hb', .inr ⟨A', c', hl', .inr (.inl ⟨rfl, Big.slots_put (by rw [hsz']; simp)⟩)⟩⟩
                  · refine Big.great (i := 2) rfl (by decide) ?_
                    intro a' w' hsz' hΦ h'
                    obtain ⟨hb', A', c', hl', e182⟩ := hΦ.at2
                    have e182' : a'.tmps.getD 182 undef = .tuple #[.slice A' 256 c', .int .i64 0] := e182
                    exact .made (d := 196) (want0 rfl) rfl (by simp [Act.eval, e182', go_sem]) ⟨A', c', rfl⟩ ⟨hb', .inr ⟨A', c', hl', .inr (.inr (.inl ⟨rfl, Big.slots_put (by rw [hsz']; simp)⟩))⟩⟩
                  · refine Big.small (by decide) ?_
                    intro i' a' w' hi' hΦ h'
                    obtain ⟨A', c', e182⟩ : ∃ A' c', a'.tmps.getD 182 undef = .tuple #[.slice A' 256 c', .int .i64 0] := Big.sw h' 182 (by kernel_rfl) (by kernel_rfl)
                    exact .val (want0 rfl) rfl (by simp [Act.eval, e182, go_sem]) rfl
                  · refine Big.great (i := 3) rfl (by decide) ?_
                    intro a' w' hsz' hΦ h'
                    obtain ⟨hb', A', c', hl', e196⟩ := hΦ.at3
                    have e196' : a'.tmps.getD 196 undef = .slice A' 256 c' := e196
                    exact .made (d := 15) (want0 rfl) rfl (by simp [Act.eval, e196', go_sem]) ⟨A', c', rfl⟩ ⟨hb', .inr ⟨A', c', hl', .inr (.inr (.inr ⟨Nat.le_refl _, Big.slots_put (by rw [hsz']; simp)⟩))⟩⟩
                  · refine Big.small (by decide) ?_
                    intro i' a' w' hi' hΦ h'
                    have e197 : a'.tmps.getD 197 undef = .int .i64 0 := Big.sw h' 197 (by kernel_rfl) (by kernel_rfl)
                    exact .val (want0 rfl) rfl (by simp [Act.eval, e197, go_sem]) rfl
                  · intro a' w' hdf hsz hwr hkp hΦ
                    obtain ⟨hb', A', c', hl', e15⟩ := hΦ.at4
                    obtain ⟨v195, f195⟩ : ∃ v, a'.tmps.getD 195 undef = v := ⟨_, rfl⟩
                    obtain ⟨v182, f182⟩ : ∃ v, a'.tmps.getD 182 undef = v := ⟨_, rfl⟩
                    obtain ⟨v196, f196⟩ : ∃ v, a'.tmps.getD 196 undef = v := ⟨_, rfl⟩
                    have f183 : a'.tmps.getD 183 undef = .pointer (some ⟨k, 0, none⟩) := hwr 183 (by kernel_rfl)
                    have f184 : a'.tmps.getD 184 undef = .int .i64 (I : Int) := hwr 184 (by kernel_rfl)
                    have f185 : a'.tmps.getD 185 undef = .pointer (some ⟨w.heap.size, 0, none⟩) := hwr 185 (by kernel_rfl)
                    have f186 : a'.tmps.getD 186 undef = .pointer (some ⟨w.heap.size, 1, none⟩) := hwr 186 (by kernel_rfl)
                    have f187 : a'.tmps.getD 187 undef = .int .i64 (D3.np : Int) := hwr 187 (by kernel_rfl)
                    have f188 : a'.tmps.getD 188 undef = .int .i64 (x : Int) := hwr 188 (by kernel_rfl)
                    have f189 : a'.tmps.getD 189 undef = .int .i64 (I : Int) := hwr 189 (by kernel_rfl)
                    have f190 : a'.tmps.getD 190 undef = .pointer (some ⟨w.heap.size, 0, none⟩) := hwr 190 (by kernel_rfl)
                    have f191 : a'.tmps.getD 191 undef = .pointer (some ⟨w.heap.size, 1, none⟩) := hwr 191 (by kernel_rfl)
                    have f192 : a'.tmps.getD 192 undef = .int .i64 (D3.np : Int) := hwr 192 (by kernel_rfl)
                    have f193 : a'.tmps.getD 193 undef = .int .i64 (m : Int) := hwr 193 (by kernel_rfl)
                    have f194 : a'.tmps.getD 194 undef = .agg #[.int .i64 (x : Int), .int .i64 (m : Int)] := hwr 194 (by kernel_rfl)
                    have f197 : a'.tmps.getD 197 undef = .int .i64 0 := hwr 197 (by kernel_rfl)
                    have f16 : a'.tmps.getD 16 undef = .int .i64 0 := hwr 16 (by kernel_rfl)
                    have hfr := Flo2.frame_eq [(183, .pointer (some ⟨k, 0, none⟩)), (184, .int .i64 (I : Int)), (185, .pointer (some ⟨w.heap.size, 0, none⟩)), (186, .pointer (some ⟨w.heap.size, 1, none⟩)), (187, .int .i64 (D3.np : Int)), (188, .int .i64 (x : Int)), (189, .int .i64 (I : Int)), (190, .pointer (some ⟨w.heap.size, 0, none⟩)), (191, .pointer (some ⟨w.heap.size, 1, none⟩)), (192, .int .i64 (D3.np : Int)), (193, .int .i64 (m : Int)), (194, .agg #[.int .i64 (x : Int), .int .i64 (m : Int)]), (195, v195), (182, v182), (196, v196), (197, .int .i64 0), (15, .slice A' 256 c'), (16, .int .i64 0)] a'.tmps _ hsz (by
                      intro x hx
                      simp only [List.mem_cons, List.not_mem_nil, or_false] at hx
                      rcases hx with h | h | h | h | h | h | h | h | h | h | h | h | h | h | h | h | h | h <;> subst h
                      · exact f183
                      · exact f184
                      · exact f185
                      · exact f186
                      · exact f187
                      · exact f188
                      · exact f189
                      · exact f190
                      · exact f191
                      · exact f192
                      · exact f193
                      · exact f194
                      · exact f195
                      · exact f182
                      · exact f196
                      · exact f197
                      · exact e15
                      · exact f16) (fun t ht => hkp t (Flo3.writes_not _ _ (by kernel_rfl) ht))
                    have ha := Flo3.act_ext hfr hdf
                    have HS11 := hide (HS10.out.next hb')
                    have Hlr := hide hl'.lies
                    clear hfr hwr hkp hsz hdf hb' hΦ f195 f182 f196 e15 hl' f183 f184 f185 f186 f187 f188 f189 f190 f191 f192 f193 f194 f197 f16
                    subst ha
                    simp only [Flo2.puts, List.foldl_cons, List.foldl_nil, List.setIfInBounds_toArray, List.set, Exit.then]
                    generalize w' = w11 at *
                    have cw := HS11.out.row.cell HIN.out
                    rw [← HI.out] at Hlr
                    rcases HO.out.cov I HIv.out with h0 | h0
                    · rw [h0] at cw
                      change w11.cell? ⟨gw, I, none⟩ = some (.string ⟨#[]⟩) at cw
                      clear h0
                      go_wp2
                      rw [← Int.natCast_succ]
                      exact ⟨⟨j + 1, Nat.succ_le_of_lt hltn, Nat.succ_le_of_lt h30, rfl, D3, want2, HS11.out, HO.out, HP3.out⟩, meas hltn⟩
                    · by_cases hne : want2 I = []
                      · rw [hne] at h0
                        exact absurd ((covB_iff _ _).1 h0).1 (by rw [HS11.out.dev.plen I HIv.out]; decide)
                      · have hlen : 256 = (want2 I).length := (HS11.out.dev.plen I HIv.out).symm.trans ((covB_iff _ _).1 h0).1
                        obtain ⟨c2, w12, hcv, hb2, hl2⟩ := strBytes w11 (want2 I)
                        have FC := hide (covers2_any A' _ 256 c' _ c2 w12.heap.size (D3.pg I) (want2 I) w12 ((Hlr.out.below hb2).up hb2.size) (HS11.out.dev.plen I HIv.out).symm (by decide) hl2 rfl (by rw [← hlen]; decide))
                        rw [h0] at FC
                        rw [← hlen] at hcv FC
                        have HS12 := hide (HS11.out.next hb2)
                        have sB := str_neq hne
                        clear h0 hl2 hb2 hlen
                        go_wp2_with fail
                        all_goals first | exact absurd ‹(str (want2 I)).toList = []› sB | skip
                        (with_reducible refine FC.out.mono ?_)
                        rintro e _ ⟨rfl, rfl⟩
                        clear FC hcv
                        go_wp2
                        rw [← Int.natCast_succ]
                        exact ⟨⟨j + 1, Nat.succ_le_of_lt hltn, Nat.succ_le_of_lt h30, rfl, D3, want2, HS12.out, HO.out, HP3.out⟩, meas hltn⟩
    · by_cases hlt : (j : Int) < (n : Int)
      · have h30' : ¬ (j : Int) < 30 := by omega
        clear hS hO hops
        go_wp2
        go_ret
        exact ⟨rfl, HS.out.below⟩
      · clear hS hO hops
        go_wp2
        go_ret
        exact ⟨rfl, HS.out.below⟩
end Go.Proofs.Ytkmkepkkdgpbiaa
