/-
  MirrorWrites: its loop. (By gen/MrG.gen.py.)
-/
import Derived.Test.YtigpplckddnghaaGreatMrF
import Derived.Test.YtigpplckddnghaaGreatFree
namespace Go.Proofs.YtigpplckddnghaaGreat
open Go.RowKit
set_option maxRecDepth 8000

theorem addblk (a : Addr) (i : Nat) : (a.add i).block = a.block := by unfold Addr.add; split <;> rfl
theorem RefAt.low {w : World} {B0 B : Nat} {q : Pn} {D : Dv} {r rp rn rw cp cn cw : Nat} (h : RefAt w B0 B q D r rp rn rw cp cn cw) (k : Nat) (hk : k ∈ [r, rp, rn, rw]) : B0 ≤ k := by
  have := h.lo
  simp only [List.mem_cons, List.not_mem_nil, or_false] at hk
  omega
theorem exec_load_addr {P : Program} {o : Oper} {a : Act} {w : World} (ty : TypeId) (x : Operand) (ho : o.op = .load ty x) (p : Addr) (cs : List Value) (hc : ∀ j v, cs[j]? = some v → w.cell? (p.add j) = some v)
    (hx : a.eval x = .pointer (some p)) {d : TypeDesc} (hu : P.underlying ty = some d) (hd : d.isRow = true) {n : Nat} (hi : (P.info? ty).map (·.size) = some n) (hn : cs.length = n) : (execOp a.eval o).run P w = .ok (.value (.agg cs.toArray)) w := by
  have hl : (loadCells p cs.length).run P w = .ok cs.toArray w := run_loadCells_list (P := P) w p cs hc
  have hrun : (loadVar ty p).run P w = .ok (.agg cs.toArray) w := by
    cases hq : P.info? ty with
    | none => simp [hq] at hi
    | some i =>
      have hs : i.size = cs.length := by simp [hq] at hi; omega
      have hagg : (isAgg ty).run P w = .ok true w := by
        unfold isAgg
        rw [Sem.run_bind, run_underlying hu w]
        cases d <;> simp_all
      simp [loadVar, Sem.run_bind, hagg, sizeOf, typeInfo, hq, hs, hl]
  unfold execOp
  simp only [ho, hx, Instr.loadAt, Instr.sureAddr, Sem.run_bind, Sem.run_pure, Result.andThen_ok, hrun]
theorem yieldedM {ops : Array Oper} {a : Act} {g d : Nat} {c : Bool} (hd : (ops[g]?).bind (·.dst) = some d) (hv : a.tmps.getD d undef = .bool c) : yielded ops a.tmps g = some c := by
  unfold yielded
  rw [hd]
  cases h : a.tmps[d]? with
  | none => simp [h, undef] at hv
  | some v =>
    simp [h] at hv
    simp [h, hv]
theorem wantgM {ops : Array Oper} {o : Oper} {a : Act} {g d : Nat} {b : Bool} (hg : o.guard = some (g, b)) (hd : (ops[g]?).bind (·.dst) = some d) (hv : a.tmps.getD d undef = .bool b) : Region.wanted o (yielded ops a.tmps) = true := by
  simp [Region.wanted, hg, yieldedM hd hv]
/-- The states of a write to both devices. -/
def PhiMW (w : World) (q : Pn) (D D2 : Dv) (m : Bl) (L : Nat → Bool) (_f : Nat → Value) (W : World) : Prop :=
  ((L 5 = false ∧ L 11 = false ∧ TS w q D D m W) ∨ (L 5 = true ∧ L 11 = false ∧ TS w q D2 D m W) ∨ (L 5 = true ∧ L 11 = true ∧ TS w q D2 D2 m W)) ∧ (L 13 = true → L 11 = true) ∧ (L 15 = true → L 11 = true) ∧ (L 22 = true → L 11 = true)
theorem PhiMW.loc (w : World) (q : Pn) (D D2 : Dv) (m : Bl) : ∀ L M f g W, (∀ t ∈ ([] : List Nat), f t = g t) → (∀ b ∈ [5, 11, 13, 15, 19, 22, 24, 28], L b = M b) → PhiMW w q D D2 m L f W → PhiMW w q D D2 m M g W := by
  intro L M f g W _ hB h
  have b5 := hB 5 (by decide)
  have b11 := hB 11 (by decide)
  have b13 := hB 13 (by decide)
  have b15 := hB 15 (by decide)
  have b22 := hB 22 (by decide)
  unfold PhiMW at *
  rw [← b5, ← b11, ← b13, ← b15, ← b22]
  exact h
section
variable {w : World} {q : Pn} {D D2 : Dv} {m : Bl} {L : Nat → Bool} {f g : Nat → Value} {W W' : World}
theorem PhiMW.start (h : TS w q D D m W) : PhiMW w q D D2 m (fun _ => false) f W := ⟨.inl ⟨rfl, rfl, h⟩, fun h => absurd h (by decide), fun h => absurd h (by decide), fun h => absurd h (by decide)⟩
theorem PhiMW.below (h : PhiMW w q D D2 m L f W) : Below w.heap.size w W := by
  rcases h.1 with ⟨_, _, h⟩ | ⟨_, _, h⟩ | ⟨_, _, h⟩ <;> exact h.below
theorem PhiMW.at0 (h : PhiMW w q D D2 m L f W) (h5 : L 5 = false) : L 11 = false ∧ TS w q D D m W := by
  rcases h.1 with ⟨_, h1, h2⟩ | ⟨h1, _⟩ | ⟨h1, _⟩
  · exact ⟨h1, h2⟩
  · rw [h5] at h1; cases h1
  · rw [h5] at h1; cases h1
theorem PhiMW.at1 (h : PhiMW w q D D2 m L f W) (h5 : L 5 = true) (h11 : L 11 = false) : TS w q D2 D m W := by
  rcases h.1 with ⟨h1, _⟩ | ⟨_, _, h2⟩ | ⟨_, h1, _⟩
  · rw [h5] at h1; cases h1
  · exact h2
  · rw [h11] at h1; cases h1
theorem PhiMW.at2 (h : PhiMW w q D D2 m L f W) (h11 : L 11 = true) : TS w q D2 D2 m W := by
  rcases h.1 with ⟨_, h1, _⟩ | ⟨_, h1, _⟩ | ⟨_, _, h2⟩
  · rw [h11] at h1; cases h1
  · rw [h11] at h1; cases h1
  · exact h2
theorem plusS (L : Nat → Bool) (n : Nat) : Free.plus L n n = true := by simp [Free.plus]
theorem plusO (L : Nat → Bool) {n j : Nat} (h : j ≠ n) : Free.plus L n j = L j := by simp [Free.plus, h]
theorem PhiMW.more (h : PhiMW w q D D2 m L f W) (h11 : L 11 = true) (n : Nat) (h5n : 5 ≠ n) (h11n : 11 ≠ n) : PhiMW w q D D2 m (Free.plus L n) g W := by
  have e : Free.plus L n 11 = true := by rw [plusO L h11n]; exact h11
  refine ⟨.inr (.inr ⟨?_, e, h.at2 h11⟩), fun _ => e, fun _ => e, fun _ => e⟩
  rw [plusO L h5n]
  rcases h.1 with ⟨_, h1, _⟩ | ⟨_, h1, _⟩ | ⟨h1, _⟩
  · rw [h11] at h1; cases h1
  · rw [h11] at h1; cases h1
  · exact h1
theorem PhiMW.step5 (h : PhiMW w q D D2 m L f W) (h5 : L 5 = false) (hS : TS w q D2 D m W') : PhiMW w q D D2 m (Free.plus L 5) g W' := by
  have h11 := (h.at0 h5).1
  have e : Free.plus L 5 11 = false := by rw [plusO L (by decide)]; exact h11
  refine ⟨.inr (.inl ⟨plusS _ _, e, hS⟩), ?_, ?_, ?_⟩
  · rw [plusO L (by decide), e]; intro h2; exact absurd (h.2.1 h2) (by rw [h11]; decide)
  · rw [plusO L (by decide), e]; intro h2; exact absurd (h.2.2.1 h2) (by rw [h11]; decide)
  · rw [plusO L (by decide), e]; intro h2; exact absurd (h.2.2.2 h2) (by rw [h11]; decide)
theorem PhiMW.step11 (h5 : L 5 = true) (hS : TS w q D2 D2 m W') : PhiMW w q D D2 m (Free.plus L 11) g W' := by
  have e : Free.plus L 11 11 = true := plusS _ _
  exact ⟨.inr (.inr ⟨by rw [plusO L (by decide)]; exact h5, e, hS⟩), fun _ => e, fun _ => e, fun _ => e⟩
end
/-- The cells of a table among others, wherever the world has grown to. -/
theorem cells4 {W : World} {a : Addr} {x : Tl} (h : ∀ j v, x.cells[j]? = some v → W.cell? (a.add j) = some v) : W.cell? a = some (.int .u64 (x.t.seq : Int)) ∧ W.cell? ⟨a.block, a.off + 1, none⟩ = some (.slice x.A1 x.t.bad.length x.c1) ∧ W.cell? ⟨a.block, a.off + 2, none⟩ = some (.slice x.A2 x.t.wear.length x.c2) ∧ W.cell? ⟨a.block, a.off + 3, none⟩ = some (.slice x.A3 x.t.void.length x.c3) := by
  have h0 := h 0 _ rfl
  have h1 := h 1 _ rfl
  have h2 := h 2 _ rfl
  have h3 := h 3 _ rfl
  rw [show a.add 0 = a by unfold Addr.add; simp] at h0
  rw [add_offP] at h1 h2 h3
  exact ⟨h0, h1, h2, h3⟩
set_option maxHeartbeats 16000000 in
theorem mwrites_on (q : Pn) (A : Option Addr) (n c : Nat) (l : List Tl) (w : World) (hq : q.Ok w w.heap.size) (hlight : q.light = true) (hr : q.g.Right) (hA : Lies w w.heap.size A (rowT l)) (hn : n = l.length) (hnc : n ≤ 9223372036854775807) (hok : ∀ x ∈ l, x.Ok w w.heap.size) (hlong : ∀ x ∈ l, x.Long) :
    Calls Tryz.prog 4 #[q.val, .slice A n c] w fun e w' => e = .returned (.bool true) ∧ Below w.heap.size w w' := by
  have b1 := (Below.refl w.heap.size w).alloc (Nat.le_refl _) (.cells #[.int .i64 q.g.b, .int .i64 q.g.p, .int .i64 q.g.r, .slice q.A1 q.n1 q.c1, .slice q.A2 q.n2 q.c2] 43)
  have Hb1 := hide b1
  have hx1 : BoxQ q w.heap.size (w.alloc (.cells #[.int .i64 q.g.b, .int .i64 q.g.p, .int .i64 q.g.r, .slice q.A1 q.n1 q.c1, .slice q.A2 q.n2 q.c2] 43)) := heap_alloc_new w _
  have Hx1 := hide hx1
  have Hs1 := hide (show w.heap.size < (w.alloc (.cells #[.int .i64 q.g.b, .int .i64 q.g.p, .int .i64 q.g.r, .slice q.A1 q.n1 q.c1, .slice q.A2 q.n2 q.c2] 43)).heap.size by simp)
  have hnum : q.n1 ≤ 60 ∧ q.n2 ≤ 40 := by
    have := hlight
    unfold Pn.light at this
    simp only [Bool.and_eq_true, decide_eq_true_eq] at this
    exact this.1
  have FL := hide (light_any q w.heap.size _ (hq.below b1) b1.size)
  rw [hlight] at FL
  have FR := hide (fun W => right13_any q.g W)
  rw [decide_eq_true hr] at FR
  have FN := hide (fun W (hW : Below w.heap.size w W) => new_ok q.g q.A1 q.A2 q.n1 q.c1 q.n2 q.c2 w.heap.size q.bl q.fl W hr (hq.below hW).l1 hq.h1 (by omega) (hq.below hW).l2 hq.h2 (by omega) (hq.below hW).h3 hW.size)
  have FX := hide (fun W => rnew_any q W hr)
  have Hq := hide hq
  have Hlt := hide hlight
  have Hr := hide hr
  have HA := hide hA
  have Hn := hide hn
  have Hnc := hide hnc
  have Hok := hide hok
  have Hlong := hide hlong
  clear b1 hx1 hq hlight hr hnum hA hn hnc hok hlong
  unfold Pn.val at *
  unfold Gm.val at FR FN
  go_enter Tryz.func4, Tryz.ntmps4
  go_wp2_with fail
  (with_reducible refine FL.out.mono ?_)
  rintro e w2 ⟨rfl, hb⟩
  have HB2 := hide (Hb1.out.trans (hb.mono Hb1.out.size))
  have HX2 := hide (Hx1.out.below hb Hs1.out)
  have HS2 := hide (Nat.lt_of_lt_of_le Hs1.out hb.size)
  clear hb FL Hb1 Hx1 Hs1
  have c0 := HX2.out.c 0 _ rfl
  have c1 := HX2.out.c 1 _ rfl
  have c2 := HX2.out.c 2 _ rfl
  go_wp2_with fail
  (with_reducible refine (FR.out _).mono ?_)
  rintro e w3 ⟨rfl, hb⟩
  have HB3 := hide (HB2.out.trans (hb.mono HB2.out.size))
  have HX3 := hide (HX2.out.below hb HS2.out)
  have HS3 := hide (Nat.lt_of_lt_of_le HS2.out hb.size)
  clear hb FR HX2 HB2 HS2 c0 c1 c2
  go_wp2_with fail
  (with_reducible refine (awake17_any _).mono ?_)
  rintro e w4 ⟨rfl, hb⟩
  have HB4 := hide (HB3.out.trans (hb.mono HB3.out.size))
  have HX4 := hide (HX3.out.below hb HS3.out)
  have HS4 := hide (Nat.lt_of_lt_of_le HS3.out hb.size)
  clear hb HX3 HB3 HS3
  have c0 := HX4.out.c 0 _ rfl
  have c1 := HX4.out.c 1 _ rfl
  have c2 := HX4.out.c 2 _ rfl
  have c3 := HX4.out.c 3 _ rfl
  have c4 := HX4.out.c 4 _ rfl
  go_wp2_with fail
  (with_reducible refine (FN.out _ HB4.out).mono ?_)
  rintro e w5 ⟨k, kb, kp, km, rfl, h5, hb⟩
  have H5 := hide h5
  have HB5 := hide (HB4.out.trans (hb.mono HB4.out.size))
  have HX5 := hide (HX4.out.below hb HS4.out)
  have HS5 := hide (Nat.lt_of_lt_of_le HS4.out hb.size)
  have HL5 := hide (show w.heap.size < w4.heap.size ∧ w4.heap.size ≤ w5.heap.size from ⟨HS4.out, hb.size⟩)
  clear h5 hb FN HX4 HB4 HS4 c0 c1 c2 c3 c4
  have c0 := HX5.out.c 0 _ rfl
  have c1 := HX5.out.c 1 _ rfl
  have c2 := HX5.out.c 2 _ rfl
  have c3 := HX5.out.c 3 _ rfl
  have c4 := HX5.out.c 4 _ rfl
  go_wp2_with fail
  (with_reducible refine (FX.out _).mono ?_)
  rintro e w8 ⟨b0, r, pv, nv, wv, rfl, hN⟩
  have hq5 := Hq.out.below HB5.out
  obtain ⟨rp, rn, rw, cp, cn, cw, hR⟩ := refAt_new hN Hr.out (Pn.Ok.up hq5 HB5.out.size) Hlt.out
  obtain ⟨m, hm⟩ : ∃ m : Bl, m = ⟨k, kb, kp, km, r, rp, rn, rw, cp, cn, cw, w4.heap.size, w5.heap.size, w8.heap.size⟩ := ⟨_, rfl⟩
  have HS0 := hide (show TS w q (Dv.fresh q.g q.bl q.fl) (Dv.fresh q.g q.bl q.fl) m w8 from by
    have hb := hN.below
    subst hm
    refine ⟨H5.out.below hb, hR.base_down HB5.out.size (hq5.below (hb.mono HB5.out.size)), ?_, HX5.out.below hb HS5.out, HB5.out.trans (hb.mono HB5.out.size), ⟨HL5.out.1, HL5.out.2, hb.size, Nat.le_refl _⟩, rfl, rfl⟩
    intro b hbm
    have h1 := hR.lo
    simp only [List.mem_cons, List.not_mem_nil, or_false] at hbm
    show w5.heap.size ≤ b
    omega)
  have em1 : k = m.k := by rw [hm]
  have em2 : r = m.r := by rw [hm]
  clear hm
  subst em1
  subst em2
  obtain ⟨D, hD⟩ : ∃ D, D = Dv.fresh q.g q.bl q.fl := ⟨_, rfl⟩
  rw [← hD] at HS0
  have Hops : Hid (D.dn = false ∧ D.ops ≤ 2 * 0) := hide (by rw [hD]; exact ⟨rfl, Nat.le_refl _⟩)
  clear c0 c1 c2 c3 c4 hN hq5 hR hD FX HB5 HX5 HS5 H5 HL5 Hr Hlt Hq
  go_wp2
  go_loopw [8, 9, 10, 11, 12, 13, 14, 15, 16] (fun i _ _ _ _ _ _ _ _ wr => ∃ (j : Nat) (D : Dv), j ≤ l.length ∧ j ≤ 30 ∧ i = .int .i64 (j : Int) ∧ Hid (TS w q D D m wr) ∧ Hid (D.dn = false ∧ D.ops ≤ 2 * j)) (fun i _ _ _ _ _ _ _ _ _ => 30 - (intOf i).toNat)
  case atStart => exact ⟨0, D, Nat.zero_le _, Nat.zero_le _, rfl, HS0, Hops⟩
  case round =>
    clear HS0 Hops
    obtain ⟨j, D, hjl, hj30, rfl, HS, HP⟩ := hrel
    have hnl : (n : Int) = (l.length : Int) := by rw [Hn.out]
    by_cases hj : j < l.length
    · by_cases h30 : j < 30
      · have hlt' : (j : Int) < (n : Int) := by omega
        have h30' : (j : Int) < 30 := by omega
        have e7 : wrap64 ((j : Int) + 1) = ((j + 1 : Nat) : Int) := by unfold wrap64; omega
        obtain ⟨a, rfl, hab, hca⟩ := HA.out.elem Tl.cells_len hj (by decide)
        obtain ⟨x, hx⟩ : ∃ x, l[j] = x := ⟨_, rfl⟩
        have hxm : x ∈ l := by rw [← hx]; exact List.getElem_mem hj
        rw [hx] at hca
        have Hxo := hide (Hok.out x hxm)
        have Hxl := hide (Hlong.out x hxm)
        have Hca := hide (fun W (hW : Below w.heap.size w W) => (show (∀ j' v, x.cells[j']? = some v → W.cell? ((a.add (j * 4)).add j') = some v) ∧ True from ⟨fun j' v hv => (hW.cell (p := (a.add (j * 4)).add j') (by rw [addblk, addblk]; exact hab)).trans (hca j' v hv), trivial⟩))
        have Hj := hide (show j < l.length ∧ j < 30 from ⟨hj, h30⟩)
        have e1 : x.cells.toArray = #[.int .u64 (x.t.seq : Int), .slice x.A1 x.t.bad.length x.c1, .slice x.A2 x.t.wear.length x.c2, .slice x.A3 x.t.void.length x.c3] := rfl
        have HSX := hide HS.out.below
        have FM := hide (may16_big x w.heap.size wr (Hxo.out.below HSX.out) Hxl.out HSX.out.size)
        rw [show x.val = .agg #[.int .u64 (x.t.seq : Int), .slice x.A1 x.t.bad.length x.c1, .slice x.A2 x.t.wear.length x.c2, .slice x.A3 x.t.void.length x.c3] from rfl] at FM
        clear hca hx hxm hab hj h30
        go_wp2_with (with_reducible refine wpl_load_addr rfl 26 (.tmp 66) rfl (a.add (j * 4)) x.cells (Hca.out _ HSX.out).1 rfl _ Tryz.underlying26 rfl 4 infoTb rfl ?_; rw [e1])
        (with_reducible refine FM.out.mono ?_)
        rintro e w6 ⟨rfl, hb⟩
        have HS6 := hide (HS.out.next hb)
        have HSX := hide HS6.out.below
        clear hb FM HS
        by_cases hm : x.t.May
        · rw [decide_eq_true hm]
          have Hm := hide hm
          have Hfw : Hid x.Few := hide (May.few hm)
          clear hm
          have HP6 := hide (show D.ops < 900000 by have := HP.out.2; have := Hj.out.2; omega)
          obtain ⟨D2, fv, hW2⟩ : ∃ D2 fv, Hid (D.writeR x.t.page = (fv, D2)) := ⟨_, _, hide rfl⟩
          have HW2 := hide (show D2.ops ≤ 2 * (j + 1) ∧ D2.g = D.g by
            have h1 := Dv.writeR_ops D x.t.page
            have h2 := Dv.writeR_g D x.t.page
            rw [hW2.out] at h1 h2
            dsimp only at h1 h2
            exact ⟨by have := HP.out.2; omega, h2⟩)
          go_upto_region 13 with fail
          go_cut [107] from 54 to 167 (fun b wx => b = .bool false ∧ Hid (TS w q D2 D2 m wx))
          case first =>
            have HSd := hide (HS6.out.next ((Below.refl w6.heap.size w6).drew))
            have FW := hide (fun W (hS : TS w q D D m W) => show Calls Tryz.prog 22 #[.pointer (some ⟨m.k, 0, none⟩), .agg #[.int .u64 (x.t.seq : Int), .slice x.A1 x.t.bad.length x.c1, .slice x.A2 x.t.wear.length x.c2, .slice x.A3 x.t.void.length x.c3]] W (fun e w' => e = .returned (.int .i64 fv) ∧ DevAt w' m.B0 m.B D2 m.k m.kb m.kp m.km ∧ Tch [m.k, m.kb, m.kp] W w') from by
              have := mwrite_any hS.dev hS.bigB HP.out.1 HP6.out x w.heap.size (Hxo.out.below hS.below) Hfw.out Hm.out hS.below.size
              rw [hW2.out] at this
              exact this)
            have FR := hide (fun W (hS : TS w q D2 D m W) => show Calls Tryz.prog 23 #[.pointer (some ⟨m.r, 0, none⟩), .agg #[.int .u64 (x.t.seq : Int), .slice x.A1 x.t.bad.length x.c1, .slice x.A2 x.t.wear.length x.c2, .slice x.A3 x.t.void.length x.c3]] W (fun e w' => e = .returned (.int .i64 fv) ∧ RefAt w' w.heap.size m.C q D2 m.r m.rp m.rn m.rw m.cp m.cn m.cw ∧ Tch [m.r, m.rp, m.rn, m.rw] W w') from by
              have := rwrite_any hS.ref hS.pos.2.2.2 HP6.out HS6.out.dev.wear HS6.out.dev.plen x w.heap.size (Hxo.out.below hS.below) (fun k hk => Hxo.out.off (hS.ref.low k hk)) Hm.out hS.below.size
              rw [hW2.out] at this
              exact this)
            refine Free.wp_region_free (by kernel_rfl) (fun d v => match d with | 77 => v = .pointer (some ⟨m.k, 0, none⟩) | 78 => v = .slice (some a) n c | 79 => v = .int .i64 (j : Int) | 80 => v = .pointer (some (a.add (j * 4))) | 81 => v = .agg #[.int .u64 (x.t.seq : Int), .slice x.A1 x.t.bad.length x.c1, .slice x.A2 x.t.wear.length x.c2, .slice x.A3 x.t.void.length x.c3] | 82 => v = .int .i64 fv | 83 => v = .pointer (some ⟨m.r, 0, none⟩) | 84 => v = .slice (some a) n c | 85 => v = .int .i64 (j : Int) | 86 => v = .pointer (some (a.add (j * 4))) | 87 => v = .agg #[.int .u64 (x.t.seq : Int), .slice x.A1 x.t.bad.length x.c1, .slice x.A2 x.t.wear.length x.c2, .slice x.A3 x.t.void.length x.c3] | 88 => v = .int .i64 fv | 89 => v = .bool false | 90 => v = .bool false | 91 => v = .pointer (some ⟨m.k, 0, none⟩) | 92 => v = .int .i64 (D2.ops : Int) | 93 => v = .pointer (some ⟨m.r, 0, none⟩) | 94 => v = .pointer (some ⟨m.r, 0, none⟩) | 95 => v = .pointer (some ⟨m.r, 8, none⟩) | 96 => v = .int .i64 (D2.ops : Int) | 97 => v = .bool false | 98 => v = .bool false | 99 => v = .bool false | 100 => v = .pointer (some ⟨m.k, 0, none⟩) | 101 => v = .bool D2.dn | 102 => v = .pointer (some ⟨m.r, 0, none⟩) | 103 => v = .pointer (some ⟨m.r, 0, none⟩) | 104 => v = .pointer (some ⟨m.r, 9, none⟩) | 105 => v = .bool D2.dn | 106 => v = .bool false | 107 => v = .bool false | _ => True) (PhiMW w q D D2 m) [5, 11, 13, 15, 19, 22, 24, 28] [] (by kernel_rfl) (by kernel_rfl) (PhiMW.loc _ _ _ _ _) (PhiMW.start HSd.out) ⟨?_, ?_, ?_, ?_, ?_, ?_, ?_, ?_, ?_, ?_, ?_, ?_, ?_, ?_, ?_, ?_, ?_, ?_, ?_, ?_, ?_, ?_, ?_, ?_, ?_, ?_, ?_, ?_, ?_, ?_, ?_, trivial⟩ ?_
            · refine Free.small (by decide) ?_
              intro L' a' w' hΦ h'
              have e5 : a'.tmps.getD 5 undef = .pointer (some ⟨m.k, 0, none⟩) := Free.sb h' 5 (by kernel_rfl) (by kernel_rfl) rfl
              exact .val (want0 rfl) rfl (by simp [Act.eval, e5, go_sem]) rfl
            · refine Free.small (by decide) ?_
              intro L' a' w' hΦ h'
              have e1 : a'.tmps.getD 1 undef = .slice (some a) n c := Free.sb h' 1 (by kernel_rfl) (by kernel_rfl) rfl
              exact .val (want0 rfl) rfl (by simp [Act.eval, e1, go_sem]) rfl
            · refine Free.small (by decide) ?_
              intro L' a' w' hΦ h'
              have e8 : a'.tmps.getD 8 undef = .int .i64 (j : Int) := Free.sb h' 8 (by kernel_rfl) (by kernel_rfl) rfl
              exact .val (want0 rfl) rfl (by simp [Act.eval, e8, go_sem]) rfl
            · refine Free.small (by decide) ?_
              intro L' a' w' hΦ h'
              have e78 : a'.tmps.getD 78 undef = .slice (some a) n c := Free.sw h' 78 (by kernel_rfl) (by kernel_rfl)
              have e79 : a'.tmps.getD 79 undef = .int .i64 (j : Int) := Free.sw h' 79 (by kernel_rfl) (by kernel_rfl)
              exact .val (want0 rfl) rfl (by simp [Act.eval, e78, e79, hlt', go_sem]; first | done | rfl) rfl
            · refine Free.small (by decide) ?_
              intro L' a' w' hΦ h'
              have e80 : a'.tmps.getD 80 undef = .pointer (some (a.add (j * 4))) := Free.sw h' 80 (by kernel_rfl) (by kernel_rfl)
              exact .val (want0 rfl) rfl (exec_load_addr 26 (.tmp 80) rfl (a.add (j * 4)) x.cells (Hca.out w' hΦ.below).1 e80 Tryz.underlying26 rfl infoTb rfl) rfl
            · refine Free.great (by decide) ?_
              intro L' a' w' hsz' hL' hA' hΦ h'
              have e77 : a'.tmps.getD 77 undef = .pointer (some ⟨m.k, 0, none⟩) := Free.sw h' 77 (by kernel_rfl) (by kernel_rfl)
              have e81 : a'.tmps.getD 81 undef = .agg #[.int .u64 (x.t.seq : Int), .slice x.A1 x.t.bad.length x.c1, .slice x.A2 x.t.wear.length x.c2, .slice x.A3 x.t.void.length x.c3] := Free.sw h' 81 (by kernel_rfl) (by kernel_rfl)
              have hS := (hΦ.at0 hL').2
              refine .called (d := 82) (want0 rfl) rfl (by simp [Act.eval, e77, e81, go_sem]) ((FW.out w' hS).mono ?_)
              rintro e w9 ⟨rfl, hd9, ht9⟩
              exact ⟨_, rfl, rfl, hΦ.step5 hL' (hS.dev_step hd9 ht9 HW2.out.2)⟩
            · refine Free.small (by decide) ?_
              intro L' a' w' hΦ h'
              have e7 : a'.tmps.getD 7 undef = .pointer (some ⟨m.r, 0, none⟩) := Free.sb h' 7 (by kernel_rfl) (by kernel_rfl) rfl
              exact .val (want0 rfl) rfl (by simp [Act.eval, e7, go_sem]) rfl
            · refine Free.small (by decide) ?_
              intro L' a' w' hΦ h'
              have e1 : a'.tmps.getD 1 undef = .slice (some a) n c := Free.sb h' 1 (by kernel_rfl) (by kernel_rfl) rfl
              exact .val (want0 rfl) rfl (by simp [Act.eval, e1, go_sem]) rfl
            · refine Free.small (by decide) ?_
              intro L' a' w' hΦ h'
              have e8 : a'.tmps.getD 8 undef = .int .i64 (j : Int) := Free.sb h' 8 (by kernel_rfl) (by kernel_rfl) rfl
              exact .val (want0 rfl) rfl (by simp [Act.eval, e8, go_sem]) rfl
            · refine Free.small (by decide) ?_
              intro L' a' w' hΦ h'
              have e84 : a'.tmps.getD 84 undef = .slice (some a) n c := Free.sw h' 84 (by kernel_rfl) (by kernel_rfl)
              have e85 : a'.tmps.getD 85 undef = .int .i64 (j : Int) := Free.sw h' 85 (by kernel_rfl) (by kernel_rfl)
              exact .val (want0 rfl) rfl (by simp [Act.eval, e84, e85, hlt', go_sem]; first | done | rfl) rfl
            · refine Free.small (by decide) ?_
              intro L' a' w' hΦ h'
              have e86 : a'.tmps.getD 86 undef = .pointer (some (a.add (j * 4))) := Free.sw h' 86 (by kernel_rfl) (by kernel_rfl)
              exact .val (want0 rfl) rfl (exec_load_addr 26 (.tmp 86) rfl (a.add (j * 4)) x.cells (Hca.out w' hΦ.below).1 e86 Tryz.underlying26 rfl infoTb rfl) rfl
            · refine Free.great (by decide) ?_
              intro L' a' w' hsz' hL' hA' hΦ h'
              have e83 : a'.tmps.getD 83 undef = .pointer (some ⟨m.r, 0, none⟩) := Free.sw h' 83 (by kernel_rfl) (by kernel_rfl)
              have e87 : a'.tmps.getD 87 undef = .agg #[.int .u64 (x.t.seq : Int), .slice x.A1 x.t.bad.length x.c1, .slice x.A2 x.t.wear.length x.c2, .slice x.A3 x.t.void.length x.c3] := Free.sw h' 87 (by kernel_rfl) (by kernel_rfl)
              have l5 := hA' ⟨5, .chain⟩ (by simp) rfl
              have hS := hΦ.at1 l5 hL'
              refine .called (d := 88) (want0 rfl) rfl (by simp [Act.eval, e83, e87, go_sem]) ((FR.out w' hS).mono ?_)
              rintro e w9 ⟨rfl, hr9, ht9⟩
              exact ⟨_, rfl, rfl, PhiMW.step11 l5 (hS.ref_step hr9 ht9 HW2.out.2)⟩
            · refine Free.small (by decide) ?_
              intro L' a' w' hΦ h'
              have e82 : a'.tmps.getD 82 undef = .int .i64 fv := Free.sw h' 82 (by kernel_rfl) (by kernel_rfl)
              have e88 : a'.tmps.getD 88 undef = .int .i64 fv := Free.sw h' 88 (by kernel_rfl) (by kernel_rfl)
              exact .val (want0 rfl) rfl (by simp [Act.eval, e82, e88, go_sem]) rfl
            · refine Free.great (by decide) ?_
              intro L' a' w' hsz' hL' hA' hΦ h'
              have e89 : a'.tmps.getD 89 undef = .bool false := Free.sw h' 89 (by kernel_rfl) (by kernel_rfl)
              have l11 := hA' ⟨11, .chain⟩ (by simp) rfl
              have hS := hΦ.at2 l11
              exact .made (d := 90) (v := .bool false) (w' := w') (want0 rfl) rfl (by simp [Act.eval, e89, go_sem]) rfl (hΦ.more l11 13 (by decide) (by decide))
            · refine Free.small (by decide) ?_
              intro L' a' w' hΦ h'
              have e5 : a'.tmps.getD 5 undef = .pointer (some ⟨m.k, 0, none⟩) := Free.sb h' 5 (by kernel_rfl) (by kernel_rfl) rfl
              have eg : a'.tmps.getD 90 undef = .bool false := Free.sw h' 90 (by kernel_rfl) (by kernel_rfl)
              exact .val (wantgM rfl (by kernel_rfl) eg) rfl (by simp [Act.eval, e5, go_sem]) rfl
            · refine Free.great (by decide) ?_
              intro L' a' w' hsz' hL' hA' hΦ h'
              have e91 : a'.tmps.getD 91 undef = .pointer (some ⟨m.k, 0, none⟩) := Free.sw h' 91 (by kernel_rfl) (by kernel_rfl)
              have eg : a'.tmps.getD 90 undef = .bool false := Free.sw h' 90 (by kernel_rfl) (by kernel_rfl)
              have l11 := hΦ.2.1 (hA' ⟨13, .chain⟩ (by simp) rfl)
              have hS := hΦ.at2 l11
              refine .called (d := 92) (wantgM rfl (by kernel_rfl) eg) rfl (by simp [Act.eval, e91, go_sem]) ((ops_any hS.dev).mono ?_)
              rintro e w9 ⟨rfl, rfl⟩
              exact ⟨_, rfl, rfl, hΦ.more l11 15 (by decide) (by decide)⟩
            · refine Free.small (by decide) ?_
              intro L' a' w' hΦ h'
              have e7 : a'.tmps.getD 7 undef = .pointer (some ⟨m.r, 0, none⟩) := Free.sb h' 7 (by kernel_rfl) (by kernel_rfl) rfl
              have eg : a'.tmps.getD 90 undef = .bool false := Free.sw h' 90 (by kernel_rfl) (by kernel_rfl)
              exact .val (wantgM rfl (by kernel_rfl) eg) rfl (by simp [Act.eval, e7, go_sem]) rfl
            · refine Free.small (by decide) ?_
              intro L' a' w' hΦ h'
              have e93 : a'.tmps.getD 93 undef = .pointer (some ⟨m.r, 0, none⟩) := Free.sw h' 93 (by kernel_rfl) (by kernel_rfl)
              have eg : a'.tmps.getD 90 undef = .bool false := Free.sw h' 90 (by kernel_rfl) (by kernel_rfl)
              exact .val (wantgM rfl (by kernel_rfl) eg) rfl (by simp [Act.eval, e93, go_sem]) rfl
            · refine Free.small (by decide) ?_
              intro L' a' w' hΦ h'
              have e94 : a'.tmps.getD 94 undef = .pointer (some ⟨m.r, 0, none⟩) := Free.sw h' 94 (by kernel_rfl) (by kernel_rfl)
              have eg : a'.tmps.getD 90 undef = .bool false := Free.sw h' 90 (by kernel_rfl) (by kernel_rfl)
              exact .val (wantgM rfl (by kernel_rfl) eg) rfl (by simp [Act.eval, e94, go_sem]) rfl
            · refine Free.great (by decide) ?_
              intro L' a' w' hsz' hL' hA' hΦ h'
              have e95 : a'.tmps.getD 95 undef = .pointer (some ⟨m.r, 8, none⟩) := Free.sw h' 95 (by kernel_rfl) (by kernel_rfl)
              have eg : a'.tmps.getD 90 undef = .bool false := Free.sw h' 90 (by kernel_rfl) (by kernel_rfl)
              have l11 := hΦ.2.1 (hA' ⟨13, .guard⟩ (by simp) rfl)
              have hS := hΦ.at2 l11
              have hc := hS.ref.c 8 (.int .i64 (D2.ops : Int)) rfl
              exact .made (d := 96) (v := .int .i64 (D2.ops : Int)) (w' := w') (wantgM rfl (by kernel_rfl) eg) rfl (by simp [Act.eval, e95, hc, go_sem]) rfl (hΦ.more l11 19 (by decide) (by decide))
            · refine Free.small (by decide) ?_
              intro L' a' w' hΦ h'
              have e92 : a'.tmps.getD 92 undef = .int .i64 (D2.ops : Int) := Free.sw h' 92 (by kernel_rfl) (by kernel_rfl)
              have e96 : a'.tmps.getD 96 undef = .int .i64 (D2.ops : Int) := Free.sw h' 96 (by kernel_rfl) (by kernel_rfl)
              have eg : a'.tmps.getD 90 undef = .bool false := Free.sw h' 90 (by kernel_rfl) (by kernel_rfl)
              exact .val (wantgM rfl (by kernel_rfl) eg) rfl (by simp [Act.eval, e92, e96, go_sem]) rfl
            · refine Free.small (by decide) ?_
              intro L' a' w' hΦ h'
              have e90 : a'.tmps.getD 90 undef = .bool false := Free.sw h' 90 (by kernel_rfl) (by kernel_rfl)
              have e97 : a'.tmps.getD 97 undef = .bool false := Free.sw h' 97 (by kernel_rfl) (by kernel_rfl)
              exact .val (want0 rfl) rfl (by simp [Act.eval, e90, e97, go_sem]) rfl
            · refine Free.great (by decide) ?_
              intro L' a' w' hsz' hL' hA' hΦ h'
              have e98 : a'.tmps.getD 98 undef = .bool false := Free.sw h' 98 (by kernel_rfl) (by kernel_rfl)
              have l11 := hΦ.2.2.1 (hA' ⟨15, .chain⟩ (by simp) rfl)
              have hS := hΦ.at2 l11
              exact .made (d := 99) (v := .bool false) (w' := w') (want0 rfl) rfl (by simp [Act.eval, e98, go_sem]) rfl (hΦ.more l11 22 (by decide) (by decide))
            · refine Free.small (by decide) ?_
              intro L' a' w' hΦ h'
              have e5 : a'.tmps.getD 5 undef = .pointer (some ⟨m.k, 0, none⟩) := Free.sb h' 5 (by kernel_rfl) (by kernel_rfl) rfl
              have eg : a'.tmps.getD 99 undef = .bool false := Free.sw h' 99 (by kernel_rfl) (by kernel_rfl)
              exact .val (wantgM rfl (by kernel_rfl) eg) rfl (by simp [Act.eval, e5, go_sem]) rfl
            · refine Free.great (by decide) ?_
              intro L' a' w' hsz' hL' hA' hΦ h'
              have e100 : a'.tmps.getD 100 undef = .pointer (some ⟨m.k, 0, none⟩) := Free.sw h' 100 (by kernel_rfl) (by kernel_rfl)
              have eg : a'.tmps.getD 99 undef = .bool false := Free.sw h' 99 (by kernel_rfl) (by kernel_rfl)
              have l11 := hΦ.2.2.2 (hA' ⟨22, .chain⟩ (by simp) rfl)
              have hS := hΦ.at2 l11
              refine .called (d := 101) (wantgM rfl (by kernel_rfl) eg) rfl (by simp [Act.eval, e100, go_sem]) ((down_any hS.dev).mono ?_)
              rintro e w9 ⟨rfl, rfl⟩
              exact ⟨_, rfl, rfl, hΦ.more l11 24 (by decide) (by decide)⟩
            · refine Free.small (by decide) ?_
              intro L' a' w' hΦ h'
              have e7 : a'.tmps.getD 7 undef = .pointer (some ⟨m.r, 0, none⟩) := Free.sb h' 7 (by kernel_rfl) (by kernel_rfl) rfl
              have eg : a'.tmps.getD 99 undef = .bool false := Free.sw h' 99 (by kernel_rfl) (by kernel_rfl)
              exact .val (wantgM rfl (by kernel_rfl) eg) rfl (by simp [Act.eval, e7, go_sem]) rfl
            · refine Free.small (by decide) ?_
              intro L' a' w' hΦ h'
              have e102 : a'.tmps.getD 102 undef = .pointer (some ⟨m.r, 0, none⟩) := Free.sw h' 102 (by kernel_rfl) (by kernel_rfl)
              have eg : a'.tmps.getD 99 undef = .bool false := Free.sw h' 99 (by kernel_rfl) (by kernel_rfl)
              exact .val (wantgM rfl (by kernel_rfl) eg) rfl (by simp [Act.eval, e102, go_sem]) rfl
            · refine Free.small (by decide) ?_
              intro L' a' w' hΦ h'
              have e103 : a'.tmps.getD 103 undef = .pointer (some ⟨m.r, 0, none⟩) := Free.sw h' 103 (by kernel_rfl) (by kernel_rfl)
              have eg : a'.tmps.getD 99 undef = .bool false := Free.sw h' 99 (by kernel_rfl) (by kernel_rfl)
              exact .val (wantgM rfl (by kernel_rfl) eg) rfl (by simp [Act.eval, e103, go_sem]) rfl
            · refine Free.great (by decide) ?_
              intro L' a' w' hsz' hL' hA' hΦ h'
              have e104 : a'.tmps.getD 104 undef = .pointer (some ⟨m.r, 9, none⟩) := Free.sw h' 104 (by kernel_rfl) (by kernel_rfl)
              have eg : a'.tmps.getD 99 undef = .bool false := Free.sw h' 99 (by kernel_rfl) (by kernel_rfl)
              have l11 := hΦ.2.2.2 (hA' ⟨22, .guard⟩ (by simp) rfl)
              have hS := hΦ.at2 l11
              have hc := hS.ref.c 9 (.bool D2.dn) rfl
              exact .made (d := 105) (v := .bool D2.dn) (w' := w') (wantgM rfl (by kernel_rfl) eg) rfl (by simp [Act.eval, e104, hc, go_sem]) rfl (hΦ.more l11 28 (by decide) (by decide))
            · refine Free.small (by decide) ?_
              intro L' a' w' hΦ h'
              have e101 : a'.tmps.getD 101 undef = .bool D2.dn := Free.sw h' 101 (by kernel_rfl) (by kernel_rfl)
              have e105 : a'.tmps.getD 105 undef = .bool D2.dn := Free.sw h' 105 (by kernel_rfl) (by kernel_rfl)
              have eg : a'.tmps.getD 99 undef = .bool false := Free.sw h' 99 (by kernel_rfl) (by kernel_rfl)
              exact .val (wantgM rfl (by kernel_rfl) eg) rfl (by simp [Act.eval, e101, e105, go_sem]) rfl
            · refine Free.small (by decide) ?_
              intro L' a' w' hΦ h'
              have e99 : a'.tmps.getD 99 undef = .bool false := Free.sw h' 99 (by kernel_rfl) (by kernel_rfl)
              have e106 : a'.tmps.getD 106 undef = .bool false := Free.sw h' 106 (by kernel_rfl) (by kernel_rfl)
              exact .val (want0 rfl) rfl (by simp [Act.eval, e99, e106, go_sem]) rfl
            · intro a' w7 hdf hsz hwr hkp hΦ
              have HS7 := hide (hΦ.at2 (by kernel_rfl))
              have f77 : a'.tmps.getD 77 undef = .pointer (some ⟨m.k, 0, none⟩) := hwr 77 (by kernel_rfl)
              have f78 : a'.tmps.getD 78 undef = .slice (some a) n c := hwr 78 (by kernel_rfl)
              have f79 : a'.tmps.getD 79 undef = .int .i64 (j : Int) := hwr 79 (by kernel_rfl)
              have f80 : a'.tmps.getD 80 undef = .pointer (some (a.add (j * 4))) := hwr 80 (by kernel_rfl)
              have f81 : a'.tmps.getD 81 undef = .agg #[.int .u64 (x.t.seq : Int), .slice x.A1 x.t.bad.length x.c1, .slice x.A2 x.t.wear.length x.c2, .slice x.A3 x.t.void.length x.c3] := hwr 81 (by kernel_rfl)
              have f82 : a'.tmps.getD 82 undef = .int .i64 fv := hwr 82 (by kernel_rfl)
              have f83 : a'.tmps.getD 83 undef = .pointer (some ⟨m.r, 0, none⟩) := hwr 83 (by kernel_rfl)
              have f84 : a'.tmps.getD 84 undef = .slice (some a) n c := hwr 84 (by kernel_rfl)
              have f85 : a'.tmps.getD 85 undef = .int .i64 (j : Int) := hwr 85 (by kernel_rfl)
              have f86 : a'.tmps.getD 86 undef = .pointer (some (a.add (j * 4))) := hwr 86 (by kernel_rfl)
              have f87 : a'.tmps.getD 87 undef = .agg #[.int .u64 (x.t.seq : Int), .slice x.A1 x.t.bad.length x.c1, .slice x.A2 x.t.wear.length x.c2, .slice x.A3 x.t.void.length x.c3] := hwr 87 (by kernel_rfl)
              have f88 : a'.tmps.getD 88 undef = .int .i64 fv := hwr 88 (by kernel_rfl)
              have f89 : a'.tmps.getD 89 undef = .bool false := hwr 89 (by kernel_rfl)
              have f90 : a'.tmps.getD 90 undef = .bool false := hwr 90 (by kernel_rfl)
              have f91 : a'.tmps.getD 91 undef = .pointer (some ⟨m.k, 0, none⟩) := hwr 91 (by kernel_rfl)
              have f92 : a'.tmps.getD 92 undef = .int .i64 (D2.ops : Int) := hwr 92 (by kernel_rfl)
              have f93 : a'.tmps.getD 93 undef = .pointer (some ⟨m.r, 0, none⟩) := hwr 93 (by kernel_rfl)
              have f94 : a'.tmps.getD 94 undef = .pointer (some ⟨m.r, 0, none⟩) := hwr 94 (by kernel_rfl)
              have f95 : a'.tmps.getD 95 undef = .pointer (some ⟨m.r, 8, none⟩) := hwr 95 (by kernel_rfl)
              have f96 : a'.tmps.getD 96 undef = .int .i64 (D2.ops : Int) := hwr 96 (by kernel_rfl)
              have f97 : a'.tmps.getD 97 undef = .bool false := hwr 97 (by kernel_rfl)
              have f98 : a'.tmps.getD 98 undef = .bool false := hwr 98 (by kernel_rfl)
              have f99 : a'.tmps.getD 99 undef = .bool false := hwr 99 (by kernel_rfl)
              have f100 : a'.tmps.getD 100 undef = .pointer (some ⟨m.k, 0, none⟩) := hwr 100 (by kernel_rfl)
              have f101 : a'.tmps.getD 101 undef = .bool D2.dn := hwr 101 (by kernel_rfl)
              have f102 : a'.tmps.getD 102 undef = .pointer (some ⟨m.r, 0, none⟩) := hwr 102 (by kernel_rfl)
              have f103 : a'.tmps.getD 103 undef = .pointer (some ⟨m.r, 0, none⟩) := hwr 103 (by kernel_rfl)
              have f104 : a'.tmps.getD 104 undef = .pointer (some ⟨m.r, 9, none⟩) := hwr 104 (by kernel_rfl)
              have f105 : a'.tmps.getD 105 undef = .bool D2.dn := hwr 105 (by kernel_rfl)
              have f106 : a'.tmps.getD 106 undef = .bool false := hwr 106 (by kernel_rfl)
              have f107 : a'.tmps.getD 107 undef = .bool false := hwr 107 (by kernel_rfl)
              have hfr := Flo2.frame_eq [(77, .pointer (some ⟨m.k, 0, none⟩)), (78, .slice (some a) n c), (79, .int .i64 (j : Int)), (80, .pointer (some (a.add (j * 4)))), (81, .agg #[.int .u64 (x.t.seq : Int), .slice x.A1 x.t.bad.length x.c1, .slice x.A2 x.t.wear.length x.c2, .slice x.A3 x.t.void.length x.c3]), (82, .int .i64 fv), (83, .pointer (some ⟨m.r, 0, none⟩)), (84, .slice (some a) n c), (85, .int .i64 (j : Int)), (86, .pointer (some (a.add (j * 4)))), (87, .agg #[.int .u64 (x.t.seq : Int), .slice x.A1 x.t.bad.length x.c1, .slice x.A2 x.t.wear.length x.c2, .slice x.A3 x.t.void.length x.c3]), (88, .int .i64 fv), (89, .bool false), (90, .bool false), (91, .pointer (some ⟨m.k, 0, none⟩)), (92, .int .i64 (D2.ops : Int)), (93, .pointer (some ⟨m.r, 0, none⟩)), (94, .pointer (some ⟨m.r, 0, none⟩)), (95, .pointer (some ⟨m.r, 8, none⟩)), (96, .int .i64 (D2.ops : Int)), (97, .bool false), (98, .bool false), (99, .bool false), (100, .pointer (some ⟨m.k, 0, none⟩)), (101, .bool D2.dn), (102, .pointer (some ⟨m.r, 0, none⟩)), (103, .pointer (some ⟨m.r, 0, none⟩)), (104, .pointer (some ⟨m.r, 9, none⟩)), (105, .bool D2.dn), (106, .bool false), (107, .bool false)] a'.tmps _ hsz (by
                intro xx hx
                simp only [List.mem_cons, List.not_mem_nil, or_false] at hx
                rcases hx with h | h | h | h | h | h | h | h | h | h | h | h | h | h | h | h | h | h | h | h | h | h | h | h | h | h | h | h | h | h | h <;> subst h
                · exact f77
                · exact f78
                · exact f79
                · exact f80
                · exact f81
                · exact f82
                · exact f83
                · exact f84
                · exact f85
                · exact f86
                · exact f87
                · exact f88
                · exact f89
                · exact f90
                · exact f91
                · exact f92
                · exact f93
                · exact f94
                · exact f95
                · exact f96
                · exact f97
                · exact f98
                · exact f99
                · exact f100
                · exact f101
                · exact f102
                · exact f103
                · exact f104
                · exact f105
                · exact f106
                · exact f107) (fun t ht => hkp t (Flo3.writes_not _ _ (by kernel_rfl) ht))
              have ha := Flo3.act_ext hfr hdf
              clear hfr hwr hkp hsz hdf hΦ f77 f78 f79 f80 f81 f82 f83 f84 f85 f86 f87 f88 f89 f90 f91 f92 f93 f94 f95 f96 f97 f98 f99 f100 f101 f102 f103 f104 f105 f106 f107
              subst ha
              simp only [Flo2.puts, List.foldl_cons, List.foldl_nil, List.setIfInBounds_toArray, List.set, Exit.then]
              go_wp2_with fail
              go_meet
              exact ⟨rfl, HS7⟩
          case rest =>
            obtain ⟨rfl, HS7⟩ := hcut
            have HSX := hide HS7.out.below
            clear HS6
            generalize wc = w7 at *
            have FD := hide (down_any HS7.out.dev)
            go_wp2_with fail
            (with_reducible refine FD.out.mono ?_)
            rintro e w8 ⟨rfl, rfl⟩
            clear FD
            go_upto_if 109 with fail
            go_cut [9, 10, 11] from 54 to 167 (fun _ _ _ wx => Hid (TS w q D2 D2 m wx))
            case first =>
              cases hdn : D2.dn with
              | true =>
                have FN := hide (mnew_down HS7.out.dev HS7.out.bigB hdn)
                have Hdn := hide hdn
                clear hdn
                go_wp2_with fail
                (with_reducible refine FN.out.mono ?_)
                rintro e w8 ⟨rfl, hb⟩
                have hb9 := hb.alloc hb.size (.cells zeroTl.cells.toArray 26)
                have HS9 := hide (HS7.out.next hb9)
                rw [show zeroTl.cells.toArray = #[.int .u64 0, .slice none 0 0, .slice none 0 0, .slice none 0 0] from rfl] at HS9
                rw [show zeroTl.val = .agg #[.int .u64 0, .slice none 0 0, .slice none 0 0, .slice none 0 0] from rfl]
                clear hb hb9 FN HSX HS7
                go_upto_region 17 with fail
                generalize w8.alloc (.cells #[.int .u64 0, .slice none 0 0, .slice none 0 0, .slice none 0 0] 26) = w9 at *
                have HSX := hide HS9.out.below
                obtain ⟨c0, c1, c2, c3⟩ := cells4 (Hca.out _ HSX.out).1
                have FB := hide (mwrite_down HS9.out.dev HS9.out.bigB Hdn.out x)
                rw [show x.val = .agg #[.int .u64 (x.t.seq : Int), .slice x.A1 x.t.bad.length x.c1, .slice x.A2 x.t.wear.length x.c2, .slice x.A3 x.t.void.length x.c3] from rfl] at FB
                go_wp2_with fail
                (with_reducible refine FB.out.mono ?_)
                rintro e w10 ⟨rfl, hb⟩
                have HS10 := hide (HS9.out.next hb)
                clear hb FB HS9 HSX c0 c1 c2 c3
                go_wp2_with fail
                go_meet
                exact HS10
              | false =>
                clear hdn
                go_wp2_with fail
                go_meet
                exact HS7
            case rest =>
              have HS8 : Hid (TS w q D2 D2 m wc) := hcut
              clear HS7 HSX hcut
              generalize wc = w8 at *
              have FP := hide (power_any HS8.out.dev HS8.out.bigB)
              go_wp2_with fail
              (with_reducible refine FP.out.mono ?_)
              rintro e w9 ⟨rfl, hd9, ht9⟩
              have HS9 := hide (HS8.out.dev_step hd9 ht9 rfl)
              have r9 := HS9.out.ref.c 9 (.bool D2.dn) rfl
              have f9 := HS9.out.ref.f 9
              have HS10 := hide (HS9.out.ref_step (HS9.out.ref.set_down false) (Tch.set (p := ⟨m.r, 9, none⟩) (List.mem_cons_self ..) (.bool false)) rfl)
              clear hd9 ht9 FP HS8
              go_upto_region 21 with fail
              generalize w9.setCell ⟨m.r, 9, none⟩ (.bool false) = w10 at *
              obtain ⟨D3, hD3⟩ : ∃ D3 : Dv, Hid (D3 = { D2 with dn := false }) := ⟨_, hide rfl⟩
              rw [← hD3.out] at HS10
              have HD3 := hide (show D3.dn = false ∧ D3.ops ≤ 2 * (j + 1) by rw [hD3.out]; exact ⟨rfl, HW2.out.1⟩)
              clear HS9 r9 f9 hD3
              have FN := hide (mnew_any HS10.out.dev HS10.out.bigB HD3.out.1)
              go_wp2_with fail
              (with_reducible refine FN.out.mono ?_)
              rintro e w11 ⟨u, rfl, hut, huo, huf, hhi, hb⟩
              have hb12 := (Below.refl w11.heap.size w11).alloc (Nat.le_refl _) (.cells u.cells.toArray 26)
              have HS12 := hide ((HS10.out.next hb).next hb12)
              have HU12 := hide (BoxT.new u w11)
              have HO12 := hide ((huo.below hb12).up hb12.size)
              have Hut := hide hut
              have Huf := hide huf
              rw [show u.cells.toArray = #[.int .u64 (u.t.seq : Int), .slice u.A1 u.t.bad.length u.c1, .slice u.A2 u.t.wear.length u.c2, .slice u.A3 u.t.void.length u.c3] from rfl] at HS12 HU12 HO12
              rw [show u.val = .agg #[.int .u64 (u.t.seq : Int), .slice u.A1 u.t.bad.length u.c1, .slice u.A2 u.t.wear.length u.c2, .slice u.A3 u.t.void.length u.c3] from rfl]
              clear hut huo huf hhi hb hb12 FN HS10
              go_upto_region 22 with fail
              generalize w11.alloc (.cells #[.int .u64 (u.t.seq : Int), .slice u.A1 u.t.bad.length u.c1, .slice u.A2 u.t.wear.length u.c2, .slice u.A3 u.t.void.length u.c3] 26) = w12 at *
              generalize w11.heap.size = ku at *
              have FX := hide (rnewest_any HS12.out.ref HS12.out.pos.2.2.2 HS12.out.dev.plen)
              go_wp2_with fail
              (with_reducible refine FX.out.mono ?_)
              rintro e w13 ⟨v, rfl, hvt, hvo, hvf, hhi, hb⟩
              have hb14 := (Below.refl w13.heap.size w13).alloc (Nat.le_refl _) (.cells v.cells.toArray 26)
              have hb24 := hb.trans (hb14.mono hb.size)
              have HS14 := hide (HS12.out.next hb24)
              have HU14 := hide (HU12.out.below hb24 HU12.out.lt)
              have HO14 := hide ((HO12.out.below hb24).up hb24.size)
              have HV14 := hide (BoxT.new v w13)
              have HQ14 := hide ((hvo.below hb14).up hb14.size)
              have Hvt := hide hvt
              have Hvf := hide hvf
              rw [show v.cells.toArray = #[.int .u64 (v.t.seq : Int), .slice v.A1 v.t.bad.length v.c1, .slice v.A2 v.t.wear.length v.c2, .slice v.A3 v.t.void.length v.c3] from rfl] at HS14 HU14 HO14 HV14 HQ14
              rw [show v.val = .agg #[.int .u64 (v.t.seq : Int), .slice v.A1 v.t.bad.length v.c1, .slice v.A2 v.t.wear.length v.c2, .slice v.A3 v.t.void.length v.c3] from rfl]
              clear hvt hvo hvf hhi hb hb14 hb24 FX HS12 HU12 HO12
              go_upto_region 23 with fail
              generalize w13.alloc (.cells #[.int .u64 (v.t.seq : Int), .slice v.A1 v.t.bad.length v.c1, .slice v.A2 v.t.wear.length v.c2, .slice v.A3 v.t.void.length v.c3] 26) = w14 at *
              generalize w13.heap.size = kv at *
              have Hj1 := hide (show j + 1 ≤ l.length ∧ j + 1 ≤ 30 from Hj.out)
              obtain ⟨N, hN⟩ : ∃ N, Hid (D3.newest = N) := ⟨_, hide rfl⟩
              rw [hN.out] at Hut Hvt ⊢
              rcases N with _ | ⟨t0, r0⟩
              · rw [show newV none = (zeroT, 0, 8) from rfl, show newP none = -1 from rfl]
                dsimp only
                clear Hut Hvt
                go_wp2
                go_roundw
                case rel => exact ⟨j + 1, D3, Hj1.out.1, Hj1.out.2, by first | rfl | exact congrArg (Value.int .i64) e7, HS14, HD3⟩
                case measure => first | exact measT Hj.out.2 | exact measT2 e7 Hj.out.2
              · rw [show newV (some (t0, r0)) = (t0, (r0 : Int), 0) from rfl] at Hut Hvt ⊢
                rw [show newP (some (t0, r0)) = (r0 : Int) from rfl]
                dsimp only at Hut Hvt ⊢
                have hr0 : ¬ (r0 : Int) < 0 := by omega
                have hr1 : (0 : Int) ≤ (r0 : Int) := by omega
                have FS := hide (same16_any u v w14.heap.size w14 HO14.out HQ14.out Huf.out Hvf.out (Nat.le_refl _))
                rw [decide_eq_true (show u.t = v.t by rw [Hut.out, Hvt.out]), show u.val = .agg #[.int .u64 (u.t.seq : Int), .slice u.A1 u.t.bad.length u.c1, .slice u.A2 u.t.wear.length u.c2, .slice u.A3 u.t.void.length u.c3] from rfl, show v.val = .agg #[.int .u64 (v.t.seq : Int), .slice v.A1 v.t.bad.length v.c1, .slice v.A2 v.t.wear.length v.c2, .slice v.A3 v.t.void.length v.c3] from rfl] at FS
                have u0 := HU14.out.c 0 _ rfl
                have u1 := HU14.out.c 1 _ rfl
                have u2 := HU14.out.c 2 _ rfl
                have u3 := HU14.out.c 3 _ rfl
                have v0 := HV14.out.c 0 _ rfl
                have v1 := HV14.out.c 1 _ rfl
                have v2 := HV14.out.c 2 _ rfl
                have v3 := HV14.out.c 3 _ rfl
                go_wp2_with fail
                (with_reducible refine FS.out.mono ?_)
                rintro e w15 ⟨rfl, hb⟩
                have HS15 := hide (HS14.out.next hb)
                clear hb FS u0 u1 u2 u3 v0 v1 v2 v3
                go_wp2
                go_roundw
                case rel => exact ⟨j + 1, D3, Hj1.out.1, Hj1.out.2, by first | rfl | exact congrArg (Value.int .i64) e7, HS15, HD3⟩
                case measure => first | exact measT Hj.out.2 | exact measT2 e7 Hj.out.2
        · rw [decide_eq_false hm]
          have FB := hide (mwrite_bad HS6.out.dev HS6.out.bigB HP.out.1 x w.heap.size (Hxo.out.below HSX.out) Hxl.out hm HSX.out.size)
          rw [show x.val = .agg #[.int .u64 (x.t.seq : Int), .slice x.A1 x.t.bad.length x.c1, .slice x.A2 x.t.wear.length x.c2, .slice x.A3 x.t.void.length x.c3] from rfl] at FB
          clear hm
          go_wp2_with (with_reducible refine wpl_load_addr rfl 26 (.tmp 73) rfl (a.add (j * 4)) x.cells (Hca.out _ HSX.out).1 rfl _ Tryz.underlying26 rfl 4 infoTb rfl ?_; rw [e1])
          (with_reducible refine FB.out.mono ?_)
          rintro e w7 ⟨rfl, hb⟩
          have HS7 := hide (HS6.out.next hb)
          clear hb FB HS6 HSX
          have HP7 := hide (show D.dn = false ∧ D.ops ≤ 2 * (j + 1) from ⟨HP.out.1, by have := HP.out.2; omega⟩)
          have Hj1 := hide (show j + 1 ≤ l.length ∧ j + 1 ≤ 30 from Hj.out)
          go_wp2
          go_roundw
          case rel => exact ⟨j + 1, D, Hj1.out.1, Hj1.out.2, by first | rfl | exact congrArg (Value.int .i64) e7, HS7, HP7⟩
          case measure => first | exact measT Hj.out.2 | exact measT2 e7 Hj.out.2
      · have hlt' : (j : Int) < (n : Int) := by omega
        have h30' : ¬ (j : Int) < 30 := by omega
        have HB := hide HS.out.below
        clear hj h30
        go_wp2
        go_ret
        exact ⟨rfl, HB.out⟩
    · have hlt' : ¬ (j : Int) < (n : Int) := by omega
      have HB := hide HS.out.below
      clear hj
      go_wp2
      go_ret
      exact ⟨rfl, HB.out⟩
end Go.Proofs.YtigpplckddnghaaGreat
