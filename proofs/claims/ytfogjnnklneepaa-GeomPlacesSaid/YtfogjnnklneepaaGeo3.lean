/-
  CONTRACTS of package geom, third part: Good, room and the functions that it makes, Logical, Budget. (By gen/Geo3.gen.py.)
-/
import Derived.Test.YtfogjnnklneepaaGeo2
import Derived.Test.YtfogjnnklneepaaFlow
namespace Go.Proofs.Ytfogjnnklneepaa
open Go.RowKit

theorem Gm.good_ok {g : Gm} {l : List Int} (h : g.Right) : g.good l = g.b - 2 - badN g.b l := if_pos h
theorem Gm.good_not {g : Gm} {l : List Int} (h : ¬ g.Right) : g.good l = 0 := if_neg h
theorem Gm.logical_ok {g : Gm} {l : List Int} (h : g.Right) : g.logical l = max ((g.good l - g.r - 2) * g.p - 16) 0 := if_pos h
theorem Gm.logical_not {g : Gm} {l : List Int} (h : ¬ g.Right) : g.logical l = 0 := if_neg h

set_option maxHeartbeats 2000000 in
theorem good_any (g : Gm) (A : Option Addr) (n c B : Nat) (l : List Int) (w : World) (hl : Lies w B A (i64s l)) (hn : n = l.length) (hn2 : n ≤ 9223372036854775807) (hB : B ≤ w.heap.size) :
    Calls Try.prog 15 #[g.val, .slice A n c] w fun e w' => e = .returned (.int .i64 (g.good l)) ∧ Below w.heap.size w w' := by
  have Hl := hide hl
  have Hn := hide hn
  have Hn2 := hide hn2
  have HB := hide hB
  have Hc := hide (check_any g)
  have Hb0 := hide ((Below.refl w.heap.size w).alloc (Nat.le_refl _) (.cells #[.int .i64 g.b, .int .i64 g.p, .int .i64 g.r] 26))
  have Hx := hide (Boxed.new g w)
  clear hl hn hB hn2
  by_cases h : g.Right
  · have hN := badN_le g.b l
    have Hbad0 := hide (fun W hl hB => bad_any g A n c B l W hl Hn.out Hn2.out hB)
    rw [Gm.bad_ok h] at Hbad0
    rw [Gm.good_ok h]
    rw [Gm.check_ok h] at Hc
    obtain ⟨hb1, hb2, _⟩ := h
    generalize badN g.b l = N at *
    rcases g with ⟨b, p, r⟩
    unfold Gm.val at *
    simp only at *
    have k1 : IntKind.i64.wrap (b - 2) = b - 2 := IntWalk.i64_in _ (by omega)
    have k2 : IntKind.i64.wrap (b - 2 - (N : Int)) = b - 2 - N := IntWalk.i64_in _ (by omega)
    go_enter Try.func15, Try.ntmps15
    go_wp2_with fail
    (with_reducible refine (Hc.out _).mono ?_)
    rintro e w1 ⟨rfl, hb⟩
    have Hb := hide hb
    clear hb Hc
    have hz := Hb.out.size
    have hlt : w.heap.size < w1.heap.size := by simp at hz; omega
    have Hbad := hide (fun W (hW : Below w1.heap.size w1 W) => belowF (Hbad0.out W (Hl.out.below ((Hb0.out.trans ((Hb.out.mono (by simp)).trans (hW.mono (by omega)))).mono HB.out)) (by have := HB.out; have := hW.size; omega)))
    have Hx1 := hide (Hx.out.below Hb.out (by simp))
    have Hb1 := hide (Hb0.out.trans (Hb.out.mono (by simp)))
    clear Hx Hbad0 Hb Hb0 hz
    generalize hk : w.heap.size = k at *
    have Hk := hide hk
    clear hk
    go_wp2_with fail
    go_wp2
    have Hx := Hx1
    refine wp_region_flow (by kernel_rfl) (fun d => if d = 4 then is (.int .i64 (b - 2 - N)) else List.getD [is (.pointer (some ⟨k, 0, none⟩)), is (.int .i64 b), is (.int .i64 (b - 2)), is (.agg #[.int .i64 b, .int .i64 p, .int .i64 r]), is (.slice A n c), is (.int .i64 (N : Int)), is (.int .i64 (b - 2 - N))] (d - 8) (fun _ _ => True)) 4 (by kernel_rfl) (by kernel_rfl) ?_ ?_
    · refine And.intro ?_ (And.intro ?_ (And.intro ?_ (And.intro ?_ (And.intro ?_ (And.intro ?_ (And.intro ?_ (And.intro ?_ trivial)))))))
      · intro a w hb h
        have e2 : a.tmps.getD 2 undef = .pointer (some ⟨k, 0, none⟩) := sb h 2 (by kernel_rfl) (by kernel_rfl) rfl
        exact .val (want0 rfl) rfl (by simp [Act.eval, e2, go_sem]) (Keeps.is rfl)
      · intro a w hb h
        have e8 := (sw h 8 (by kernel_rfl) (by kernel_rfl)).eq
        have hcb := Boxed.b (Hx.out.below hb hlt)
        have hcp := Boxed.p (Hx.out.below hb hlt)
        have hcr := Boxed.r (Hx.out.below hb hlt)
        simp only at hcb hcp hcr
        exact .val (want0 rfl) rfl (by simp [Act.eval, e8, hcb, go_sem]) (Keeps.is rfl)
      · intro a w hb h
        have e9 := (sw h 9 (by kernel_rfl) (by kernel_rfl)).eq
        exact .val (want0 rfl) rfl (by simp [Act.eval, e9, k1, go_sem]) (Keeps.is rfl)
      · intro a w hb h
        have e2 : a.tmps.getD 2 undef = .pointer (some ⟨k, 0, none⟩) := sb h 2 (by kernel_rfl) (by kernel_rfl) rfl
        have hcb := Boxed.b (Hx.out.below hb hlt)
        have hcp := Boxed.p (Hx.out.below hb hlt)
        have hcr := Boxed.r (Hx.out.below hb hlt)
        simp only at hcb hcp hcr
        exact .val (want0 rfl) rfl (by simp [Act.eval, e2, hcb, hcp, hcr, go_sem]) (Keeps.is rfl)
      · intro a w hb h
        have e1 : a.tmps.getD 1 undef = .slice A n c := sb h 1 (by kernel_rfl) (by kernel_rfl) rfl
        exact .val (want0 rfl) rfl (by simp [Act.eval, e1, go_sem]) (Keeps.is rfl)
      · intro a w hb h
        have e11 := (sw h 11 (by kernel_rfl) (by kernel_rfl)).eq
        have e12 := (sw h 12 (by kernel_rfl) (by kernel_rfl)).eq
        exact .called (want0 rfl) rfl (by simp [Act.eval, e11, e12, go_sem]) (Hbad.out w hb)
      · intro a w hb h
        have e10 := (sw h 10 (by kernel_rfl) (by kernel_rfl)).eq
        have e13 := (sw h 13 (by kernel_rfl) (by kernel_rfl)).eq
        exact .val (want0 rfl) rfl (by simp [Act.eval, e10, e13, k2, go_sem]) (Keeps.is rfl)
      · intro a w hb h
        have e14 := (sw h 14 (by kernel_rfl) (by kernel_rfl)).eq
        exact .val (want0 rfl) rfl (by simp [Act.eval, e14, go_sem]) (Keeps.is rfl)
    · intro a w2 hd hb hv
      have er := hv.eq
      clear hv
      simp only [Exit.then]
      go_wp2
      exact ⟨hd, _, results_tmp rfl _ _ _, by rw [er], by rw [Hk.out]; exact Hb1.out.trans (hb.mono (Nat.le_of_lt hlt))⟩
  · rw [Gm.good_not h]
    rw [Gm.check_not h] at Hc
    unfold Gm.val at *
    go_enter Try.func15, Try.ntmps15
    go_wp2_with fail
    (with_reducible refine (Hc.out _).mono ?_)
    rintro e w1 ⟨rfl, hb⟩
    have Hb := hide hb
    clear hb Hc
    go_wp2
    go_ret
    exact ⟨rfl, Hb0.out.trans (Hb.out.mono (by simp))⟩

/-- The function made for sides that may be. -/
def madeFor (g : Gm) (v : Value) (w : World) : Prop := ∃ k, v = .func (.func 20) #[] #[.pointer (some ⟨k, 0, none⟩)] ∧ k < w.heap.size ∧ Boxed g k w

theorem room_ok (g : Gm) (w : World) (h : g.Right) : Calls Try.prog 17 #[g.val] w fun e w' => ∃ v, e = .returned v ∧ Below w.heap.size w w' ∧ Keeps (madeFor g) v w' := by
  have Hc := hide (check_any g)
  have Hb0 := hide ((Below.refl w.heap.size w).alloc (Nat.le_refl _) (.cells #[.int .i64 g.b, .int .i64 g.p, .int .i64 g.r] 26))
  have Hx := hide (Boxed.new g w)
  rw [Gm.check_ok h] at Hc
  clear h
  unfold Gm.val at *
  go_enter Try.func17, Try.ntmps17
  go_wp2_with fail
  (with_reducible refine (Hc.out _).mono ?_)
  rintro e w1 ⟨rfl, hb⟩
  have Hb := hide hb
  clear hb Hc
  have hz := Hb.out.size
  have hlt : w.heap.size < w1.heap.size := by simp at hz; omega
  have Hx1 := hide (Hx.out.below Hb.out (by simp))
  have Hb1 := hide (Hb0.out.trans (Hb.out.mono (by simp)))
  clear Hx Hb Hb0 hz
  go_wp2
  go_ret
  exact ⟨_, rfl, Hb1.out, fun W hW => ⟨_, rfl, Nat.lt_of_lt_of_le hlt hW.size, Hx1.out.below hW hlt⟩⟩

theorem room_not (g : Gm) (w : World) (h : ¬ g.Right) : Calls Try.prog 17 #[g.val] w fun e w' => e = .returned (.func (.func 19) #[] #[]) ∧ Below w.heap.size w w' := by
  have Hc := hide (check_any g)
  have Hb0 := hide ((Below.refl w.heap.size w).alloc (Nat.le_refl _) (.cells #[.int .i64 g.b, .int .i64 g.p, .int .i64 g.r] 26))
  rw [Gm.check_not h] at Hc
  clear h
  unfold Gm.val at *
  go_enter Try.func17, Try.ntmps17
  go_wp2_with fail
  (with_reducible refine (Hc.out _).mono ?_)
  rintro e w1 ⟨rfl, hb⟩
  have Hb := hide hb
  clear hb Hc
  go_wp2
  go_ret
  exact ⟨rfl, Hb0.out.trans (Hb.out.mono (by simp))⟩

theorem none_any (z : Int) (w : World) : Calls Try.prog 19 #[.int .i64 z] w fun e w' => e = .returned (.int .i64 0) ∧ w = w' := by
  go_enter Try.func19, Try.ntmps19
  go_wp2
  go_ret
  exact ⟨rfl, rfl⟩

theorem mul_within {y p : Int} (h1 : -100 ≤ y) (h2 : y ≤ 100) (h3 : 0 ≤ p) (h4 : p ≤ 32) : -3200 ≤ y * p ∧ y * p ≤ 3200 := by
  have a := Int.mul_le_mul_of_nonneg_right h1 h3
  have b := Int.mul_le_mul_of_nonneg_right h2 h3
  omega

theorem fits_any (g : Gm) (k : Nat) (z : Int) (w : World) (h : g.Right) (hz : -50 ≤ z ∧ z ≤ 50) (hx : Boxed g k w) :
    Calls Try.prog 20 #[.int .i64 z, .pointer (some ⟨k, 0, none⟩)] w fun e w' => e = .returned (.int .i64 (max ((z - g.r - 2) * g.p - 16) 0)) ∧ w = w' := by
  have hcp := hx.p
  have hcr := hx.r
  rcases g with ⟨b, p, r⟩
  obtain ⟨_, _, h3, h4, h5, h6⟩ := h
  simp only at *
  have hm := mul_within (y := z - r - 2) (p := p) (by omega) (by omega) (by omega) h4
  have e1 : wrap64 (z - r) = z - r := gwr64 (by omega)
  have e2 : wrap64 (z - r - 2) = z - r - 2 := gwr64 (by omega)
  have e3 : wrap64 ((z - r - 2) * p) = (z - r - 2) * p := gwr64 (by omega)
  have e4 : wrap64 ((z - r - 2) * p - 16) = (z - r - 2) * p - 16 := gwr64 (by omega)
  clear hm hz h3 h4 h5 h6 hx
  go_enter Try.func20, Try.ntmps20
  go_wp2
  all_goals
    go_ret
    exact ⟨gret_int (by omega), rfl⟩

set_option maxHeartbeats 2000000 in
theorem logical_any (g : Gm) (A : Option Addr) (n c B : Nat) (l : List Int) (w : World) (hl : Lies w B A (i64s l)) (hn : n = l.length) (hn2 : n ≤ 9223372036854775807) (hB : B ≤ w.heap.size) :
    Calls Try.prog 13 #[g.val, .slice A n c] w fun e w' => e = .returned (.int .i64 (g.logical l)) ∧ Below w.heap.size w w' := by
  have Hl := hide hl
  have Hn := hide hn
  have Hn2 := hide hn2
  have HB := hide hB
  have Hb1 := hide ((Below.refl w.heap.size w).alloc (Nat.le_refl _) (.cells #[.int .i64 g.b, .int .i64 g.p, .int .i64 g.r] 26))
  have Hx := hide (Boxed.new g w)
  have hlt : w.heap.size < (w.alloc (.cells #[.int .i64 g.b, .int .i64 g.p, .int .i64 g.r] 26)).heap.size := by simp
  clear hl hn hB hn2
  have Hgood := hide (fun W (hW : Below (w.alloc (.cells #[.int .i64 g.b, .int .i64 g.p, .int .i64 g.r] 26)).heap.size (w.alloc (.cells #[.int .i64 g.b, .int .i64 g.p, .int .i64 g.r] 26)) W) =>
    belowF (good_any g A n c B l W (Hl.out.below ((Hb1.out.trans (hW.mono (Nat.le_of_lt hlt))).mono HB.out)) Hn.out Hn2.out (Nat.le_trans HB.out (Hb1.out.trans (hW.mono (Nat.le_of_lt hlt))).size)))
  by_cases h : g.Right
  · have hN := badN_le g.b l
    have hgood := Gm.good_ok (l := l) h
    rw [Gm.logical_ok h]
    have Hroom := hide (fun W => room_ok g W h)
    have Hcall := hide (fun q W hx => fits_any g q (g.good l) W h (by obtain ⟨_, _, _⟩ := h; omega) hx)
    clear hgood h hN
    generalize g.good l = z at *
    rcases g with ⟨b, p, r⟩
    unfold Gm.val at *
    simp only at *
    generalize max ((z - r - 2) * p - 16) 0 = y at *
    go_enter Try.func13, Try.ntmps13
    go_wp2
    clear Hl HB
    generalize w.alloc (.cells #[.int .i64 b, .int .i64 p, .int .i64 r] 26) = w1 at *
    generalize hk : w.heap.size = k at *
    have Hk := hide hk
    clear hk
    refine wp_region_flow (by kernel_rfl) (fun d => if d = 4 then is (.int .i64 y) else List.getD [is (.agg #[.int .i64 b, .int .i64 p, .int .i64 r]), madeFor ⟨b, p, r⟩, is (.agg #[.int .i64 b, .int .i64 p, .int .i64 r]), is (.slice A n c), is (.int .i64 z), is (.int .i64 y)] (d - 5) (fun _ _ => True)) 4 (by kernel_rfl) (by kernel_rfl) ?_ ?_
    · refine And.intro ?_ (And.intro ?_ (And.intro ?_ (And.intro ?_ (And.intro ?_ (And.intro ?_ (And.intro ?_ trivial))))))
      · intro a w hb h
        have e2 : a.tmps.getD 2 undef = .pointer (some ⟨k, 0, none⟩) := sb h 2 (by kernel_rfl) (by kernel_rfl) rfl
        have hcb := Boxed.b (Hx.out.below hb hlt)
        have hcp := Boxed.p (Hx.out.below hb hlt)
        have hcr := Boxed.r (Hx.out.below hb hlt)
        simp only at hcb hcp hcr
        exact .val (want0 rfl) rfl (by simp [Act.eval, e2, hcb, hcp, hcr, go_sem]) (Keeps.is rfl)
      · intro a w hb h
        have e5 := (sw h 5 (by kernel_rfl) (by kernel_rfl)).eq
        exact .called (want0 rfl) rfl (by simp [Act.eval, e5, go_sem]) (Hroom.out w)
      · intro a w hb h
        have e2 : a.tmps.getD 2 undef = .pointer (some ⟨k, 0, none⟩) := sb h 2 (by kernel_rfl) (by kernel_rfl) rfl
        have hcb := Boxed.b (Hx.out.below hb hlt)
        have hcp := Boxed.p (Hx.out.below hb hlt)
        have hcr := Boxed.r (Hx.out.below hb hlt)
        simp only at hcb hcp hcr
        exact .val (want0 rfl) rfl (by simp [Act.eval, e2, hcb, hcp, hcr, go_sem]) (Keeps.is rfl)
      · intro a w hb h
        have e1 : a.tmps.getD 1 undef = .slice A n c := sb h 1 (by kernel_rfl) (by kernel_rfl) rfl
        exact .val (want0 rfl) rfl (by simp [Act.eval, e1, go_sem]) (Keeps.is rfl)
      · intro a w hb h
        have e7 := (sw h 7 (by kernel_rfl) (by kernel_rfl)).eq
        have e8 := (sw h 8 (by kernel_rfl) (by kernel_rfl)).eq
        exact .called (want0 rfl) rfl (by simp [Act.eval, e7, e8, go_sem]) (Hgood.out w hb)
      · intro a w hb h
        have e6 := sw h 6 (by kernel_rfl) (by kernel_rfl)
        have e9 := (sw h 9 (by kernel_rfl) (by kernel_rfl)).eq
        obtain ⟨q, eq6, hq, hbx⟩ := e6.now
        exact .called (want0 rfl) rfl (by simp [Act.eval, e9, eq6, go_sem]) (quietF (Hcall.out q w hbx))
      · intro a w hb h
        have e10 := (sw h 10 (by kernel_rfl) (by kernel_rfl)).eq
        exact .val (want0 rfl) rfl (by simp [Act.eval, e10, go_sem]) (Keeps.is rfl)
    · intro a w2 hd hb hv
      have er := hv.eq
      clear hv
      simp only [Exit.then]
      go_wp2
      exact ⟨hd, _, results_tmp rfl _ _ _, by rw [er], by rw [Hk.out]; exact Hb1.out.trans (hb.mono (Nat.le_of_lt hlt))⟩
  · rw [Gm.logical_not h]
    have Hroom := hide (fun W => belowF (room_not g W h))
    have Hcall := hide (fun W => none_any (g.good l) W)
    clear h
    generalize g.good l = z at *
    rcases g with ⟨b, p, r⟩
    unfold Gm.val at *
    simp only at *
    go_enter Try.func13, Try.ntmps13
    go_wp2
    clear Hl HB
    generalize w.alloc (.cells #[.int .i64 b, .int .i64 p, .int .i64 r] 26) = w1 at *
    generalize hk : w.heap.size = k at *
    have Hk := hide hk
    clear hk
    refine wp_region_flow (by kernel_rfl) (fun d => if d = 4 then is (.int .i64 0) else List.getD [is (.agg #[.int .i64 b, .int .i64 p, .int .i64 r]), is (.func (.func 19) #[] #[]), is (.agg #[.int .i64 b, .int .i64 p, .int .i64 r]), is (.slice A n c), is (.int .i64 z), is (.int .i64 0)] (d - 5) (fun _ _ => True)) 4 (by kernel_rfl) (by kernel_rfl) ?_ ?_
    · refine And.intro ?_ (And.intro ?_ (And.intro ?_ (And.intro ?_ (And.intro ?_ (And.intro ?_ (And.intro ?_ trivial))))))
      · intro a w hb h
        have e2 : a.tmps.getD 2 undef = .pointer (some ⟨k, 0, none⟩) := sb h 2 (by kernel_rfl) (by kernel_rfl) rfl
        have hcb := Boxed.b (Hx.out.below hb hlt)
        have hcp := Boxed.p (Hx.out.below hb hlt)
        have hcr := Boxed.r (Hx.out.below hb hlt)
        simp only at hcb hcp hcr
        exact .val (want0 rfl) rfl (by simp [Act.eval, e2, hcb, hcp, hcr, go_sem]) (Keeps.is rfl)
      · intro a w hb h
        have e5 := (sw h 5 (by kernel_rfl) (by kernel_rfl)).eq
        exact .called (want0 rfl) rfl (by simp [Act.eval, e5, go_sem]) (Hroom.out w)
      · intro a w hb h
        have e2 : a.tmps.getD 2 undef = .pointer (some ⟨k, 0, none⟩) := sb h 2 (by kernel_rfl) (by kernel_rfl) rfl
        have hcb := Boxed.b (Hx.out.below hb hlt)
        have hcp := Boxed.p (Hx.out.below hb hlt)
        have hcr := Boxed.r (Hx.out.below hb hlt)
        simp only at hcb hcp hcr
        exact .val (want0 rfl) rfl (by simp [Act.eval, e2, hcb, hcp, hcr, go_sem]) (Keeps.is rfl)
      · intro a w hb h
        have e1 : a.tmps.getD 1 undef = .slice A n c := sb h 1 (by kernel_rfl) (by kernel_rfl) rfl
        exact .val (want0 rfl) rfl (by simp [Act.eval, e1, go_sem]) (Keeps.is rfl)
      · intro a w hb h
        have e7 := (sw h 7 (by kernel_rfl) (by kernel_rfl)).eq
        have e8 := (sw h 8 (by kernel_rfl) (by kernel_rfl)).eq
        exact .called (want0 rfl) rfl (by simp [Act.eval, e7, e8, go_sem]) (Hgood.out w hb)
      · intro a w hb h
        have e6 := (sw h 6 (by kernel_rfl) (by kernel_rfl)).eq
        have e9 := (sw h 9 (by kernel_rfl) (by kernel_rfl)).eq
        exact .called (want0 rfl) rfl (by simp [Act.eval, e6, e9, go_sem]) (quietF (Hcall.out w))
      · intro a w hb h
        have e10 := (sw h 10 (by kernel_rfl) (by kernel_rfl)).eq
        exact .val (want0 rfl) rfl (by simp [Act.eval, e10, go_sem]) (Keeps.is rfl)
    · intro a w2 hd hb hv
      have er := hv.eq
      clear hv
      simp only [Exit.then]
      go_wp2
      exact ⟨hd, _, results_tmp rfl _ _ _, by rw [er], by rw [Hk.out]; exact Hb1.out.trans (hb.mono (Nat.le_of_lt hlt))⟩

theorem Gm.logical_within (g : Gm) (l : List Int) : 0 ≤ g.logical l ∧ g.logical l ≤ 10000 := by
  by_cases h : g.Right
  · have hN := badN_le g.b l
    rw [Gm.logical_ok h, Gm.good_ok h]
    obtain ⟨h1, h2, h3, h4, h5, h6⟩ := h
    have hm := mul_within (y := g.b - 2 - badN g.b l - g.r - 2) (p := g.p) (by omega) (by omega) (by omega) h4
    omega
  · rw [Gm.logical_not h]; omega

theorem budget_any (g : Gm) (A : Option Addr) (n c B : Nat) (l : List Int) (w : World) (hl : Lies w B A (i64s l)) (hn : n = l.length) (hn2 : n ≤ 9223372036854775807) (hB : B ≤ w.heap.size) :
    Calls Try.prog 14 #[g.val, .slice A n c] w fun e w' => e = .returned (.int .i64 (g.budget l)) ∧ Below w.heap.size w w' := by
  have Hb0 := hide ((Below.refl w.heap.size w).alloc (Nat.le_refl _) (.cells #[.int .i64 g.b, .int .i64 g.p, .int .i64 g.r] 26))
  have Hlog := hide (logical_any g A n c B l (w.alloc (.cells #[.int .i64 g.b, .int .i64 g.p, .int .i64 g.r] 26)) (hl.alloc hB _) hn hn2 (by simp; omega))
  have hz := g.logical_within l
  unfold Gm.budget
  generalize g.logical l = z at *
  have e1 : wrap64 (z - 1) = z - 1 := gwr64 (by omega)
  have Hz := hide hz
  clear hl hn hn2 hB hz
  unfold Gm.val at *
  go_enter Try.func14, Try.ntmps14
  go_wp2_with (go_at_call 13; (with_reducible refine Hlog.out.mono ?_); rintro e w1 ⟨rfl, hb⟩; have Hb := hide hb; clear hb Hlog)
  all_goals
    go_ret
    exact ⟨gret_int (by omega), Hb0.out.trans (Hb.out.mono (by simp))⟩

end Go.Proofs.Ytfogjnnklneepaa
