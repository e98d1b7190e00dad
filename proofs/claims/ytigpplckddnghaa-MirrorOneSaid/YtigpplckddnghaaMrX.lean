/-
  CONTRACTS of package mirror: older, Write.
-/
import Derived.Test.YtigpplckddnghaaMrV
namespace Go.Proofs.Ytigpplckddnghaa
open Go.RowKit
set_option maxRecDepth 8000

theorem newest_two {D : Dv} {u : Tb} {r : Nat} (h : D.newest = some (u, r)) : r = 0 ∨ r = 1 := by
  unfold Dv.newest at h
  cases ha : last (D.tabs 0) with
  | none =>
    rw [ha] at h
    cases hb : last (D.tabs 1) with
    | none => rw [hb] at h; cases h
    | some b => rw [hb] at h; injection h with h; injection h with _ h; exact .inr h.symm
  | some a =>
    rw [ha] at h
    cases hb : last (D.tabs 1) with
    | none => rw [hb] at h; injection h with h; injection h with _ h; exact .inl h.symm
    | some b =>
      rw [hb, comb_two] at h
      split at h <;> (injection h with h; injection h with _ h)
      · exact .inr h.symm
      · exact .inl h.symm
section
variable {w : World} {B0 B : Nat} {D : Dv} {k kb kp km : Nat}
set_option maxHeartbeats 2000000 in
theorem older_any (h : DevAt w B0 B D k kb kp km) (hB : B ≤ w.heap.size) (hd : D.dn = false) :
    Calls Try.prog 22 #[.pointer (some ⟨k, 0, none⟩)] w fun e w' => e = .returned (.int .i64 (D.older : Int)) ∧ Below w.heap.size w w' := by
  have F := hide (mnew_any h hB hd)
  have HO : Hid ((D.newest = none → D.older = 0) ∧ ∀ u r, D.newest = some (u, r) → (r = 0 ∧ D.older = 1 ∨ r = 1 ∧ D.older = 0)) := hide ⟨fun e => by unfold Dv.older; simp only [e], fun u r e => by
    rcases newest_two e with e2 | e2
    · left; subst e2; exact ⟨rfl, by unfold Dv.older; simp only [e]⟩
    · right; subst e2; exact ⟨rfl, by unfold Dv.older; simp only [e]⟩⟩
  clear h hB hd
  generalize D.newest = N at *
  generalize D.older = O at *
  have Hs : ∀ x : Tl, x.val = .agg #[.int .u64 (x.t.seq : Int), .slice x.A1 x.t.bad.length x.c1, .slice x.A2 x.t.wear.length x.c2, .slice x.A3 x.t.void.length x.c3] := fun _ => rfl
  rcases N with _ | ⟨u, r⟩
  · obtain rfl : O = 0 := HO.out.1 rfl
    rw [show newV none = (zeroT, 0, 8) from rfl] at F
    clear HO
    go_enter Try.func22, Try.ntmps22
    go_wp2_with fail
    (with_reducible refine F.out.mono ?_)
    rintro e w1 ⟨x, rfl, h1, h2, h3, h4, hb⟩
    have HB := hide (hb.alloc hb.size (.cells #[.int .u64 (x.t.seq : Int), .slice x.A1 x.t.bad.length x.c1, .slice x.A2 x.t.wear.length x.c2, .slice x.A3 x.t.void.length x.c3] 39))
    rw [Hs x]
    clear hb F h1 h2 h3 h4 Hs
    go_wp2
    go_ret
    exact ⟨rfl, HB.out⟩
  · rw [show newV (some (u, r)) = (u, (r : Int), 0) from rfl] at F
    rcases HO.out.2 u r rfl with ⟨rfl, rfl⟩ | ⟨rfl, rfl⟩
    all_goals
      clear HO
      go_enter Try.func22, Try.ntmps22
      go_wp2_with fail
      (with_reducible refine F.out.mono ?_)
      rintro e w1 ⟨x, rfl, h1, h2, h3, h4, hb⟩
      have HB := hide (hb.alloc hb.size (.cells #[.int .u64 (x.t.seq : Int), .slice x.A1 x.t.bad.length x.c1, .slice x.A2 x.t.wear.length x.c2, .slice x.A3 x.t.void.length x.c3] 39))
      rw [Hs x]
      clear hb F h1 h2 h3 h4 Hs
      go_wp2
      go_ret
      exact ⟨rfl, HB.out⟩
theorem LiesT.belowM {w w' : World} {B : Nat} {A : Option Addr} {l : List UInt8} (h : LiesT w B A l) (hb : Below B w w') : LiesT w' B A l := h.kept fun b hb' _ => hb.block b hb'
/-- What Write makes of an erase and a program. -/
theorem tch_low {S : List Nat} {a b c : World} (h : Below a.heap.size a b) (h2 : Tch S b c) : Tch S a c := (Tch.of_below h).trans h2
set_option maxHeartbeats 8000000 in
theorem mwrite_any (h : DevAt w B0 B D k kb kp km) (hB : B ≤ w.heap.size) (hd : D.dn = false) (hops : D.ops < 900000) (x : Tl) (B2 : Nat) (hx : x.Ok w B2) (hf : x.Few) (hm : x.t.May) (hB2 : B2 ≤ w.heap.size) :
    Calls Try.prog 10 #[.pointer (some ⟨k, 0, none⟩), x.val] w fun e w' => e = .returned (.int .i64 (D.writeR x.t.page).1) ∧ DevAt w' B0 B (D.writeR x.t.page).2 k kb kp km ∧ Tch [k, kb, kp] w w' := by
  have hs := h.sides
  have hl := Tb.page_len hm
  have hb1 := (Below.refl w.heap.size w).alloc (Nat.le_refl _) (.cells x.cells.toArray 39)
  have hx1 := BoxT.new x w
  have F := hide (up_any (h.below (hb1.mono hB)))
  rw [if_neg (by rw [hd]; decide)] at F
  have FP := hide (tput_ok x B2 _ (hx.below (hb1.mono hB2)) hf hm (Nat.le_trans hB2 hb1.size))
  have H1 := hide (h.below (hb1.mono hB))
  have HB1 := hide hb1
  have HX1 := hide hx1
  have HBB := hide hB
  have Hd := hide hd
  have HS := hide hs
  have Hl := hide hl
  have Hops := hide hops
  have Ho := hide D.older_two
  have hg : D.g.val = .agg #[.int .i64 D.g.b, .int .i64 (D.np : Int), .int .i64 D.g.r] := by unfold Gm.val; rw [hs.2.2.2.2.2]
  have Hg := hide hg
  have e0 : x.val = .agg #[.int .u64 (x.t.seq : Int), .slice x.A1 x.t.bad.length x.c1, .slice x.A2 x.t.wear.length x.c2, .slice x.A3 x.t.void.length x.c3] := rfl
  have e1 : x.cells.toArray = #[.int .u64 (x.t.seq : Int), .slice x.A1 x.t.bad.length x.c1, .slice x.A2 x.t.wear.length x.c2, .slice x.A3 x.t.void.length x.c3] := rfl
  rw [e0] at FP ⊢
  rw [e1] at F FP H1 HB1 HX1
  generalize hpg : x.t.page = pg at *
  clear h hB hd hops hx hf hm hB2 hs hb1 hx1 hl hg hpg
  go_enter Try.func10, Try.ntmps10
  go_wp2_with fail
  (with_reducible refine F.out.mono ?_)
  rintro e w1 ⟨rfl, rfl⟩
  generalize w.alloc (.cells #[.int .u64 (x.t.seq : Int), .slice x.A1 x.t.bad.length x.c1, .slice x.A2 x.t.wear.length x.c2, .slice x.A3 x.t.void.length x.c3] 39) = w1 at *
  have c0 := HX1.out.c 0 _ rfl
  have c1 := HX1.out.c 1 _ rfl
  have c2 := HX1.out.c 2 _ rfl
  have c3 := HX1.out.c 3 _ rfl
  clear e0 e1 F
  go_wp2_with fail
  (with_reducible refine FP.out.mono ?_)
  rintro e w2 ⟨A, c, rfl, ho, hb⟩
  have HL2 := hide (LiesT.of_own ho)
  have HB2 := hide (HB1.out.trans (hb.mono HB1.out.size))
  have H2 := hide (H1.out.below (hb.mono (Nat.le_trans HBB.out HB1.out.size)))
  have Fo := hide (older_any H2.out (Nat.le_trans HBB.out HB2.out.size) Hd.out)
  clear ho hb FP HX1 H1 HB1 c0 c1 c2 c3
  go_wp2_with fail
  (with_reducible refine Fo.out.mono ?_)
  rintro e w3 ⟨rfl, hb⟩
  have HL3 := hide ((HL2.out.belowM hb).up hb.size)
  have HB3 := hide (HB2.out.trans (hb.mono HB2.out.size))
  have H3 := hide (H2.out.below (hb.mono (Nat.le_trans HBB.out HB2.out.size)))
  have HW : Hid (D.writeR pg = if D.nx D.older = D.np then (if (D.eraR D.older).1 = 0 then (D.eraR D.older).2.progR D.older ((D.eraR D.older).2.nx D.older) pg else D.eraR D.older) else D.progR D.older (D.nx D.older) pg) := hide rfl
  generalize D.older = O at *
  have HO := hide (show O < D.nb by have := HS.out.1; rcases Ho.out with e | e <;> omega)
  have Fn := hide (next_some H3.out O HO.out)
  clear hb Fo HL2 H2 HB2
  go_wp2_with fail
  (with_reducible refine Fn.out.mono ?_)
  rintro e w4 ⟨rfl, rfl⟩
  have Fs := hide (sides_any H3.out)
  rw [Hg.out] at Fs
  have hfd := fun W => field_pages D.g.b (D.np : Int) D.g.r W
  go_wp2_with fail
  (with_reducible refine Fs.out.mono ?_)
  rintro e w4 ⟨rfl, hb⟩
  have HL4 := hide ((HL3.out.belowM hb).up hb.size)
  have HB4 := hide (HB3.out.trans (hb.mono HB3.out.size))
  have H4 := hide (H3.out.below (hb.mono (Nat.le_trans HBB.out HB3.out.size)))
  clear hb Fs HL3 H3 HB3 Fn
  by_cases hf : D.nx O = D.np
  · have hb0 : ((D.nx O : Int) == (D.np : Int)) = true := by rw [hf]; simp
    rw [if_pos hf] at HW
    have Hf := hide hf
    clear hf
    have Fe := hide (dera_any H4.out (Nat.le_trans HBB.out HB4.out.size) (by have := Hops.out; omega) (O : Int))
    go_wp2_with fail
    (with_reducible refine Fe.out.mono ?_)
    rintro e w5 ⟨rfl, hd5, ht5⟩
    have H5 := hide hd5
    have HT5 := hide (tch_low HB4.out ht5)
    have HL5 := hide ((H4.out.lies_tch (Nat.le_refl _) HL4.out ht5).up ht5.size)
    have Hg5 := hide (D.eraR_g (O : Int))
    have Hops5 := hide (D.eraR_ops (O : Int))
    clear hd5 ht5 Fe hfd
    generalize D.eraR (O : Int) = R at *
    rcases R with ⟨q, E⟩
    dsimp only at HW H5 Hg5 Hops5 ⊢
    by_cases h0 : q = 0
    · subst h0
      rw [if_pos rfl] at HW
      have hnb : E.nb = D.nb := by unfold Dv.nb; rw [Hg5.out]
      have Fn := hide (next_some H5.out O (by rw [hnb]; exact HO.out))
      have FQ := hide (fun y : Nat => dprog_any H5.out (Nat.le_trans HBB.out HT5.out.size) (by have := Hops.out; have := Hops5.out; omega) (O : Int) (y : Int) A c pg HL5.out Hl.out)
      clear hnb
      go_wp2_with fail
      (with_reducible refine Fn.out.mono ?_)
      rintro e w6 ⟨rfl, rfl⟩
      go_wp2_with fail
      (with_reducible refine (FQ.out _).mono ?_)
      rintro e w6 ⟨rfl, hd6, ht6⟩
      have H6 := hide hd6
      have HT6 := hide (HT5.out.trans ht6)
      clear hd6 ht6
      go_wp2
      go_ret
      rw [HW.out]
      exact ⟨rfl, H6.out, HT6.out⟩
    · rw [if_neg h0] at HW
      have hb1 : (q != 0) = true := bne_iff_ne.2 h0
      clear h0
      go_wp2
      go_ret
      rw [HW.out]
      exact ⟨rfl, H5.out, HT5.out⟩
  · have hb0 : ((D.nx O : Int) == (D.np : Int)) = false := beq_eq_false_iff_ne.2 (fun h => hf (by omega))
    rw [if_neg hf] at HW
    have Hf := hide hf
    clear hf
    have Fn := hide (next_some H4.out O HO.out)
    have FQ := hide (fun y : Nat => dprog_any H4.out (Nat.le_trans HBB.out HB4.out.size) (by have := Hops.out; omega) (O : Int) (y : Int) A c pg HL4.out Hl.out)
    go_wp2_with fail
    (with_reducible refine Fn.out.mono ?_)
    rintro e w6 ⟨rfl, rfl⟩
    go_wp2_with fail
    (with_reducible refine (FQ.out _).mono ?_)
    rintro e w6 ⟨rfl, hd6, ht6⟩
    have H6 := hide hd6
    have HT6 := hide (tch_low HB4.out ht6)
    clear hd6 ht6
    go_wp2
    go_ret
    rw [HW.out]
    exact ⟨rfl, H6.out, HT6.out⟩
end
end Go.Proofs.Ytigpplckddnghaa
