/-
  LAYER 19, THE REFERENCE: Highest, None.
-/
import Derived.Test.YtjdaoenapmjoeaaLtM
import Derived.Test.YtjdaoenapmjoeaaLtA
namespace Go.Proofs.Ytjdaoenapmjoeaa
open Go.RowKit
set_option maxRecDepth 8000

/-- A part of a find in a row. -/
theorem fo_at {X : Addr} {W : World} {v : Value} {j : Nat} (h : W.cell? (X.add (j + 1)) = some v) : W.cell? ⟨X.block, X.off + (j + 1), none⟩ = some v := by
  have e : X.add (j + 1) = ⟨X.block, X.off + (j + 1), none⟩ := by simp [Addr.add]
  rw [← e]; exact h
theorem any_next {p : Fo → Bool} {l : List Fo} {n : Nat} (h : n < l.length) : (l.take (n + 1)).any p = ((l.take n).any p || p l[n]) := by
  rw [← List.take_append_getElem h, List.any_append]; simp
set_option maxHeartbeats 4000000 in
theorem rhigh_any (A : Option Addr) (n c B : Nat) (l : List Fo) (w : World) (hl : Lies w B A (rowO l)) (hB : B ≤ w.heap.size) (hn : n = l.length) (hbig : n ≤ 2000) :
    Calls Try.prog 6 #[.slice A n c] w fun e w' => e = .returned (.tuple #[.int .u64 (hiO l), .bool (brokenO l)]) ∧ Below w.heap.size w w' := by
  have HL := hide hl
  have HB := hide hB
  have Hn := hide hn
  have Hbig := hide hbig
  have S0 : Hid (hiO (l.take 0) = 0) := hide rfl
  have HR : Hid (brokenO l = (decide ((0 : Int) < (n : Int)) && !(l.any (endO (hiO l))))) := hide (by unfold brokenO; rw [hn]; congr 1; rw [decide_eq_decide]; omega)
  obtain ⟨hh, hhe⟩ : ∃ hh, hiO l = hh := ⟨_, rfl⟩
  rw [hhe] at HR ⊢
  have Hhh := hide hhe
  clear hhe
  generalize brokenO l = R at *
  clear hl hn hbig hB
  go_enter Try.func6, Try.ntmps6
  go_wp2
  go_loopw [4, 5] (fun h i wr => ∃ k : Nat, k ≤ n ∧ h = .int .u64 (hiO (l.take k)) ∧ i = .int .i64 (k : Int) ∧ Hid (Below w.heap.size w wr)) (fun _ i _ => n - (intOf i).toNat)
  case atStart => exact ⟨0, Nat.zero_le _, rfl, rfl, hide (Below.refl _ _)⟩
  case round =>
    clear S0
    obtain ⟨k, hk, rfl, rfl, HW⟩ := hrel
    by_cases hlt : k < n
    · have hlt' : (k : Int) < (n : Int) := by omega
      have e7 : wrap64 ((k : Int) + 1) = ((k + 1 : Nat) : Int) := by have := Hbig.out; unfold wrap64; omega
      have hnl : k < l.length := by rw [← Hn.out]; exact hlt
      obtain ⟨ad, rfl, hab, hca⟩ := (HL.out.below (HW.out.mono HB.out)).elem Fo.cells_len hnl (by decide)
      have Hnx := hide (hiO_next hnl)
      have x5 : wr.cell? ⟨(ad.add (k * 9)).block, (ad.add (k * 9)).off + 2 + 3, none⟩ = _ := fo_at (hca 5 _ rfl)
      generalize hiO (l.take k) = h0 at *
      generalize l[k] = f at *
      clear hnl hca hab
      rcases f with ⟨fx, fy, kd, ix, ct, bt, op, lp, ln⟩
      dsimp only at *
      by_cases hgt : h0 < bt
      · have Hmx := hide (show hiO (l.take (k + 1)) = bt by rw [Hnx.out]; omega)
        clear Hnx
        go_wp2
        go_roundw
        case rel => exact ⟨k + 1, hlt, congrArg (Value.int .u64) Hmx.out.symm, congrArg (Value.int .i64) e7, HW⟩
        case measure => first | exact measT hlt | exact measT2 e7 hlt
      · have Hmx := hide (show hiO (l.take (k + 1)) = h0 by rw [Hnx.out]; omega)
        clear Hnx
        go_wp2
        go_roundw
        case rel => exact ⟨k + 1, hlt, congrArg (Value.int .u64) Hmx.out.symm, congrArg (Value.int .i64) e7, HW⟩
        case measure => first | exact measT hlt | exact measT2 e7 hlt
    · obtain rfl : k = n := by omega
      have e : l.take k = l := List.take_of_length_le (by rw [← Hn.out]; exact Nat.le_refl _)
      rw [e, Hhh.out]
      have S1 : Hid (((l.take 0).any (endO hh)) = false) := hide rfl
      clear e hlt hk
      go_wp2
      go_loopw [6, 7] (fun b i W => ∃ j : Nat, j ≤ k ∧ b = .bool ((l.take j).any (endO hh)) ∧ i = .int .i64 (j : Int) ∧ Hid (Below w.heap.size w W)) (fun _ i _ => k - (intOf i).toNat)
      case atStart => exact ⟨0, Nat.zero_le _, rfl, rfl, HW⟩
      case round =>
        clear S1 HW
        obtain ⟨j, hj, rfl, rfl, HW⟩ := hrel
        by_cases hlt : j < k
        · have hlt' : (j : Int) < (k : Int) := by omega
          have e7 : wrap64 ((j : Int) + 1) = ((j + 1 : Nat) : Int) := by have := Hbig.out; unfold wrap64; omega
          have hnl : j < l.length := by rw [← Hn.out]; exact hlt
          obtain ⟨ad, rfl, hab, hca⟩ := (HL.out.below (HW.out.mono HB.out)).elem Fo.cells_len hnl (by decide)
          have Hnx := hide (any_next (p := endO hh) hnl)
          have x5 : wr.drew.cell? ⟨(ad.add (j * 9)).block, (ad.add (j * 9)).off + 2 + 3, none⟩ = _ := fo_at (hca 5 _ rfl)
          have y5 : wr.cell? ⟨(ad.add (j * 9)).block, (ad.add (j * 9)).off + 2 + 3, none⟩ = _ := fo_at (hca 5 _ rfl)
          have y4 : wr.cell? ⟨(ad.add (j * 9)).block, (ad.add (j * 9)).off + 2 + 2, none⟩ = _ := fo_at (hca 4 _ rfl)
          have y3 : wr.cell? ⟨(ad.add (j * 9)).block, (ad.add (j * 9)).off + 2 + 1, none⟩ = _ := fo_at (hca 3 _ rfl)
          have x4 : wr.drew.cell? ⟨(ad.add (j * 9)).block, (ad.add (j * 9)).off + 2 + 2, none⟩ = _ := fo_at (hca 4 _ rfl)
          have x3 : wr.drew.cell? ⟨(ad.add (j * 9)).block, (ad.add (j * 9)).off + 2 + 1, none⟩ = _ := fo_at (hca 3 _ rfl)
          generalize (l.take j).any (endO hh) = b0 at *
          generalize l[j] = f at *
          clear hnl hca hab
          rcases f with ⟨fx, fy, kd, ix, ct, bt, op, lp, ln⟩
          dsimp only at *
          have HWd := hide HW.out
          have Hlt := hide hlt
          have E7 := hide e7
          obtain ⟨cw, hcw⟩ : ∃ cw, wrap64 (ct - 1) = cw := ⟨_, rfl⟩
          have Hen : Hid (endO hh ⟨fx, fy, kd, ix, ct, bt, op, lp, ln⟩ = (decide (bt = hh) && decide (ix = cw))) := hide (by rw [← hcw]; rfl)
          by_cases h1 : bt = hh
          · subst h1
            have g1 : (bt == bt) = true := beq_self_eq_true bt
            by_cases h2 : ix = cw
            · have Hmx := hide (show (l.take (j + 1)).any (endO bt) = true by rw [Hnx.out, Hen.out]; simp [h2])
              have g2 : (ix == cw) = true := beq_iff_eq.2 h2
              clear Hnx Hen h2
              go_upto_region 11 with fail
              go_quiet (fail)
              go_wp2
              go_roundw
              case rel => exact ⟨j + 1, Hlt.out, congrArg Value.bool Hmx.out.symm, congrArg (Value.int .i64) E7.out, hide (HWd.out.trans ⟨rfl, rfl, rfl, Nat.le_refl _, fun _ _ => rfl⟩)⟩
              case measure => first | exact measT Hlt.out | exact measT2 E7.out Hlt.out
            · have Hmx := hide (show (l.take (j + 1)).any (endO bt) = b0 by rw [Hnx.out, Hen.out]; simp [h2])
              have g2 : (ix == cw) = false := beq_eq_false_iff_ne.2 h2
              clear Hnx Hen h2
              go_upto_region 11 with fail
              go_quiet (fail)
              go_wp2
              go_roundw
              case rel => exact ⟨j + 1, Hlt.out, congrArg Value.bool Hmx.out.symm, congrArg (Value.int .i64) E7.out, hide (HWd.out.trans ⟨rfl, rfl, rfl, Nat.le_refl _, fun _ _ => rfl⟩)⟩
              case measure => first | exact measT Hlt.out | exact measT2 E7.out Hlt.out
          · have Hmx := hide (show (l.take (j + 1)).any (endO hh) = b0 by rw [Hnx.out, Hen.out]; simp [h1])
            have g1 : (bt == hh) = false := beq_eq_false_iff_ne.2 h1
            clear Hnx Hen h1
            go_upto_region 11 with fail
            go_quiet (fail)
            go_wp2
            go_roundw
            case rel => exact ⟨j + 1, Hlt.out, congrArg Value.bool Hmx.out.symm, congrArg (Value.int .i64) E7.out, hide (HWd.out.trans ⟨rfl, rfl, rfl, Nat.le_refl _, fun _ _ => rfl⟩)⟩
            case measure => first | exact measT Hlt.out | exact measT2 E7.out Hlt.out
        · obtain rfl : j = k := by omega
          have e : l.take j = l := List.take_of_length_le (by rw [← Hn.out]; exact Nat.le_refl _)
          rw [e]
          have hr := HR.out
          have HW2 := hide HW.out
          clear HW HR HL HB Hn e
          generalize l.any (endO hh) = b1 at *
          cases b1 <;> by_cases h0 : (0 : Int) < (j : Int)
          all_goals
            first | rw [decide_eq_true h0] at hr | rw [decide_eq_false h0] at hr
            have Hr := hide hr
            clear hr
            go_wp2
            refine bodyPost_ret (results_tmp2 rfl _ _ _) rfl ?_
            refine ⟨?_, HW2.out⟩
            rw [Hr.out]
            first | rfl | simp
/-- Does a batch count for nothing? -/
def noneO (l : List Fo) (vs : List Int) (z : Int) : Bool := decide (z ∈ vs) || (brokenO l && decide (z = hiO l))
set_option maxHeartbeats 4000000 in
theorem rnone_any (A A2 : Option Addr) (n c n2 c2 B : Nat) (l : List Fo) (vs : List Int) (z : Int) (w : World) (hl : Lies w B A (rowO l)) (hv : Lies w B A2 (nums .u64 vs)) (hB : B ≤ w.heap.size) (hn : n = l.length) (hn2 : n2 = vs.length) (hbig : n ≤ 2000) (hbig2 : n2 ≤ 2000) :
    Calls Try.prog 15 #[.slice A n c, .slice A2 n2 c2, .int .u64 z] w fun e w' => e = .returned (.bool (noneO l vs z)) ∧ Below w.heap.size w w' := by
  have F1 := hide (rhigh_any A n c B l w hl hB hn hbig)
  have HV := hide (fun W (h : Below w.heap.size w W) => is16_any A2 n2 c2 B vs z W (hv.below (h.mono hB)) hn2 (by omega))
  obtain ⟨R, hR⟩ : ∃ R, noneO l vs z = R := ⟨_, rfl⟩
  rw [hR]
  have HR : Hid ((decide (z ∈ vs) || (brokenO l && (z == hiO l))) = R) := hide (by rw [← hR]; unfold noneO; congr 2)
  clear hl hv hB hn hn2 hbig hbig2 hR
  generalize brokenO l = br at *
  generalize hiO l = hh at *
  generalize decide (z ∈ vs) = iv at *
  go_enter Try.func15, Try.ntmps15
  go_wp2_with fail
  (with_reducible refine F1.out.mono ?_)
  rintro e w1 ⟨rfl, hb⟩
  have HB1 := hide hb
  have F2 := hide (HV.out w1 hb)
  clear F1 HV hb
  cases iv with
  | true =>
    have hr : true = R := by rw [← HR.out]; rfl
    subst hr
    clear HR
    go_wp2_with fail
    (with_reducible refine F2.out.mono ?_)
    rintro e w2 ⟨rfl, rfl⟩
    go_wp2
    go_ret
    exact ⟨rfl, HB1.out⟩
  | false =>
    cases br with
    | false =>
      have hr : false = R := by rw [← HR.out]; rfl
      subst hr
      clear HR
      go_wp2_with fail
      (with_reducible refine F2.out.mono ?_)
      rintro e w2 ⟨rfl, rfl⟩
      go_wp2
      go_ret
      exact ⟨rfl, HB1.out⟩
    | true =>
      have hr : (z == hh) = R := by rw [← HR.out]; rfl
      have Hr := hide hr
      clear HR hr
      go_wp2_with fail
      (with_reducible refine F2.out.mono ?_)
      rintro e w2 ⟨rfl, rfl⟩
      go_wp2
      go_ret
      exact ⟨ret_bool (by rw [← Hr.out]), HB1.out⟩
end Go.Proofs.Ytjdaoenapmjoeaa
