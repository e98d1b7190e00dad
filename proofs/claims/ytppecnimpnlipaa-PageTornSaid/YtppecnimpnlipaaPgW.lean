/-
  The walk of PageTorn, the loop. (By gen/PgW.gen.py.)
-/
import Derived.Test.YtppecnimpnlipaaPgV
namespace Go.Proofs.Ytppecnimpnlipaa
open Go.RowKit

theorem meas7 {K Z2 : Nat} (h : K < Z2) : Z2 - (intOf (.int .i64 ((K + 1 : Nat) : Int))).toNat < Z2 - (intOf (.int .i64 (K : Int))).toNat := by
  show Z2 - ((K + 1 : Nat) : Int).toNat < Z2 - (K : Int).toNat
  omega
theorem idx_nums {j n : Nat} (h : j < n) (hn : n ≤ 6) : (j : Int) < (n : Int) ∧ wrap64 ((j : Int) + 1) = ((j + 1 : Nat) : Int) := by
  refine ⟨by omega, ?_⟩
  unfold wrap64
  omega
theorem str_beq (a b : List UInt8) : ((str a).toList == (str b).toList) = decide (a = b) := by
  rw [str_toList, str_toList]
  by_cases he : a = b
  · rw [decide_eq_true he, he]; exact beq_self_eq_true _
  · rw [decide_eq_false he]; exact beq_eq_false_iff_ne.2 he
/-- The step of the loop: the new bytes, whatever they are, keep what is kept. -/
theorem TornS.next {w W W' : World} {s l l2 : List UInt8} {gs cs j c c2 : Nat} {A A2 : Option Addr} (h : TornS w s gs cs j A c l W) (hb : Below W.heap.size W W') (ho : Lies W' W'.heap.size A2 (bys l2)) (hl : l2.length = 256) (hc : 256 ≤ c2) (hv : covB l2 s = true) : TornS w s gs cs (j + 1) A2 c2 l2 W' :=
  ⟨ho, hl, hc, fun h => absurd h (Nat.succ_ne_zero _), fun _ => hv, (h.slies.below hb).up hb.size, h.slen, h.scap, h.below.trans (hb.mono h.below.size)⟩

set_option maxRecDepth 4000 in
set_option maxHeartbeats 8000000 in
theorem torn_on (h : Hd) (d : List UInt8) (Am : Option Addr) (nm cm : Nat) (ms : List Sl) (w : World) (hm : h.May) (hd : (d.length : Int) = h.len) (h6 : nm ≤ 6) (hM : Lies w w.heap.size Am (ms.flatMap Sl.cells)) (hn : nm = ms.length) (hok : ∀ x ∈ ms, x.Ok w w.heap.size) :
    Calls Try.prog 6 #[h.val, .string (str d), .slice Am nm cm] w fun e w' => e = .returned (.bool true) ∧ Below w.heap.size w w' := by
  have Fm := fun W => may15_any h W
  have hx1 : BoxH h w.heap.size (w.alloc (.cells h.cells.toArray 57)) := BoxH.new h w
  have hb1 := (Below.refl w.heap.size w).alloc (Nat.le_refl _) (.cells h.cells.toArray 57)
  have hsz := str_size d
  rw [decide_eq_true hm] at Fm
  have Fm := hide Fm
  have Fp := hide (fun W => put15_any h d W hm hd)
  have h12 := hm.2.2.2.2.2.2.2.2.2.2.2
  have hlen : (pageB h d).length = 256 := pageB_len h d (by omega)
  obtain ⟨s, hs⟩ : ∃ s, Hid (s = pageB h d) := ⟨_, hide rfl⟩
  rw [← hs.out] at Fp hlen
  have Htold := hide (fun (l : List UInt8) (hc : covB l s = true) (hr : classN l = 1) => (page_told h d l hm (by omega) (by rw [← hs.out]; exact hc) ((class_one l).1 hr)).trans hs.out.symm)
  have Hclass := hide (show classN s = 1 by rw [hs.out]; exact class_page h d hm (by omega))
  have Hlen := hide hlen
  have i6 : ¬ (6 : Int) < (nm : Int) := by omega
  have HM := hide hM
  have Hn := hide hn
  have Hok := hide hok
  have H6 := hide h6
  rcases h with ⟨kd, ix, ct, bt, op, lp, ln⟩
  simp only at hd
  subst hd
  have hne : ((d.length : Int) != (d.length : Int)) = false := by simp
  generalize d.length = n at *
  have HX := hide hx1
  have HB := hide hb1
  clear hx1 hb1 hm h12 hlen hM hn hok h6 hs
  unfold Hd.val at *
  unfold Hd.cells at *
  dsimp only at *
  go_enter Try.func6, Try.ntmps6
  go_wp2_with fail
  (with_reducible refine (Fm.out _).mono ?_)
  rintro e w2 ⟨rfl, hb⟩
  have HB2 := hide (HB.out.trans (hb.mono HB.out.size))
  have HX2 := hide (HX.out.below hb HX.out.lt)
  have c6 := HX2.out.c 6 _ rfl
  have R := HX2.out.range
  unfold Hd.cells at R
  dsimp only at c6 R
  clear hb HB HX Fm
  go_wp2_with (with_reducible refine wpl_load_mid rfl 57 (.tmp 3) rfl w.heap.size 0 _ R rfl _ Try.underlying57 rfl 7 infoHd (by with_unfolding_all rfl) ?_)
  (with_reducible refine (Fp.out _).mono ?_)
  rintro e w3 ⟨rfl, hb⟩
  have HB3 := hide (HB2.out.trans (hb.mono HB2.out.size))
  obtain ⟨cs, w4, hcv, hcap, hb4, hl4⟩ := strBytesP w3 s
  rw [Hlen.out] at hcv hcap
  have HB4 := hide (HB3.out.trans (hb4.mono HB3.out.size))
  have HL4 := hide hl4
  have HC4 := hide hcap
  have FO : Hid (∀ W, Calls Try.prog 32 #[.int .i64 256] W fun e w' => ∃ A' c', e = .returned (.slice A' 256 c') ∧ w'.ownsRow W.heap.size 5 1 (.slice A' 256 c') 256 (bys (List.replicate 256 255)) ∧ Below W.heap.size W w') := hide (fun W => ones2_any 256 W (by omega))
  clear hb hb4 hl4 hcap HB2 HX2 R c6 Fp HB3 hne
  go_wp2_with fail
  (with_reducible refine (FO.out _).mono ?_)
  rintro e w5 ⟨A5, c5, rfl, ho, hb⟩
  have hc5 : 256 ≤ c5 := by obtain ⟨_, _, h1, h2, _⟩ := own_form ho; injection h1 with _ _ h3; omega
  have HS0 := hide (show TornS w s w3.heap.size cs 0 A5 c5 (List.replicate 256 255) w5 from
    ⟨Lies.of_own ho, by rw [List.length_replicate], hc5, fun _ => rfl, fun h => absurd h (Nat.lt_irrefl _), (HL4.out.below hb).up hb.size, Hlen.out, HC4.out, HB4.out.trans (hb.mono HB4.out.size)⟩)
  clear ho hb hc5 hcv HB4 HL4 HC4 FO
  generalize w3.heap.size = gs at *
  go_wp2_with fail
  go_loopw [8, 9] (fun bb ii wr => ∃ j : Nat, j ≤ nm ∧ ii = .int .i64 (j : Int) ∧ ∃ A c l, bb = .slice A 256 c ∧ TornS w s gs cs j A c l wr) (fun _ ii _ => nm - (intOf ii).toNat)
  case atStart => exact ⟨0, Nat.zero_le _, rfl, _, _, _, rfl, HS0.out⟩
  case round =>
    clear HS0
    obtain ⟨j, hj, rfl, A, c, l, rfl, hS⟩ := hrel
    have HS := hide hS
    by_cases hlt : j < nm
    · obtain ⟨hlt', e1⟩ := idx_nums hlt H6.out
      have hjl : j < ms.length := by rw [← Hn.out]; exact hlt
      obtain ⟨ad, rfl, hab, hca⟩ := (HM.out.below hS.below).elem Sl.cells_len hjl (by decide)
      have Hac := hide ((Hok.out _ (List.getElem_mem hjl)).below hS.below)
      generalize ms[j] = x at *
      rcases x with ⟨xA, xn, xc, xl⟩
      have cj : wr.cell? (ad.add j) = some (.slice xA xn xc) := by
        have := hca 0 _ rfl
        rw [Nat.mul_one] at this
        have e0 : (ad.add j).add 0 = ad.add j := by unfold Addr.add; split <;> simp_all
        rwa [e0] at this
      have Hj := hide hlt
      clear hca hjl hS hlt hj
      by_cases h300 : (300 : Int) < (xn : Int)
      · go_wp2_with fail
        (with_reducible refine (awake15_any _).mono ?_)
        rintro e w6 ⟨rfl, hb⟩
        have HBx := hide (HS.out.below.trans (hb.mono HS.out.below.size))
        clear hb
        go_wp2
        go_ret
        exact ⟨rfl, HBx.out⟩
      · have hx300 : xn ≤ 300 := by omega
        have HBw := hide HS.out.below.size
        have HX300 := hide hx300
        clear hx300
        by_cases hj0 : j = 0
        · subst hj0
          have v0 : (((0 : Nat) : Int) == 0) = true := rfl
          have ez : ad.add 0 = ad := by unfold Addr.add; simp
          rw [ez] at cj
          have hl0 := HS.out.start rfl
          have Fpa := hide (part_any A (some ⟨gs, 0, none⟩) xA 256 c cs xn xc wr.heap.size l s xl wr HS.out.lies HS.out.len.symm HS.out.slies HS.out.slen.symm (Hac.out.lies.up HBw.out) Hac.out.len (Nat.le_refl _) (by decide) (Nat.le_trans HX300.out (by decide)))
          have Hcov := hide (prog_covers l s xl (HS.out.len.trans HS.out.slen.symm) (fun i hi => by
            rw [hl0, List.getD_eq_getElem?_getD, List.getElem?_replicate, if_pos (by rw [HS.out.slen] at hi; exact hi)]
            rfl))
          have Hl2 := hide (show (progL l s xl).length = 256 by rw [progL_len]; exact HS.out.len)
          clear hl0
          generalize progL l s xl = l2 at *
          go_wp2_with fail
          (with_reducible refine Fpa.out.mono ?_)
          clear cj v0 Fpa
          rintro e w6 ⟨A2, c2, rfl, ho, hb⟩
          have hc2 : 256 ≤ c2 := by obtain ⟨_, _, h1, h2, _⟩ := own_form ho; injection h1 with _ _ h3; omega
          have HS2 := hide (HS.out.next hb (Lies.of_own ho) Hl2.out hc2 Hcov.out)
          have Fc := hide (covers2_any A2 (some ⟨gs, 0, none⟩) 256 c2 256 cs w6.heap.size l2 s w6 HS2.out.lies HS2.out.len.symm (by decide) HS2.out.slies HS2.out.slen.symm (by decide))
          rw [Hcov.out] at Fc
          have Fk := hide (fun W (hW : TornS w s gs cs (0 + 1) A2 c2 l2 W) => pclass_any A2 256 c2 W.heap.size l2 W hW.lies hW.len.symm hW.cap (Nat.le_refl _))
          clear ho hb hc2 HS Hac HBw
          go_wp2_with fail
          (with_reducible refine Fc.out.mono ?_)
          rintro e w7 ⟨rfl, rfl⟩
          clear Fc
          by_cases hs : l2 = s
          · have hk : classN l2 = 1 := by rw [hs]; exact Hclass.out
            rw [hk] at Fk
            go_wp2_with fail
            (with_reducible refine (Fk.out _ HS2.out).mono ?_)
            rintro e w8 ⟨rfl, hb⟩
            have HS3 := hide (HS2.out.later hb)
            have s1 := strU8 c2 HS3.out.lies HS3.out.len.symm
            have s2 := strU8 cs HS3.out.slies HS3.out.slen.symm
            have s3 := str_beq l2 s
            rw [decide_eq_true hs] at s3
            clear hb hs hk HS2
            have v1 : (((1 : Nat) : Int) == 1) = true := rfl
            go_wp2_with fail
            (with_reducible refine (Fk.out _ HS3.out).mono ?_)
            rintro e w9 ⟨rfl, hb⟩
            have HS4 := hide (HS3.out.later hb)
            clear hb HS3 s1 s2 s3
            go_wp2_with fail
            go_roundw
            case rel => exact ⟨0 + 1, Hj.out, rfl, _, _, _, rfl, HS4.out⟩
            case measure => exact meas7 Hj.out
          · have hk : classN l2 ≠ 1 := fun hk => hs (Htold.out l2 Hcov.out hk)
            obtain ⟨kk, hkk⟩ : ∃ kk, kk = classN l2 := ⟨_, rfl⟩
            rw [← hkk] at Fk hk
            have v1 : ((kk : Int) == 1) = false := by rw [beq_eq_false_iff_ne]; omega
            go_wp2_with fail
            (with_reducible refine (Fk.out _ HS2.out).mono ?_)
            rintro e w8 ⟨rfl, hb⟩
            have HS3 := hide (HS2.out.later hb)
            have s1 := strU8 c2 HS3.out.lies HS3.out.len.symm
            have s2 := strU8 cs HS3.out.slies HS3.out.slen.symm
            have s3 := str_beq l2 s
            rw [decide_eq_false hs] at s3
            clear hb hs hk hkk HS2
            go_wp2_with fail
            go_roundw
            case rel => exact ⟨0 + 1, Hj.out, rfl, _, _, _, rfl, HS3.out⟩
            case measure => exact meas7 Hj.out
        · have v0 : ((j : Int) == 0) = false := by rw [beq_eq_false_iff_ne]; omega
          have Fpa := hide (wipe_any A xA 256 c xn xc wr.heap.size l xl wr HS.out.lies HS.out.len.symm (Hac.out.lies.up HBw.out) Hac.out.len (Nat.le_refl _) (by decide) (Nat.le_trans HX300.out (by decide)))
          have Hcov := hide (cov_transP (eras_covers l xl) (HS.out.cov (Nat.pos_of_ne_zero hj0)))
          have Hl2 := hide (show (erasL l xl).length = 256 by rw [erasL_len]; exact HS.out.len)
          generalize erasL l xl = l2 at *
          go_wp2_with fail
          (with_reducible refine Fpa.out.mono ?_)
          clear cj v0 Fpa hj0
          rintro e w6 ⟨A2, c2, rfl, ho, hb⟩
          have hc2 : 256 ≤ c2 := by obtain ⟨_, _, h1, h2, _⟩ := own_form ho; injection h1 with _ _ h3; omega
          have HS2 := hide (HS.out.next hb (Lies.of_own ho) Hl2.out hc2 Hcov.out)
          have Fc := hide (covers2_any A2 (some ⟨gs, 0, none⟩) 256 c2 256 cs w6.heap.size l2 s w6 HS2.out.lies HS2.out.len.symm (by decide) HS2.out.slies HS2.out.slen.symm (by decide))
          rw [Hcov.out] at Fc
          have Fk := hide (fun W (hW : TornS w s gs cs (j + 1) A2 c2 l2 W) => pclass_any A2 256 c2 W.heap.size l2 W hW.lies hW.len.symm hW.cap (Nat.le_refl _))
          clear ho hb hc2 HS Hac HBw
          go_wp2_with fail
          (with_reducible refine Fc.out.mono ?_)
          rintro e w7 ⟨rfl, rfl⟩
          clear Fc
          by_cases hs : l2 = s
          · have hk : classN l2 = 1 := by rw [hs]; exact Hclass.out
            rw [hk] at Fk
            go_wp2_with fail
            (with_reducible refine (Fk.out _ HS2.out).mono ?_)
            rintro e w8 ⟨rfl, hb⟩
            have HS3 := hide (HS2.out.later hb)
            have s1 := strU8 c2 HS3.out.lies HS3.out.len.symm
            have s2 := strU8 cs HS3.out.slies HS3.out.slen.symm
            have s3 := str_beq l2 s
            rw [decide_eq_true hs] at s3
            clear hb hs hk HS2
            have v1 : (((1 : Nat) : Int) == 1) = true := rfl
            go_wp2_with fail
            (with_reducible refine (Fk.out _ HS3.out).mono ?_)
            rintro e w9 ⟨rfl, hb⟩
            have HS4 := hide (HS3.out.later hb)
            clear hb HS3 s1 s2 s3
            go_wp2_with fail
            go_roundw
            case rel => exact ⟨j + 1, Hj.out, rfl, _, _, _, rfl, HS4.out⟩
            case measure => exact meas7 Hj.out
          · have hk : classN l2 ≠ 1 := fun hk => hs (Htold.out l2 Hcov.out hk)
            obtain ⟨kk, hkk⟩ : ∃ kk, kk = classN l2 := ⟨_, rfl⟩
            rw [← hkk] at Fk hk
            have v1 : ((kk : Int) == 1) = false := by rw [beq_eq_false_iff_ne]; omega
            go_wp2_with fail
            (with_reducible refine (Fk.out _ HS2.out).mono ?_)
            rintro e w8 ⟨rfl, hb⟩
            have HS3 := hide (HS2.out.later hb)
            have s1 := strU8 c2 HS3.out.lies HS3.out.len.symm
            have s2 := strU8 cs HS3.out.slies HS3.out.slen.symm
            have s3 := str_beq l2 s
            rw [decide_eq_false hs] at s3
            clear hb hs hk hkk HS2
            go_wp2_with fail
            go_roundw
            case rel => exact ⟨j + 1, Hj.out, rfl, _, _, _, rfl, HS3.out⟩
            case measure => exact meas7 Hj.out
    · obtain rfl : j = nm := by omega
      have hnl : ¬ ((j : Int) < (j : Int)) := Int.lt_irrefl _
      clear hj hlt
      go_wp2_with fail
      (with_reducible refine (awake15_any _).mono ?_)
      rintro e w6 ⟨rfl, hb⟩
      have HBx := hide (HS.out.below.trans (hb.mono HS.out.below.size))
      clear hb
      go_wp2
      go_ret
      exact ⟨rfl, HBx.out⟩
end Go.Proofs.Ytppecnimpnlipaa
