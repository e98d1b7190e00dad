/-
  The walk of BeLays.
-/
import Derived.Test.YtfjlidngialpaaaAwakea
import Derived.Deep.QuietTactic
import Derived.BigQuiet
import Derived.Deep.RegionWith
import Derived.Deep.DeepCutAuto
namespace Go.Proofs.Ytfjlidngialpaaa
open Go.RowKit

set_option maxHeartbeats 1000000 in
theorem beLays_long (A : Option Addr) (n c : Nat) (wd x at_ : Int) (w : World) (hbig : 200 < n) :
    Calls Try.prog 3 #[.agg #[.slice A n c, .int .i64 wd, .int .u64 x, .int .i64 at_]] w fun e w' => e = .returned (.bool true) ∧ Below w.heap.size w w' := by
  have h200 : (200 : Int) < (n : Int) := by omega
  go_enter Try.func3, Try.ntmps3
  go_wp2_with fail
  go_quiet (fail)
  go_wp2_with fail
  refine (awake1_any _).mono ?_
  rintro e w1 ⟨rfl, hb⟩
  go_wp2
  go_ret
  exact ⟨rfl, (bel_drewN ((Below.refl _ w).alloc (Nat.le_refl _) _) _).trans (hb.mono (by simp))⟩

set_option maxHeartbeats 1000000 in
theorem beLays_any (A : Option Addr) (n c B : Nat) (l : List UInt8) (wd x at_ : Int) (w : World) (h : Lies w B A (bys l)) (hn : n = l.length) (hbig : n ≤ 200) (hB : B ≤ w.heap.size)
    (hx0 : 0 ≤ x) (hx1 : x < 18446744073709551616) (hw0 : -9223372036854775808 ≤ wd) (hw1 : wd ≤ 9223372036854775807) (ha0 : -9223372036854775808 ≤ at_) (ha1 : at_ ≤ 9223372036854775807) :
    Calls Try.prog 3 #[.agg #[.slice A n c, .int .i64 wd, .int .u64 x, .int .i64 at_]] w fun e w' => e = .returned (.bool true) ∧ Below w.heap.size w w' := by
  have h200 : ¬ (200 : Int) < (n : Int) := by omega
  have Hn := hide hn
  have Hl := hide h
  have Hx1 := hide hx1
  clear hn h hx1
  go_enter Try.func3, Try.ntmps3
  go_wp2_with fail
  go_quiet (fail)
  have Hb0 := hide (bel_drewN ((Below.refl w.heap.size w).alloc (Nat.le_refl _) (.cells #[.slice A n c, .int .i64 wd, .int .u64 x, .int .i64 at_] 25)) nq)
  go_wp2_with fail
  refine (put_any A n c B l wd x _ ((Hl.out.alloc hB _).drewN _) Hn.out (by omega) hx0).mono ?_
  obtain ⟨k, hk⟩ : ∃ k : Nat, (k : Int) = min (max wd 0) 8 := ⟨(min (max wd 0) 8).toNat, by omega⟩
  have hk8 : k ≤ 8 := by omega
  rw [← hk, Int.toNat_natCast]
  have Hk := hide hk
  clear hk
  rintro e w1 ⟨v1, rfl, ho1, hb1⟩
  obtain ⟨A1, c1, rfl, _, _⟩ := own_form ho1
  simp only [World.size_alloc, World.drewN] at ho1 hb1
  have Ho1 := hide ho1
  have hb1' := Hb0.out.trans (hb1.mono (by omega))
  have Hb1 := hide hb1'
  have Hl1 := hide ((Hl.out.below (hb1'.mono hB)))
  clear ho1 hb1 hb1' Hb0
  have hsz := Hb1.out.size
  go_wp2_with fail
  refine (low_any wd 8 _).mono ?_
  rintro e w2 ⟨rfl, rfl⟩
  go_wp2_with fail
  refine (high_any _ 0 _).mono ?_
  rintro e w2 ⟨he, rfl⟩
  rw [show max (min wd 8) 0 = (k : Int) by have := Hk.out; omega] at he
  subst he
  go_upto_region 6 with fail
  have hd0 : Below w1.heap.size w1 w1.drew := (Below.refl _ w1).drew
  have hc1 : ∀ W, Below w1.heap.size w1 W → (convert 22 9 (.slice A1 (n + k) c1)).run Try.prog W = .ok (.string (str (l ++ beB k x.toNat))) W := fun W hW =>
    strU8 c1 ((Lies.of_own Ho1.out).below hW) (by have := Ho1.out.1; rw [bys_len] at this; omega)
  have hc2 : ∀ W, Below w1.heap.size w1 W → (convert 22 9 (.slice A n c)).run Try.prog W = .ok (.string (str l)) W := fun W hW =>
    strU8 c (Hl1.out.below (hW.mono (by omega))) Hn.out
  have hsum : ¬ 9223372036854775807 < (str l).size + (str (beB k x.toNat)).size := by rw [str_size, str_size, beB_len]; have := Hn.out; omega
  have hap : str l ++ str (beB k x.toNat) = str (l ++ beB k x.toNat) := str_app _ _
  go_cut [38] (fun s wx => s = .bool false ∧ Below w1.heap.size w1 wx)
  case first =>
    go_region_with (go_at_call 10; refine (bytes_nat k x _ hk8 hx0 Hx1.out).mono ?_; rintro e w2 ⟨A2, c2, rfl, ho2, hb2⟩; have hb3 := (hd0.trans hb2); have hc3 := own_str ho2 rfl)
    all_goals (go_wp2_with fail; go_meet; exact ⟨by simp, by first | exact hb3 | exact hb3.drew⟩)
  case rest =>
    obtain ⟨rfl, hbc⟩ := hcut
    have Hbc := hide hbc
    clear hbc hc1 hc2 hsum hap hd0
    have hV1 := numAt_low x.toNat k hk8
    have hV2 := numAt_back l x.toNat k
    have HV1 := hide hV1
    have HV2 := hide hV2
    clear hV1 hV2
    go_wp2_with fail
    refine (bytes_8 x _ hx0 Hx1.out).mono ?_
    rintro e w3 ⟨A3, c3, rfl, ho3, hb3⟩
    have Ho3 := hide ho3
    have Hb3 := hide (Hbc.out.trans (hb3.mono Hbc.out.size))
    clear ho3 hb3
    go_wp2_with fail
    refine (number_any A3 8 c3 _ (beB 8 x.toNat) (8 - (k : Int)) k _ (Lies.of_own Ho3.out) (by rw [beB_len]) (by omega) (by omega) (by omega)).mono ?_
    rintro e w4 ⟨he, rfl⟩
    rw [if_pos (by omega), show (min (k : Int) 8).toNat = k by omega, HV1.out] at he
    subst he
    go_wp2_with fail
    refine (awake1_any _).mono ?_
    rintro e w5 ⟨rfl, hb5⟩
    have Hb5 := hide (Hb3.out.trans (hb5.mono Hb3.out.size))
    clear hb5
    go_wp2_with fail
    refine (get_any A1 (n + k) c1 _ (l ++ beB k x.toNat) n wd _ ((Lies.of_own Ho1.out).below Hb5.out) (by have := Hn.out; simp [beB_len]; omega) (by omega) (by omega) (by omega)).mono ?_
    rintro e w6 ⟨he, rfl⟩
    rw [← Hk.out, Int.toNat_natCast, show (n : Int) = (l.length : Int) by have := Hn.out; omega, HV2.out] at he
    subst he
    have Hfin := hide (Hb1.out.trans (Hb5.out.mono hsz))
    have HLb := hide ((Hl1.out.below (Hb5.out.mono (by omega))))
    by_cases hat : at_ < 0
    · go_wp2
      go_ret
      exact ⟨rfl, Hfin.out⟩
    · go_wp2_with fail
      refine (get_any A n c _ l at_ wd _ HLb.out Hn.out (by omega) (by omega) (by omega)).mono ?_
      rintro e w6 ⟨he, rfl⟩
      rw [← Hk.out, Int.toNat_natCast] at he
      subst he
      go_wp2_with fail
      refine (number_any A n c _ l at_ wd _ HLb.out Hn.out (by omega) (by omega) (by omega)).mono ?_
      rintro e w6 ⟨he, rfl⟩
      have e9 : (if 0 ≤ at_ ∧ at_ ≤ (n : Int) then numAt l at_ (min wd 8).toNat else 0) = numAt l at_ k := by
        by_cases h9 : at_ ≤ (n : Int)
        · rw [if_pos ⟨by omega, h9⟩, show (min wd 8).toNat = k by have := Hk.out; omega]
        · rw [if_neg (fun h => h9 h.2), numAt_out l at_ (.inr (by have := Hn.out; omega)) k hk8]
      rw [e9] at he
      subst he
      go_wp2
      go_ret
      exact ⟨rfl, Hfin.out⟩

end Go.Proofs.Ytfjlidngialpaaa
