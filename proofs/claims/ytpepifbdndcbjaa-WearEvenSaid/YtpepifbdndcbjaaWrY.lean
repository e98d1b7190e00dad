/-
  LAYER 21: WearEven.
-/
import Derived.Test.YtpepifbdndcbjaaWrW
import Derived.Test.YtpepifbdndcbjaaSliL
namespace Go.Proofs.Ytpepifbdndcbjaa
open Go.RowKit
set_option maxRecDepth 8000

theorem nums_take21 (l : List Int) (j : Nat) : nums .i64 (l.take j) = (nums .i64 l).take j := by unfold nums; rw [List.map_take]
theorem add21 (g i : Nat) : ((⟨g, 0, none⟩ : Addr).add i) = ⟨g, i, none⟩ := by unfold Addr.add; split <;> simp_all
set_option maxHeartbeats 8000000 in
theorem wearEven_any (k : Nat) (g : Int) (A : Option Addr) (n c : Nat) (l : List Int) (w : World) (hl : Lies w w.heap.size A (nums .i64 l)) (hn : n = l.length) (hnc : n ≤ c) (hk : k < 256) :
    Calls Try.prog 4 #[.int .u8 (k : Int), .int .i64 g, .slice A n c] w fun e w' => e = .returned (.bool true) ∧ Below w.heap.size w w' := by
  have FA := hide awake21_any
  obtain ⟨G, hG⟩ : ∃ G, max g 1 = G := ⟨_, rfl⟩
  have hG1 : 1 ≤ G := by omega
  obtain ⟨M, hM⟩ : ∃ M, k % 12 + 1 = M := ⟨_, rfl⟩
  have hM1 : 1 ≤ M := by omega
  have hM2 : M ≤ 12 := by omega
  obtain ⟨l2, hl2⟩ : ∃ l2, l.take 200 = l2 := ⟨_, rfl⟩
  obtain ⟨n2, hn2⟩ : ∃ n2, n2 = l2.length := ⟨_, rfl⟩
  have hn2l : n2 = min n 200 := by rw [hn2, ← hl2, List.length_take, hn, Nat.min_comm]
  have hll : Lies w w.heap.size A (nums .i64 l2) := by rw [← hl2, nums_take21]; exact hl.take 200
  have hE := playZ_ev hG1 hM1 l2 _ 0 (Ev.start (n := M) hG1)
  rw [Nat.zero_add, ← hn2] at hE
  have F1 := hide (fun W (h : Below w.heap.size w W) => play21 M g A n2 c l2 W (hll.go21 h) hn2 hM1 (Nat.le_trans hM2 (by decide)) (by omega))
  have F2 := hide (fun W (h : Below w.heap.size w W) => playR21 M g A n2 c l2 W (hll.go21 h) hn2 hM1 (Nat.le_trans hM2 (by decide)) (by omega))
  have F3 := hide (fun W => playNone21 0 g (.slice A n2 c) W (.inl (by decide)))
  have F4 := hide (fun W => playNone21 65 g (.slice A n2 c) W (.inr (by decide)))
  have FH := hide (fun W => high_any g 1 W)
  rw [hG] at F1 F2 FH
  generalize playZ G M (List.replicate M 0) l2 = C at *
  have HE := hide hE
  have HM2 := hide hM2
  have HM := hide hM
  have Hn2 := hide hn2l
  have Hn2b := hide (show n2 ≤ 200 by omega)
  have Hnc := hide hnc
  have HMI := hide (show (k : Int) % 12 + 1 = (M : Int) by omega)
  have hrem : ((k : Int)).tmod 12 = ((k % 12 : Nat) : Int) := by rw [Int.tmod_eq_emod_of_nonneg (by omega)]; rfl
  clear hl hn hnc hG hG1 hM hM2 hM1 hl2 hn2 hn2l hll hE hk
  go_enter Try.func4, Try.ntmps4
  go_upto_if 17 with fail
  rw [HMI.out]
  go_cut [2] from 17 to 19 (fun s wx => s = .slice A n2 c ∧ w = wx)
  case first =>
    have Hyes := hide (fun h : (200 : Int) < (n : Int) => show 200 = n2 by have := Hn2.out; omega)
    have Hno := hide (fun h : ¬ (200 : Int) < (n : Int) => show n = n2 by have := Hn2.out; omega)
    go_wp2_with (refine wpl_slice_h rfl 22 3 (.tmp 18) (.const (.int .i64 200)) rfl A n c 200 1 rfl (by rfl) (by omega) Hnc.out (by kernel_rfl) (by kernel_rfl) (by kernel_rfl) ?_)
    all_goals
      go_meet
      first
        | exact ⟨congrArg (fun q : Nat => Value.slice A q c) (Hyes.out (by omega)), rfl⟩
        | exact ⟨congrArg (fun q : Nat => Value.slice A q c) (Hno.out (by omega)), rfl⟩
  case rest =>
    obtain ⟨rfl, rfl⟩ := hcut
    clear Hn2 Hnc HMI hrem
    go_wp2_with fail
    (with_reducible refine (F1.out _ (Below.refl _ _)).mono ?_); rintro e w1 ⟨gb, rfl, ho, hb⟩
    have HO1 := hide ho
    have W1 := hide hb
    clear ho hb F1
    go_wp2_with fail
    (with_reducible refine (F2.out _ W1.out).mono ?_); rintro e w2 ⟨A3, c3, rfl, ho, hb⟩
    have HO2 := hide (own_keepT HO1.out hb)
    have W2 := hide (W1.out.trans (hb.mono W1.out.size))
    have FI := hide (ints21 (some ⟨gb, 0, none⟩) A3 M M M c3 w2.heap.size C C w2 (Lies.of_own HO2.out) HE.out.len.symm (Lies.of_own ho) HE.out.len.symm (Nat.le_trans HM2.out (by decide)) (Nat.le_refl _))
    rw [decide_eq_true (rfl : C = C)] at FI
    clear ho hb F2 HO1 W1
    go_wp2_with fail
    (with_reducible refine FI.out.mono ?_); rintro e w3 ⟨rfl, hb⟩
    have HX := hide ((Lies.of_own HO2.out).go21 hb)
    have W3 := hide (W2.out.trans (hb.mono W2.out.size))
    clear hb FI HO2 W2
    go_wp2
    go_loopw [9, 10] (fun i _ wx => ∃ i0 : Nat, i0 ≤ M ∧ i = .int .i64 (i0 : Int) ∧ Hid (Below w3.heap.size w3 wx)) (fun i _ _ => M - (intOf i).toNat)
    case atStart => exact ⟨0, Nat.zero_le _, rfl, hide (Below.refl _ _)⟩
    case round =>
      obtain ⟨i0, hi0, rfl, HB⟩ := hrel
      by_cases hlt : i0 < M
      · have hlt' : (i0 : Int) < (M : Int) := by omega
        have e7 : wrap64 ((i0 : Int) + 1) = ((i0 + 1 : Nat) : Int) := by have := HM2.out; unfold wrap64; omega
        have Hlt := hide hlt
        obtain ⟨W4, rfl⟩ : ∃ W4, W4 = wr := ⟨wr, rfl⟩
        go_wp2
        go_loopw [10] (fun k wx => ∃ k0 : Nat, k0 ≤ M ∧ k = .int .i64 (k0 : Int) ∧ Hid (Below w3.heap.size w3 wx)) (fun k _ => M - (intOf k).toNat)
        case atStart => exact ⟨0, Nat.zero_le _, rfl, HB⟩
        case round =>
          clear HB
          obtain ⟨k0, hk0, rfl, HB⟩ := hrel
          by_cases hlk : k0 < M
          · have hlk' : (k0 : Int) < (M : Int) := by omega
            have e8 : wrap64 ((k0 : Int) + 1) = ((k0 + 1 : Nat) : Int) := by have := HM2.out; unfold wrap64; omega
            have HX2 := hide (HX.out.below HB.out)
            obtain ⟨a2, ha2, _, hc1⟩ := HX2.out.num (i := i0) (by rw [HE.out.len]; exact Hlt.out)
            injection ha2 with ha2
            subst ha2
            obtain ⟨a3, ha3, _, hc2⟩ := HX2.out.num (i := k0) (by rw [HE.out.len]; exact hlk)
            injection ha3 with ha3
            subst ha3
            rw [add21] at hc1 hc2
            have FH5 : ∀ q, Calls Try.prog 16 #[.int .i64 g, .int .i64 1] (wr.drewN q) fun e w' => e = .returned (.int .i64 G) ∧ w' = wr.drewN q := fun q => (FH.out (wr.drewN q)).mono fun e w' ⟨h1, h2⟩ => ⟨h1, h2.symm⟩
            have hev := HE.out.even i0 k0 Hlt.out hlk
            have hp1 := HE.out.pos i0 Hlt.out
            have hp2 := HE.out.pos k0 hlk
            have ht1 := HE.out.top i0 Hlt.out
            have ht2 := HE.out.top k0 hlk
            have hwd : wrap64 (C.getD i0 0 - C.getD k0 0) = C.getD i0 0 - C.getD k0 0 := by have := Hn2b.out; unfold wrap64; omega
            have gev : decide (G < C.getD i0 0 - C.getD k0 0) = false := decide_eq_false (by omega)
            have hi00 : (0 : Int) ≤ (i0 : Int) := by omega
            have hk00 : (0 : Int) ≤ (k0 : Int) := by omega
            have Hlk := hide hlk
            clear hev hp1 hp2 ht1 ht2 hlk hlt hi0 hk0
            generalize C.getD i0 0 = u at *
            generalize C.getD k0 0 = v at *
            go_upto_region 13 with fail
            go_quiet (first | (go_at_call 16; exact Calls.quiet_of_same (FH5 _)))
            go_wp2
            go_roundw
            case rel => exact ⟨k0 + 1, Hlk.out, congrArg (Value.int .i64) e8, hide (bel_drewN HB.out _)⟩
            case measure => first | exact measT Hlk.out | exact measT2 e8 Hlk.out
          · obtain rfl : k0 = M := by omega
            go_wp2
            go_roundw
            case rel => exact ⟨i0 + 1, Hlt.out, congrArg (Value.int .i64) e7, HB⟩
            case measure => first | exact measT Hlt.out | exact measT2 e7 Hlt.out
      · obtain rfl : i0 = M := by omega
        have W5 := hide (W3.out.trans (HB.out.mono W3.out.size))
        clear HB HX W3
        go_wp2_with fail
        (with_reducible refine (FA.out _).mono ?_); rintro e w6 ⟨rfl, hb⟩
        have W6 := hide (W5.out.trans (hb.mono W5.out.size))
        clear hb W5
        go_wp2_with fail
        (with_reducible refine (F3.out _).mono ?_); rintro e w7 ⟨rfl, rfl⟩
        go_wp2_with fail
        (with_reducible refine (F4.out _).mono ?_); rintro e w7 ⟨rfl, rfl⟩
        go_wp2
        go_ret
        exact ⟨rfl, W6.out⟩
end Go.Proofs.Ytpepifbdndcbjaa
