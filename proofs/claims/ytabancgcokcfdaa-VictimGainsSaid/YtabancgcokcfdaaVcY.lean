/-
  LAYER 22: VictimGains.
-/
import Derived.Test.YtabancgcokcfdaaVcX
namespace Go.Proofs.Ytabancgcokcfdaa
open Go.RowKit
set_option maxRecDepth 8000
namespace Vc
set_option maxHeartbeats 4000000 in
theorem gains_off (A A2 : Option Addr) (n c n2 c2 : Nat) (p : Int) (w : World) (h : ¬ (n ≤ 40 ∧ n2 ≤ 100) ∨ ¬ p ≤ 1099511627776) :
    Calls Try.prog 4 #[.slice A n c, .slice A2 n2 c2, .int .i64 p] w fun e w' => e = .returned (.bool true) ∧ Below w.heap.size w w' := by
  have FA := hide (awake22_any w)
  have F0 := hide (light22 A A2 n c n2 c2 w)
  by_cases hL : n ≤ 40 ∧ n2 ≤ 100
  · have g1 : decide ((1099511627776 : Int) < p) = true := decide_eq_true (by rcases h with h | h; exact absurd hL h; omega)
    rw [decide_eq_true hL] at F0
    clear h hL
    go_enter Try.func4, Try.ntmps4
    go_wp2_with fail
    (with_reducible refine F0.out.mono ?_); rintro e w2 ⟨rfl, rfl⟩
    go_wp2_with fail
    (with_reducible refine FA.out.mono ?_); rintro e w2 ⟨rfl, hb⟩
    have HB := hide hb
    clear hb F0 FA
    go_wp2
    go_ret
    exact ⟨rfl, HB.out⟩
  · rw [decide_eq_false hL] at F0
    clear h hL
    go_enter Try.func4, Try.ntmps4
    go_wp2_with fail
    (with_reducible refine F0.out.mono ?_); rintro e w2 ⟨rfl, rfl⟩
    go_wp2_with fail
    (with_reducible refine FA.out.mono ?_); rintro e w2 ⟨rfl, hb⟩
    have HB := hide hb
    clear hb F0 FA
    go_wp2
    go_ret
    exact ⟨rfl, HB.out⟩
theorem pair_at {L : List Pl2} {R : List Int} (h : R.Pairwise fun x y => ltV L y x = false) {j : Nat} (hj : j + 1 < R.length) : ¬ cntB (R.getD (j + 1) 0) L < cntB (R.getD j 0) L ∧ (cntB (R.getD j 0) L = cntB (R.getD (j + 1) 0) L → R.getD j 0 ≤ R.getD (j + 1) 0) := by
  rw [List.pairwise_iff_getElem] at h
  have h1 := h j (j + 1) (by omega) hj (by omega)
  simp only [List.getD_eq_getElem?_getD, List.getElem?_eq_getElem hj, List.getElem?_eq_getElem (show j < R.length by omega), Option.getD_some]
  unfold ltV at h1
  rw [decide_eq_false_iff_not] at h1
  omega
theorem gain_eq (L : List Pl2) (b p : Int) : gainZ L b p = if p ≤ (cntB b L : Int) then 0 else p - (cntB b L : Int) := rfl
set_option maxHeartbeats 8000000 in
theorem gains_on (A A2 : Option Addr) (c c2 : Nat) (zs : List Int) (L : List Pl2) (p : Int) (w : World) (hz : Lies w w.heap.size A (nums .i64 zs)) (hl : Lies w w.heap.size A2 (rowQ L)) (he : Env L zs) (h1 : zs.length ≤ 40) (h2 : L.length ≤ 100) (hp : Ok64 p) (hp2 : p ≤ 1099511627776) :
    Calls Try.prog 4 #[.slice A zs.length c, .slice A2 L.length c2, .int .i64 p] w fun e w' => e = .returned (.bool true) ∧ Below w.heap.size w w' := by
  have FA := hide awake22_any
  have F0 := hide (light22 A A2 zs.length c L.length c2 w)
  rw [decide_eq_true ⟨h1, h2⟩] at F0
  have F1 := hide (fun b (hb : Ok64 b) W (h : Below w.heap.size w W) => gainX_any A2 c2 L b p W (goV hl h) he.l hb hp)
  have F2 := hide (fun W (h : Below w.heap.size w W) => order_any A A2 c c2 zs L W (goV hz h) (goV hl h) he (by omega))
  have F3 := hide (fun b W (h : Below w.heap.size w W) => rcount_any A2 c2 W.heap.size L b W (goV hl h) he.l)
  have F4 := hide (fun W (h : Below w.heap.size w W) => total_any A A2 c c2 zs L p W (goV hz h) (goV hl h) he h1 hp hp2)
  have F5 := hide (fun z W (h : Below w.heap.size w W) => has21 A zs.length c W.heap.size zs z W (goV hz h) rfl (by omega))
  have HZ := hide hz
  have HOK := hide he.ok
  have HT := hide (fun k => totN_le (L := L) (l := zs) hp2 k)
  have HP := hide (And.intro hp hp2)
  have HCL := hide (fun b => Nat.le_trans (cntB_le b L) h2)
  obtain ⟨n, hn⟩ : ∃ n, zs.length = n := ⟨_, rfl⟩
  obtain ⟨m, hm⟩ : ∃ m, L.length = m := ⟨_, rfl⟩
  rw [hn, hm] at F0 F2 F4 ⊢
  rw [hn] at h1 F5
  rw [hm] at F1 F3
  have gp : decide ((1099511627776 : Int) < p) = false := decide_eq_false (by omega)
  have Hn := hide hn
  have H1 := hide h1
  clear hz hl he h1 h2 hn hm hp hp2
  go_enter Try.func4, Try.ntmps4
  go_wp2_with fail
  (with_reducible refine F0.out.mono ?_); rintro e w2 ⟨rfl, rfl⟩
  go_wp2_with fail
  clear gp
  go_loopw [7, 8] (fun s i wr => ∃ k : Nat, k ≤ n ∧ i = .int .i64 (k : Int) ∧ s = .int .i64 (totN L p zs k) ∧ Hid (Below w.heap.size w wr)) (fun _ i _ => n - (RowKit.intOf i).toNat)
  case atStart => exact ⟨0, Nat.zero_le _, rfl, rfl, hide (Below.refl _ _)⟩
  case round =>
    obtain ⟨k, hk, rfl, rfl, HB⟩ := hrel
    by_cases hlt : k < n
    · have hlt' : (k : Int) < (n : Int) := by omega
      have hkl : k < zs.length := by rw [Hn.out]; exact hlt
      obtain ⟨a, rfl, hab, hca⟩ := (HZ.out.below HB.out).num hkl
      have e1 : wrap64 ((k : Int) + 1) = ((k + 1 : Nat) : Int) := by have := H1.out; unfold wrap64; omega
      have hob : Ok64 (zs.getD k 0) := HOK.out _ (by rw [List.getD, List.getElem?_eq_getElem hkl]; exact List.getElem_mem hkl)
      have f3 := F3.out (zs.getD k 0) wr HB.out
      have f1 := F1.out (zs.getD k 0) hob wr HB.out
      have hcl := HCL.out (zs.getD k 0)
      have hT := HT.out k
      have HNX : Hid (totN L p zs (k + 1) = totN L p zs k + gainZ L (zs.getD k 0) p) := hide rfl
      rw [gain_eq] at f1 HNX
      generalize zs.getD k 0 = b at *
      generalize totN L p zs k = t at *
      obtain ⟨x, hx⟩ : ∃ x, cntB b L = x := ⟨_, rfl⟩
      rw [hx] at f1 f3 HNX hcl
      have hkN : (k : Int) * 1099511627776 ≤ 43980465111040 := by have := H1.out; omega
      have hpp := HP.out
      have Hlt := hide hlt
      by_cases hc : p ≤ (x : Int)
      · rw [if_pos hc] at f1 HNX
        have g1 : decide ((x : Int) < p) = false := decide_eq_false (by omega)
        have e2 : wrap64 (t + 0) = t + 0 := by clear e1; unfold wrap64; omega
        have e2' : wrap64 t = t := by have := e2; rwa [Int.add_zero] at this
        have FF1 := hide f1
        have FF3 := hide f3
        have HN2 := hide (show totN L p zs (k + 1) = t by rw [HNX.out, Int.add_zero])
        clear f1 f3 hcl hT hkN hpp hc hob hx hkl hlt HNX e2 hk
        go_wp2_with fail
        (with_reducible refine FF3.out.mono ?_); rintro e w3 ⟨rfl, rfl⟩
        go_wp2_with fail
        (with_reducible refine FF1.out.mono ?_); rintro e w3 ⟨rfl, hb⟩
        have HB3 := hide (HB.out.trans (hb.mono HB.out.size))
        clear hb FF1 FF3
        go_wp2
        refine ⟨⟨k + 1, Hlt.out, congrArg (Value.int .i64) e1, by first | rw [HN2.out, e2'] | rw [HN2.out], HB3⟩, by first | exact measU Hlt.out | exact measV e1 Hlt.out⟩
      · rw [if_neg hc] at f1 HNX
        have g1 : decide ((x : Int) < p) = true := decide_eq_true (by omega)
        obtain ⟨g, hg⟩ : ∃ g, p - (x : Int) = g := ⟨_, rfl⟩
        rw [hg] at f1 HNX
        have e3 : wrap64 (p - (x : Int)) = g := by clear e1; rw [hg]; unfold wrap64; omega
        have e2 : wrap64 (t + g) = t + g := by clear e1 e3; unfold wrap64; omega
        have g2 : (g != g) = false := by simp
        have FF1 := hide f1
        have FF3 := hide f3
        clear f1 f3 hcl hT hkN hpp hc hob hx hkl hlt hg hk
        go_wp2_with fail
        (with_reducible refine FF3.out.mono ?_); rintro e w3 ⟨rfl, rfl⟩
        go_wp2_with fail
        (with_reducible refine FF1.out.mono ?_); rintro e w3 ⟨rfl, hb⟩
        have HB3 := hide (HB.out.trans (hb.mono HB.out.size))
        clear hb FF1 FF3
        go_wp2
        refine ⟨⟨k + 1, Hlt.out, congrArg (Value.int .i64) e1, by rw [HNX.out, e2], HB3⟩, by first | exact measU Hlt.out | exact measV e1 Hlt.out⟩
    · obtain rfl : k = n := by omega
      clear F1 HT HP HCL HOK hk
      go_wp2_with fail
      (with_reducible refine (F2.out wr HB.out).mono ?_); rintro e w2 ⟨v, R, rfl, hperm, hpair, hrow, hb⟩
      have HB2 := hide (HB.out.trans (hb.mono HB.out.size))
      obtain ⟨A3, c3, rfl, _⟩ := own_form hrow
      have HR := hide (LiesB.of_own hrow).lies
      have HPair := hide hpair
      have HMem := hide (fun x => (hperm.mem_iff (a := x)).1)
      have hlen : R.length = k := by rw [hperm.length_eq]; exact Hn.out
      have HLen := hide hlen
      rw [hlen]
      clear hrow hpair hperm hb hlen F2 HB hlt
      go_wp2_with fail
      go_loopw [12] (fun i wr => ∃ j : Nat, j ≤ k ∧ i = .int .i64 (j : Int) ∧ Hid (Below w2.heap.size w2 wr)) (fun i _ => k - (RowKit.intOf i).toNat)
      case atStart => exact ⟨0, Nat.zero_le _, rfl, hide (Below.refl _ _)⟩
      case round =>
        obtain ⟨j, hj, rfl, HC⟩ := hrel
        by_cases hjk : j < k
        · have hjk' : (j : Int) < (k : Int) := by omega
          have hjl : j < R.length := by rw [HLen.out]; exact hjk
          obtain ⟨a, rfl, hab, hca⟩ := (HR.out.below HC.out).num hjl
          have e1 : wrap64 ((j : Int) + 1) = ((j + 1 : Nat) : Int) := by have := H1.out; unfold wrap64; omega
          have hmem : decide (R.getD j 0 ∈ zs) = true := decide_eq_true (HMem.out _ (by rw [List.getD, List.getElem?_eq_getElem hjl]; exact List.getElem_mem hjl))
          have HW := hide (HB2.out.trans (HC.out.mono HB2.out.size))
          have hD := fun d => (bel_drewN HW.out d)
          have G1 : ∀ d, Calls Try.prog 12 #[.slice A k c, .int .i64 (R.getD j 0)] (wr.drewN d) fun e w' => e = .returned (.bool true) ∧ w' = wr.drewN d := fun d => (F5.out (R.getD j 0) (wr.drewN d) (hD d)).mono fun e w' ⟨h1, h2⟩ => ⟨by rw [h1, hmem], h2.symm⟩
          have G2 : ∀ d, Calls Try.prog 9 #[.slice A2 m c2, .int .i64 (R.getD j 0)] (wr.drewN d) fun e w' => e = .returned (.int .i64 (cntB (R.getD j 0) L : Int)) ∧ w' = wr.drewN d := fun d => (F3.out (R.getD j 0) (wr.drewN d) (hD d)).mono fun e w' ⟨h1, h2⟩ => ⟨h1, h2.symm⟩
          by_cases h0 : j = 0
          · subst h0
            have c0 : wr.cell? a = some (.int .i64 (R.getD 0 0)) := by simpa [Addr.add] using hca
            generalize R.getD 0 0 = b at *
            clear hmem hjl hj G2 hD hca
            go_wp2
            go_quiet (first | (go_at_call 12; exact Calls.quiet_of_same (G1 _)))
            go_wp2
            go_roundw
            case rel => exact ⟨0 + 1, hjk, by first | rfl | exact congrArg (Value.int .i64) e1, hide (bel_drewN HC.out nq)⟩
            case measure => first | exact measU hjk | exact measV e1 hjk
          · obtain ⟨i, hi⟩ : ∃ i, j = i + 1 := ⟨j - 1, by omega⟩
            have hil : i < R.length := by omega
            have hik : i < k := by omega
            have hik' : (i : Int) < (k : Int) := by omega
            obtain ⟨a2, ha2, _, hcb⟩ := (HR.out.below HC.out).num hil
            obtain rfl : a = a2 := by injection ha2
            have hs := pair_at HPair.out (j := i) (by omega)
            rw [← hi] at hs
            have G3 : ∀ d, Calls Try.prog 9 #[.slice A2 m c2, .int .i64 (R.getD i 0)] (wr.drewN d) fun e w' => e = .returned (.int .i64 (cntB (R.getD i 0) L : Int)) ∧ w' = wr.drewN d := fun d => (F3.out (R.getD i 0) (wr.drewN d) (hD d)).mono fun e w' ⟨h1, h2⟩ => ⟨h1, h2.symm⟩
            have r3 : (j : Int) - 1 = (i : Int) := by omega
            have hj1 : j ≤ 1000 := by have := H1.out; omega
            have e3 : wrap64 ((j : Int) - 1) = (i : Int) := by rw [r3]; exact w6n (by omega)
            have e3' : IntKind.i64.wrap ((j : Int) - 1) = (i : Int) := by rw [r3]; exact w6i (by omega)
            have g0 : decide ((0 : Int) < (j : Int)) = true := decide_eq_true (by omega)
            have g0' : decide (0 < j) = true := decide_eq_true (by omega)
            generalize R.getD j 0 = b at *
            generalize R.getD i 0 = b2 at *
            have g1 : decide ((cntB b L : Int) < (cntB b2 L : Int)) = false := decide_eq_false (by have := hs.1; omega)
            by_cases hxy : cntB b2 L = cntB b L
            · have g2 : ((cntB b2 L : Int) == (cntB b L : Int)) = true := beq_iff_eq.2 (by omega)
              have g3 : decide (b < b2) = false := decide_eq_false (by have := hs.2 hxy; omega)
              have Hi := hide hi
              generalize (cntB b L : Int) = x at *
              generalize (cntB b2 L : Int) = y at *
              clear hmem hjl hj hD hs hxy r3 hj1 h0 hil hi ha2
              go_wp2
              go_quiet (first
                | (go_at_call 12; exact Calls.quiet_of_same (G1 _))
                | (go_at_call 9; first | (with_reducible exact Calls.quiet_of_same (G2 _)) | (with_reducible exact Calls.quiet_of_same (G3 _))))
              go_wp2
              go_roundw
              case rel => exact ⟨j + 1, hjk, congrArg (Value.int .i64) e1, hide (bel_drewN HC.out nq)⟩
              case measure => first | exact measU hjk | exact measV e1 hjk
            · have g2 : ((cntB b2 L : Int) == (cntB b L : Int)) = false := beq_eq_false_iff_ne.2 (by omega)
              have Hi := hide hi
              generalize (cntB b L : Int) = x at *
              generalize (cntB b2 L : Int) = y at *
              clear hmem hjl hj hD hs hxy r3 hj1 h0 hil hi ha2
              go_wp2
              go_quiet (first
                | (go_at_call 12; exact Calls.quiet_of_same (G1 _))
                | (go_at_call 9; first | (with_reducible exact Calls.quiet_of_same (G2 _)) | (with_reducible exact Calls.quiet_of_same (G3 _))))
              go_wp2
              go_roundw
              case rel => exact ⟨j + 1, hjk, congrArg (Value.int .i64) e1, hide (bel_drewN HC.out nq)⟩
              case measure => first | exact measU hjk | exact measV e1 hjk
        · obtain rfl : j = k := by omega
          have HW := hide (HB2.out.trans (HC.out.mono HB2.out.size))
          have e2 : (totN L p zs j == totN L p zs j) = true := beq_self_eq_true _
          have HF4 := hide (fun W h => F4.out W h)
          generalize totN L p zs j = t at *
          clear F4 F5 F3 HC HB2 hjk
          go_wp2_with fail
          (with_reducible refine (FA.out _).mono ?_); rintro e w3 ⟨rfl, hb⟩
          have HB3 := hide (HW.out.trans (hb.mono HW.out.size))
          clear hb HW
          go_wp2_with fail
          (with_reducible refine (HF4.out _ HB3.out).mono ?_); rintro e w4 ⟨rfl, hb⟩
          have HB4 := hide (HB3.out.trans (hb.mono HB3.out.size))
          clear hb HB3
          go_wp2
          go_ret
          exact ⟨rfl, HB4.out⟩
theorem gains_any (A A2 : Option Addr) (n c n2 c2 : Nat) (p : Int) (zs : List Int) (L : List Pl2) (w : World) (hz : Lies w w.heap.size A (nums .i64 zs)) (hn : n = zs.length) (ho : ∀ z ∈ zs, Ok64 z) (hl : Lies w w.heap.size A2 (rowQ L)) (hn2 : n2 = L.length) (hp : Ok64 p) :
    Calls Try.prog 4 #[.slice A n c, .slice A2 n2 c2, .int .i64 p] w fun e w' => e = .returned (.bool true) ∧ Below w.heap.size w w' := by
  by_cases h : n ≤ 40 ∧ n2 ≤ 100
  · by_cases h2 : p ≤ 1099511627776
    · subst hn hn2
      exact gains_on A A2 c c2 zs L p w hz hl ⟨by omega, by omega, ho⟩ h.1 h.2 hp h2
    · exact gains_off A A2 n c n2 c2 p w (.inr h2)
  · exact gains_off A A2 n c n2 c2 p w (.inl h)
end Vc
end Go.Proofs.Ytabancgcokcfdaa
