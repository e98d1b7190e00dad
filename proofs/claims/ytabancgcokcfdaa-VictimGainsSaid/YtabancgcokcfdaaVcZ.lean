/-
  LAYER 22, CONTRACTS: Total; slices.MinFunc and Pick; the reference's Count and Pick.
-/
import Derived.Test.YtabancgcokcfdaaVcU
namespace Go.Proofs.Ytabancgcokcfdaa
open Go.RowKit
set_option maxRecDepth 8000
namespace Vc
theorem measU {K Z : Nat} (h : K < Z) : Z - (RowKit.intOf (.int .i64 ((K + 1 : Nat) : Int))).toNat < Z - (RowKit.intOf (.int .i64 (K : Int))).toNat := by
  show Z - (K + 1) < Z - K
  omega
set_option maxHeartbeats 4000000 in
theorem total_any (A B : Option Addr) (c d : Nat) (zs : List Int) (L : List Pl2) (p : Int) (w : World) (hz : Lies w w.heap.size A (nums .i64 zs)) (hl : Lies w w.heap.size B (rowQ L)) (he : Env L zs) (hN : zs.length ≤ 40) (hp : Ok64 p) (hp2 : p ≤ 1099511627776) :
    Calls Try.prog 13 #[.slice A zs.length c, .slice B L.length d, .int .i64 p] w fun e w' => e = .returned (.int .i64 (totN L p zs zs.length)) ∧ Below w.heap.size w w' := by
  have eg := egK
  have F1 := hide (keeper_any B d L zs w hl)
  have F2 := hide (fun k (hk : k < zs.length) W (h : Kp L zs w.heap.size W) => keep1_any L zs w.heap.size (zs.getD k 0) W h (by rw [List.getD, List.getElem?_eq_getElem hk]; exact List.getElem_mem hk) (he.ok _ (by rw [List.getD, List.getElem?_eq_getElem hk]; exact List.getElem_mem hk)) he.l he.s)
  have F3 := hide (fun b W => gain_any L b p W he.l hp)
  have HZ := hide hz
  have HT := hide (fun k => totN_le (L := L) (l := zs) hp2 k)
  have HG := hide (fun b => gainZ_le (L := L) (b := b) hp2)
  obtain ⟨n, hn⟩ : ∃ n, zs.length = n := ⟨_, rfl⟩
  have Hn := hide hn
  rw [hn]
  have HN : Hid (n ≤ 40) := hide (by rw [← hn]; exact hN)
  clear hz hl he hN hp hp2 hn
  go_enter Try.func13, Try.ntmps13
  go_wp2_with fail
  (with_reducible refine F1.out.mono ?_)
  rintro e w1 ⟨rfl, hk, hb, _⟩
  have HK := hide hk
  have HB := hide hb
  clear hk hb F1
  go_wp2_with fail
  go_loopw [8, 15] (fun s i wr => ∃ k : Nat, k ≤ n ∧ i = .int .i64 (k : Int) ∧ s = .int .i64 (totN L p zs k) ∧ Hid (Kp L zs w.heap.size wr) ∧ Hid (Below w.heap.size w wr)) (fun _ i _ => n - (RowKit.intOf i).toNat)
  case atStart => exact ⟨0, Nat.zero_le _, rfl, rfl, HK, HB⟩
  case round =>
    clear HK HB
    obtain ⟨k, hk, rfl, rfl, HK, HB⟩ := hrel
    by_cases hlt : k < n
    · have hlt' : (k : Int) < (n : Int) := by omega
      have hkl : k < zs.length := by rw [Hn.out]; exact hlt
      have e7 : wrap64 ((k : Int) + 1) = ((k + 1 : Nat) : Int) := by have := HN.out; unfold wrap64; omega
      obtain ⟨a, rfl, hab, hca⟩ := (HZ.out.below HB.out).num hkl
      have f2 := F2.out k hkl wr HK.out
      have hT := HT.out k
      have hG := HG.out (zs.getD k 0)
      have HNX : Hid (totN L p zs (k + 1) = totN L p zs k + gainZ L (zs.getD k 0) p) := hide rfl
      have f3 := fun W => F3.out (zs.getD k 0) W
      generalize zs.getD k 0 = b at *
      generalize totN L p zs k = t at *
      generalize gainZ L b p = gz at *
      obtain ⟨z, hzz⟩ : ∃ z : Int, 9223372036854775807 - t = z := ⟨_, rfl⟩
      have hkN : (k : Int) * 1099511627776 ≤ 43980465111040 := by have := HN.out; omega
      have e1 : wrap64 (9223372036854775807 - t) = z := by rw [hzz]; unfold wrap64; omega
      have hm : gz ≤ z := by omega
      have e2 : wrap64 (t + gz) = t + gz := by unfold wrap64; omega
      have Hlt := hide hlt
      have F2' := hide f2
      have F3' := hide f3
      clear f2 f3 hT hG hkN hkl hzz hlt
      go_wp2_with fail
      (go_at_fn 21; refine F2'.out.mono ?_; rintro e w2 ⟨rfl, hk, hg⟩)
      have HK2 := hide hk
      have HB2 := hide (HB.out.trans (below_row hg (Nat.le_succ _) HB.out.size))
      clear hk hg F2'
      go_wp2_with fail
      (with_reducible refine (F3'.out _).mono ?_)
      rintro e w3 ⟨rfl, rfl⟩
      go_wp2
      have hmz : min gz z = gz := by omega
      refine ⟨⟨k + 1, Hlt.out, congrArg (Value.int .i64) e7, by rw [hmz, e2, HNX.out], HK2, HB2⟩, ?_⟩
      rw [e7]
      exact measU Hlt.out
    · obtain rfl : k = n := by omega
      go_wp2
      go_ret
      exact ⟨rfl, HB.out⟩
set_option maxHeartbeats 4000000 in
/-- slices.MinFunc by the comparing function that keeps what it told. -/
theorem min_cmp (A : Option Addr) (c B : Nat) (zs : List Int) (L : List Pl2) (q : Nat) (w : World) (h : Lies w B A (nums .i64 zs)) (hB : B ≤ q) (h0 : 0 < zs.length) (hk : Ka L zs q w) (he : Env L zs) :
    Calls Try.prog 16 #[.slice A zs.length c, .func (.func 23) #[] #[.pointer (some ⟨q + 3, 0, none⟩)]] w fun e w' => e = .returned (.int .i64 (bstZ (ltV L) zs)) ∧ Ka L zs q w' ∧ Below q w w' := by
  have eg := egV
  have hmem : ∀ k, k < zs.length → zs.getD k 0 ∈ zs := fun k hk => by rw [List.getD, List.getElem?_eq_getElem hk]; exact List.getElem_mem hk
  have HP := hide (fun k (hk : k < zs.length) m (hm : m ∈ zs) W (h : Ka L zs q W) => cmp1_any L zs q (zs.getD k 0) m W h (hmem k hk) hm (he.ok _ (hmem k hk)) (he.ok _ hm) he.l he.s)
  have HM := hide (fun k (hk : k < zs.length) => pickZ_mem (p := ltV L) (l := zs) k hk)
  have Hl := hide h
  have HBq := hide hB
  have HK := hide hk
  have Hs := hide he.s
  obtain ⟨a0, ha0, _, hc0⟩ := h.num (i := 0) (by omega)
  subst ha0
  have hc00 : w.cell? a0 = some (.int .i64 (zs.getD 0 0)) := by simpa [Addr.add] using hc0
  obtain ⟨R, hR⟩ : ∃ R, bstZ (ltV L) zs = R := ⟨_, rfl⟩
  rw [hR]
  have S0 : Hid (pickZ (ltV L) zs 0 = zs.getD 0 0) := hide rfl
  generalize zs.getD 0 0 = u0 at *
  obtain ⟨n, hn⟩ : ∃ n, zs.length = n := ⟨_, rfl⟩
  have HR : Hid (pickZ (ltV L) zs (n - 1) = R) := hide (by rw [← hR, ← hn]; rfl)
  have Hn := hide hn
  rw [hn] at h0 ⊢
  have H0 := hide h0
  have g0 : decide ((n : Int) < 1) = false := decide_eq_false (by omega)
  clear h hB h0 hk he hR hn hmem
  go_enter Try.func16, Try.ntmps16
  go_wp2
  go_loopw [5, 6] (fun m i wr => ∃ k : Nat, k < n ∧ m = .int .i64 (pickZ (ltV L) zs k) ∧ i = .int .i64 ((k + 1 : Nat) : Int) ∧ Hid (Ka L zs q wr) ∧ Hid (Below q w wr)) (fun _ i _ => n - (RowKit.intOf i).toNat)
  case atStart => exact ⟨0, H0.out, congrArg (Value.int .i64) S0.out.symm, rfl, HK, hide (Below.refl _ w)⟩
  case round =>
    clear S0 hc0 hc00 HK
    obtain ⟨k, hk, rfl, rfl, HK, Hbw⟩ := hrel
    by_cases hlt : k + 1 < n
    · have hlt' : ((k + 1 : Nat) : Int) < (n : Int) := by omega
      have hkl : k + 1 < zs.length := by rw [Hn.out]; exact hlt
      have e7 : wrap64 (((k + 1 : Nat) : Int) + 1) = ((k + 1 + 1 : Nat) : Int) := by have := Hs.out; have := Hn.out; unfold wrap64; omega
      have Hnx : Hid (pickZ (ltV L) zs (k + 1) = if ltV L (zs.getD (k + 1) 0) (pickZ (ltV L) zs k) = true then zs.getD (k + 1) 0 else pickZ (ltV L) zs k) := hide rfl
      obtain ⟨a, ha, hab, hca⟩ := (Hl.out.below (Hbw.out.mono HBq.out)).num (i := k + 1) hkl
      obtain rfl : a0 = a := by injection ha
      have Hab := hide hab
      have hcall := HP.out (k + 1) hkl _ (HM.out k (by omega)) wr HK.out
      have hl := cf_lt L (zs.getD (k + 1) 0) (pickZ (ltV L) zs k)
      generalize zs.getD (k + 1) 0 = x at *
      generalize pickZ (ltV L) zs k = m at *
      obtain ⟨z, hz⟩ : ∃ z, cfV L x m = z := ⟨_, rfl⟩
      rw [hz] at hcall hl
      rw [← hl] at Hnx
      generalize hKK : k + 1 = K at *
      clear hkl hz hl hab hKK ha hk
      by_cases hneg : z < 0
      · have gz : decide (z < 0) = true := decide_eq_true hneg
        have Hm : Hid (pickZ (ltV L) zs K = x) := hide (by rw [Hnx.out, if_pos gz])
        clear Hnx hneg
        go_wp2_with fail
        (go_at_fn 23; refine hcall.mono ?_; rintro e w2 ⟨rfl, hk2, hg⟩)
        have hb := below_row hg (Nat.le_succ q) (Nat.le_of_lt (Nat.lt_of_le_of_lt (Nat.le_add_right q 3) HK.out.lt))
        have HW := hide (Hbw.out.trans hb)
        have HK2 := hide hk2
        have hca2 : w2.cell? (a0.add K) = some (.int .i64 x) := (hb.cell (by rw [Addr.add_block21]; exact Nat.lt_of_lt_of_le Hab.out HBq.out)).trans hca
        clear hcall hb hca Hbw HK hk2 hg
        go_wp2
        go_roundw
        case rel => exact ⟨K, hlt, congrArg (Value.int .i64) Hm.out.symm, congrArg (Value.int .i64) e7, HK2, HW⟩
        case measure => first | exact measU hlt | (rw [e7]; exact measU hlt)
      · have gz : decide (z < 0) = false := decide_eq_false hneg
        have Hm : Hid (pickZ (ltV L) zs K = m) := hide (by rw [Hnx.out, if_neg (by rw [gz]; decide)])
        clear Hnx hneg
        go_wp2_with (first | (go_at_fn 23; refine hcall.mono ?_; rintro e w2 ⟨rfl, hk2, hg⟩))
        have hb := below_row hg (Nat.le_succ q) (Nat.le_of_lt (Nat.lt_of_le_of_lt (Nat.le_add_right q 3) HK.out.lt))
        have HW := hide (Hbw.out.trans hb)
        have HK2 := hide hk2
        clear hb hg hk2
        go_roundw
        case rel => exact ⟨K, hlt, congrArg (Value.int .i64) Hm.out.symm, congrArg (Value.int .i64) e7, HK2, HW⟩
        case measure => first | exact measU hlt | (rw [e7]; exact measU hlt)
    · have hlt' : ¬ ((k + 1 : Nat) : Int) < (n : Int) := by omega
      have hk2 : pickZ (ltV L) zs k = R := by rw [← HR.out, show n - 1 = k by omega]
      rw [hk2]
      go_wp2
      go_ret
      exact ⟨rfl, HK.out, Hbw.out⟩
set_option maxHeartbeats 4000000 in
theorem pick_any (A B : Option Addr) (c d : Nat) (zs : List Int) (L : List Pl2) (p : Int) (w : World) (hz : Lies w w.heap.size A (nums .i64 zs)) (hl : Lies w w.heap.size B (rowQ L)) (he : Env L zs) :
    Calls Try.prog 7 #[.slice A zs.length c, .slice B L.length d, .int .i64 p] w fun e w' => e = .returned (.tuple #[.int .i64 (ansP L p zs).1, .bool (ansP L p zs).2]) ∧ Below w.heap.size w w' := by
  by_cases h0 : zs.length = 0
  · have hzs : zs = [] := List.eq_nil_of_length_eq_zero h0
    rw [show ansP L p zs = (0, false) by unfold ansP; rw [if_pos hzs], h0]
    clear hz hl he h0 hzs
    go_enter Try.func7, Try.ntmps7
    go_wp2
    refine bodyPost_ret (results_tmp2 rfl _ _ _) rfl ?_
    exact ⟨rfl, Below.refl _ _⟩
  · have eg := egK
    have hne : zs ≠ [] := fun e => h0 (by rw [e]; rfl)
    have F1 := hide (keeper_any B d L zs w hl)
    have hpos : 0 < zs.length := by omega
    have hb : bstZ (ltV L) zs ∈ zs := pickZ_mem _ (by omega)
    have F4 := hide (fun W (h : Kp L zs w.heap.size W) => keep1_any L zs w.heap.size (bstZ (ltV L) zs) W h hb (he.ok _ hb) he.l he.s)
    have FM := hide (fun W (h : Lies W w.heap.size A (nums .i64 zs)) (hk : Ka L zs w.heap.size W) => min_cmp A c w.heap.size zs L w.heap.size W h (Nat.le_refl _) hpos hk he)
    have HZ := hide hz
    have HA : Hid (ansP L p zs = if (cntB (bstZ (ltV L) zs) L : Int) < p then (bstZ (ltV L) zs, true) else (0, false)) := hide (by unfold ansP; rw [if_neg hne])
    have HQ := hide hpos
    generalize bstZ (ltV L) zs = b at *
    obtain ⟨n, hn⟩ : ∃ n, zs.length = n := ⟨_, rfl⟩
    have g0 : ((n : Int) == 0) = false := beq_eq_false_iff_ne.2 (by omega)
    rw [hn] at FM
    rw [hn]
    obtain ⟨X, hX⟩ : ∃ X, (ansP L p zs).1 = X := ⟨_, rfl⟩
    obtain ⟨Y, hY⟩ : ∃ Y, (ansP L p zs).2 = Y := ⟨_, rfl⟩
    rw [hX, hY]
    have HX : Hid (((cntB b L : Int) < p → b = X ∧ true = Y) ∧ (¬ (cntB b L : Int) < p → 0 = X ∧ false = Y)) := hide (by
      rw [← hX, ← hY, HA.out]
      exact ⟨fun h => by rw [if_pos h]; exact ⟨rfl, rfl⟩, fun h => by rw [if_neg h]; exact ⟨rfl, rfl⟩⟩)
    clear hz hl he h0 hne hpos hb hn hX hY HA
    go_enter Try.func7, Try.ntmps7
    go_wp2_with fail
    (with_reducible refine F1.out.mono ?_)
    rintro e w1 ⟨rfl, hk, hb, hs⟩
    have HB := hide hb
    have HS := hide hs
    have F2 := hide (ahead_any L zs w.heap.size w1 hk hs)
    clear hk hb hs F1
    go_wp2_with fail
    (with_reducible refine F2.out.mono ?_)
    rintro e w2 ⟨rfl, hk, hb⟩
    have HB2 := hide (HB.out.trans (hb.mono (by rw [HS.out]; omega)))
    have HK2 := hide hk
    have F3 := hide (FM.out w2 (HZ.out.below HB2.out) hk)
    clear hk hb F2 HB FM
    go_wp2_with fail
    (with_reducible refine F3.out.mono ?_)
    rintro e w3 ⟨rfl, hk, hb⟩
    have HB3 := hide (HB2.out.trans hb)
    have F5 := hide (F4.out w3 hk.kp)
    have H3 := hide hk.lt
    clear hk hb F3 HB2 F4
    go_wp2_with fail
    (go_at_fn 21; refine F5.out.mono ?_; rintro e w4 ⟨rfl, hk, hg⟩)
    have HB4 := hide (HB3.out.trans (below_row hg (Nat.le_succ _) (Nat.le_of_lt (Nat.lt_of_le_of_lt (Nat.le_add_right _ 3) H3.out))))
    clear hk hg F5
    by_cases hc : (cntB b L : Int) < p
    · have HX2 := hide (HX.out.1 (by omega))
      have g1 : decide (p ≤ (cntB b L : Int)) = false := decide_eq_false (by omega)
      clear hc HX
      go_wp2
      refine bodyPost_ret (results_tmp2 rfl _ _ _) rfl ?_
      obtain ⟨rfl, rfl⟩ := HX2.out
      exact ⟨rfl, HB4.out⟩
    · have HX2 := hide (HX.out.2 (by omega))
      have g1 : decide (p ≤ (cntB b L : Int)) = true := decide_eq_true (by omega)
      clear hc HX
      go_wp2
      refine bodyPost_ret (results_tmp2 rfl _ _ _) rfl ?_
      obtain ⟨rfl, rfl⟩ := HX2.out
      exact ⟨rfl, HB4.out⟩
end Vc
end Go.Proofs.Ytabancgcokcfdaa
