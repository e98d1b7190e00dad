/-
  LAYER 20, CONTRACT: Choose.
-/
import Derived.Test.YtofokljhlcdebaaPkJ
namespace Go.Proofs.Ytofokljhlcdebaa
open Go.RowKit
set_option maxRecDepth 8000

theorem headP_mem {q : Cq} (h : 0 < q.ps.length) : headP q ∈ q.ps := by
  unfold headP
  cases hq : q.ps with
  | nil => rw [hq] at h; exact absurd h (by simp)
  | cons p r => simp
theorem row_addr {W : World} {base n : Nat} {t : TypeId} {s : Nat} {A : Option Addr} {c m : Nat} {xs : List Value} (h : W.ownsRow base t s (.slice A m c) n xs) : n = 0 ∨ ∃ g, A = some ⟨g, 0, none⟩ ∧ base ≤ g ∧ g < W.heap.size := by
  have hlow := own_lowS h
  rcases h.2 with ⟨_, h0⟩ | ⟨g, cap, cur, hv, hb, hg, _⟩
  · exact .inl h0
  · injection hv with e1 _ _
    exact .inr ⟨g, e1, hb, (Array.getElem?_eq_some_iff.1 hg).1⟩
set_option maxHeartbeats 8000000 in
theorem choose_any (A A2 : Option Addr) (n c n2 c2 : Nat) (l0 : List Cq) (bad : List Int) (w : World) (hl : Vq w w.heap.size A l0) (hb : Lies w w.heap.size A2 (nums .i64 bad)) (hn : n = l0.length) (hn2 : n2 = bad.length) (hbig : n ≤ 100) (hbig2 : n2 ≤ 100) (hps : ∀ q ∈ l0, q.ps.length ≤ 1000 ∧ ∀ p ∈ q.ps, Ok64 p.1) :
    Calls Try.prog 17 #[.slice A n c, .slice A2 n2 c2] w fun e w' => ∃ (A3 : Option Addr) (c3 : Nat) (Bl : List Int), e = .returned (.slice A3 (l0.filter hasPl).length c3) ∧ IsBl Bl ((l0.filter hasPl).map headP) ∧ Lies w' w'.heap.size A3 (rowQ (runP (plsC (l0.filter hasPl)) bad Bl ((l0.filter hasPl).map headP))) ∧ Below w.heap.size w w' := by
  have F1 := hide (placed_any A n c w.heap.size l0 w hl (Nat.le_refl _) hn (by omega))
  obtain ⟨l, hlf⟩ : ∃ l, l0.filter hasPl = l := ⟨_, rfl⟩
  have hlen : l.length ≤ 100 := by rw [← hlf]; exact Nat.le_trans (List.length_filter_le _ _) (by omega)
  have hne : ∀ q ∈ l, 0 < q.ps.length := fun q hq => by
    rw [← hlf, List.mem_filter] at hq
    exact of_decide_eq_true hq.2
  have hps2 : ∀ q ∈ l, q.ps.length ≤ 1000 ∧ ∀ p ∈ q.ps, Ok64 p.1 := fun q hq => by
    rw [← hlf, List.mem_filter] at hq
    exact hps q hq.1
  rw [hlf] at F1 ⊢
  have Hlen := hide hlen
  have Hne := hide hne
  have Hps := hide hps2
  have HB2 := hide hb
  have Hn2 := hide hn2
  have Hbig2 := hide hbig2
  have Hok0 : Hid (∀ q ∈ l.map headP, Ok64 q.1) := hide (fun p hp => by
    obtain ⟨q, hq, rfl⟩ := List.mem_map.1 hp
    exact (hps2 q hq).2 _ (headP_mem (hne q hq)))
  obtain ⟨L0, hL0⟩ : ∃ L0, l.map headP = L0 := ⟨_, rfl⟩
  have HL0 := hide (show L0.length = l.length by rw [← hL0, List.length_map])
  clear hl hb hn hn2 hbig hbig2 hps hlf hlen hne hps2
  rw [hL0] at Hok0 ⊢
  go_enter Try.func17, Try.ntmps17
  go_wp2
  try go_step3
  go_wp2_with fail
  (with_reducible refine F1.out.mono ?_)
  rintro e w1 ⟨A1, c1, rfl, hq1, hb1⟩
  have HQ1 := hide hq1
  have HW1 := hide hb1
  have F2 := newest_any A1 l.length c1 w1.heap.size l w1 hq1 (Nat.le_refl _) rfl (by have := Hlen.out; omega) Hne.out
  rw [hL0] at F2
  have F2 := hide F2
  clear F1 hq1 hb1 hL0
  go_wp2_with fail
  (with_reducible refine F2.out.mono ?_)
  rintro e w2 ⟨vC, rfl, hown, hb2⟩
  have HO2 := hide hown
  have HW2 := hide hb2
  obtain ⟨AC, cC, hvC, _, _⟩ := own_form hown
  subst hvC
  have F3 := hide (users_any AC l.length cC w2.heap.size L0 w2 (Lies.of_own hown) (Nat.le_refl _) HL0.out.symm (by have := Hlen.out; omega) Hok0.out)
  clear F2 hown hb2
  go_wp2_with fail
  (with_reducible refine F3.out.mono ?_)
  rintro e w3 ⟨bm, D, V, rfl, hU⟩
  have HU := hide hU
  have F4 := hide (among_any A2 n2 c2 bad w3 (((HB2.out.below (HW1.out.trans ((HW2.out.trans (hU.below.mono HW2.out.size)).mono HW1.out.size)))).up (Nat.le_trans HW1.out.size (Nat.le_trans HW2.out.size hU.below.size))) Hn2.out (by have := Hbig2.out; omega))
  clear F3 hU
  go_wp2_with fail
  (with_reducible refine F4.out.mono ?_)
  rintro e w4 ⟨qb, rfl, ham, hqb, hb4⟩
  have HA4 := hide (And.intro ham (And.intro hqb hb4))
  clear F4 ham hqb hb4
  go_wp2_with fail
  (with_reducible refine (mover_any A1 l.length c1 bm qb w4).mono ?_)
  rintro e w5 ⟨rfl, hw5⟩
  have H5 : Hid (Below w4.heap.size w4 w5 ∧ w5.heap[w4.heap.size]? = some (.cells #[.slice A1 l.length c1] 37 (0, 0)) ∧ w5.heap[w4.heap.size + 1]? = some (.cells #[.map (some bm)] 73 (0, 0)) ∧ w5.heap[w4.heap.size + 2]? = some (.cells #[.func (.func 64) #[] #[.pointer (some ⟨qb, 0, none⟩)]] 77 (0, 0))) := hide (by
    rw [hw5]
    have a1 := heap_alloc_new w4 (.cells #[.slice A1 l.length c1] 37)
    have a2 := heap_alloc_new (w4.alloc (.cells #[.slice A1 l.length c1] 37)) (.cells #[.map (some bm)] 73)
    have a3 := heap_alloc_new ((w4.alloc (.cells #[.slice A1 l.length c1] 37)).alloc (.cells #[.map (some bm)] 73)) (.cells #[.func (.func 64) #[] #[.pointer (some ⟨qb, 0, none⟩)]] 77)
    have s1 : (w4.alloc (.cells #[.slice A1 l.length c1] 37)).heap.size = w4.heap.size + 1 := by simp
    have s2 : ((w4.alloc (.cells #[.slice A1 l.length c1] 37)).alloc (.cells #[.map (some bm)] 73)).heap.size = w4.heap.size + 2 := by simp
    rw [s1] at a2
    rw [s2] at a3
    refine ⟨((Below.refl _ w4).alloc (Nat.le_refl _) _).alloc (by simp) _ |>.alloc (by simp <;> omega) _, ?_, ?_, a3⟩
    · exact (Below.heap_alloc _ _ _ (by simp <;> omega)).trans ((Below.heap_alloc _ _ _ (by simp)).trans a1)
    · exact (Below.heap_alloc _ _ _ (by simp <;> omega)).trans a2)
  clear hw5
  have HO5 := hide (own_keepT (own_keepT (own_keepT HO2.out (show Below w2.heap.size w2 w3 from HU.out.below)) HA4.out.2.2) H5.out.1)
  have F6 := hide (used_any AC l.length cC w5.heap.size L0 w5 (Lies.of_own HO5.out) (Nat.le_refl _) HL0.out.symm (by have := Hlen.out; omega) Hok0.out)
  go_wp2_with fail
  (with_reducible refine F6.out.mono ?_)
  rintro e w6 ⟨A6, c6, Bl, rfl, hc6, hBl, hBn, hrow6, hb6⟩
  have Hc6 := hide hc6
  have HBl := hide hBl
  have HBn := hide hBn
  have HR6 := hide hrow6
  have HW6 := hide hb6
  clear F6 hc6 hBl hBn hrow6 hb6
  obtain ⟨R, hR⟩ : ∃ R, runP (plsC l) bad Bl L0 = R := ⟨_, rfl⟩
  obtain ⟨g, hg⟩ : ∃ g, (l.length = 0 ∨ AC = some ⟨g, 0, none⟩) ∧ w1.heap.size ≤ g ∧ g < w3.heap.size := by
    have s1 := HU.out.lo
    have s2 := HU.out.us.hi
    have s3 := HW2.out.size
    have s4 := HU.out.below.size
    rcases row_addr HO2.out with h | ⟨g, e, h1, h2⟩
    · exact ⟨bm, .inl h, by omega, s2⟩
    · exact ⟨g, .inr e, h1, by omega⟩
  have HS : Hid (Cs w w6 l bad Bl AC cC w1.heap.size g bm V w1.heap.size w3.heap.size w5.heap.size qb w4.heap.size (w4.heap.size + 1) (w4.heap.size + 2) A1 c1) := hide (by
    have s1 := HW1.out.size
    have s2 := HW2.out.size
    have s3 := HU.out.below.size
    have s4 := HA4.out.2.2.size
    have s5 := H5.out.1.size
    have s6 := HW6.out.size
    have b13 : Below w1.heap.size w1 w3 := HW2.out.trans (HU.out.below.mono s2)
    have b36 : Below w3.heap.size w3 w6 := HA4.out.2.2.trans ((H5.out.1.trans (HW6.out.mono s5)).mono s4)
    have b16 : Below w1.heap.size w1 w6 := b13.trans (b36.mono (Nat.le_trans s2 s3))
    have k46 : ∀ j, j < w5.heap.size → w6.heap[j]? = w5.heap[j]? := fun j hj => HW6.out.block j hj
    refine ⟨HW1.out.trans (b16.mono s1), ⟨s1, hg.2.1, Nat.le_trans s2 HU.out.lo, by omega⟩, fun x g' e => ?_, ⟨hg.2.2, HU.out.us.hi, by omega, by omega⟩, HQ1.out.below b16, ?_, ⟨HA4.out.2.1, by omega, by omega, by omega⟩, ?_, ?_, ?_, hg.1⟩
    · have h := own_lowS (HU.out.us.own x) g' e
      exact ⟨by have := HU.out.lo; omega, h.2⟩
    · exact (HA4.out.1.below H5.out.1 HA4.out.1.lt).below HW6.out (Nat.lt_of_lt_of_le HA4.out.1.lt s5)
    · exact (k46 _ (Array.getElem?_eq_some_iff.1 H5.out.2.1).1).trans H5.out.2.1
    · exact (k46 _ (Array.getElem?_eq_some_iff.1 H5.out.2.2.1).1).trans H5.out.2.2.1
    · exact (k46 _ (Array.getElem?_eq_some_iff.1 H5.out.2.2.2).1).trans H5.out.2.2.2)
  have HC0 : Hid (Cw w w6 l bad Bl R AC cC w1.heap.size g bm V w5.heap.size 0 A6 L0 l.length D V (idxF L0) w6) := hide (by
    have b36 : Below w3.heap.size w3 w6 := HA4.out.2.2.trans ((H5.out.1.trans (HW6.out.mono H5.out.1.size)).mono HA4.out.2.2.size)
    have hus := HU.out.us
    rw [show L0.take l.length = L0 from List.take_of_length_le (by rw [HL0.out]; exact Nat.le_refl _)] at hus
    exact ⟨own_keepT HO5.out HW6.out, hus.later b36, idxF_uses L0, Tq.refl _ _, fun x g' e => .inl ⟨x, e⟩, hR, HL0.out, by have := Hlen.out; omega, HR6.out⟩)
  clear HQ1 HW1 HO2 HW2 HU HA4 H5 HO5 HW6 HR6 HB2 hg
  generalize w4.heap.size = q3 at *
  generalize w5.heap.size = B5 at *
  generalize w1.heap.size = B0 at *
  generalize w3.heap.size = lo at *
  have HRR := hide hR
  clear hR
  have eg : ∀ args w, (callFunc 60 args).run Try.prog w = .ok (.enter 60 args) w := enters_of Try.func60 (by kernel_rfl) rfl
  have HBs := hide (show Bl.length ≤ 100 by have := HBn.out; have := Hlen.out; omega)
  have Hokb := hide (show ∀ b ∈ Bl, Ok64 b from fun b hbm => by
    obtain ⟨q, hq, rfl⟩ := List.mem_map.1 ((HBl.out.2 b).1 hbm)
    exact Hok0.out q hq)
  have HokP := hide (show ∀ ps ∈ plsC l, ∀ p ∈ ps, Ok64 p.1 from fun ps hp => by
    obtain ⟨q, hq, rfl⟩ := List.mem_map.1 hp
    exact (Hps.out q hq).2)
  go_wp2
  go_step3
  go_wp2
  go_loopg [8] Bl.length (fun g1 bl wr => ∃ (d : Nat) (Ad : Option Addr) (cd : Nat), d + g1 = Bl.length ∧ bl = .slice Ad g1 cd ∧ Hid (g1 ≤ cd) ∧ ∃ Lc nn D V9 F, Hid (Cw w w6 l bad Bl R AC cC B0 g bm V B5 d Ad Lc nn D V9 F wr))
  case atStart => exact ⟨0, A6, c6, Nat.zero_add _, rfl, Hc6, L0, l.length, D, V, _, HC0⟩
  case round =>
    clear HC0
    obtain ⟨d, Ad, cd, hdm, rfl, Hcd, Lc, nn, D9, V9, F, HC⟩ := hrel
    have Hdm := hide hdm
    clear hdm
    obtain ⟨m, hm⟩ : ∃ m, m = gk := ⟨_, rfl⟩
    subst hm
    go_wp2
    go_loopg [8, 28] m (fun g2 bl i wy => bl = .slice Ad m cd ∧ ∃ i' : Nat, i' + g2 = m ∧ i = .int .i64 (i' : Int) ∧ Hid (Cw w w6 l bad Bl R AC cC B0 g bm V B5 d Ad Lc nn D9 V9 F wy) ∧ Hid (runP (plsC l) bad (Bl.drop (d + i')) Lc = R))
    case atStart => exact ⟨rfl, 0, Nat.zero_add _, rfl, HC, hide HC.out.run⟩
    case round =>
      obtain ⟨rfl, i, hig, rfl, HU, HRn⟩ := hrel
      clear HC
      have Hig := hide hig
      cases gk with
      | zero =>
        obtain rfl : i = m := by omega
        have hLR : Lc = R := by
          have h := HRn.out
          rw [List.drop_eq_nil_of_le (by rw [Hdm.out]; exact Nat.le_refl _)] at h
          exact h
        have HLR := hide hLR
        clear hig hLR
        go_wp2
        try rw [Exit.noGoto_ret]
        go_ret
        exact ⟨AC, cC, Bl, rfl, HBl.out, by rw [HRR.out, ← HLR.out]; exact Lies.of_own HU.out.own, HU.out.done HS.out⟩
      | succ g2 =>
        have hlt : i < m := by omega
        have hlt' : (i : Int) < (m : Int) := by omega
        have e7 : wrap64 ((i : Int) + 1) = ((i + 1 : Nat) : Int) := by have := HBs.out; have := Hdm.out; unfold wrap64; omega
        have hdi : d + i < Bl.length := by have := Hdm.out; omega
        have hil : i < (Bl.drop d).length := by rw [List.length_drop]; omega
        obtain ⟨ab, rfl, _, hca⟩ := HU.out.bls.lies.num hil
        obtain ⟨b, hbe⟩ : ∃ b, Bl[d + i] = b := ⟨_, rfl⟩
        have Hbi : Hid (Bl[d + i]? = some b) := hide (by rw [List.getElem?_eq_getElem hdi, hbe])
        have hgd : (Bl.drop d).getD i 0 = b := by simp [List.getD, List.getElem?_drop, List.getElem?_eq_getElem hdi, hbe]
        rw [hgd] at hca
        have Hb := hide (Hokb.out b (by rw [← hbe]; exact List.getElem_mem hdi))
        have Hpos : Hid (l.length ≠ 0) := hide (fun h0 => by have := HBn.out; omega)
        have FM := hide (move1_any (HU.out.mq HS.out) (HU.out.m3 HS.out) (HU.out.vq HS.out) rfl HU.out.len (by have := Hlen.out; omega) Hb.out Hps.out)
        have Hdi := hide hdi
        have Hlt := hide hlt
        have E7 := hide e7
        obtain ⟨cn, hcn⟩ : ∃ cn, canP (plsC l) bad Lc b = cn := ⟨_, rfl⟩
        have FM2 := FM.out
        rw [hcn] at FM2
        have Hcn := hide hcn
        clear hig hgd hbe hil hdi hcn FM hlt
        go_wp2_with fail
        go_at_fn 60
        refine FM2.mono ?_
        rintro e w8 ⟨At, mt, ct, rfl, hcan, hb8⟩
        have HU8 := hide (HU.out.later hb8)
        have Hcan := hide hcan
        have Hb8 := hide hb8
        clear hcan hb8 FM2 hca
        cases cn with
        | false =>
          have HR2 := hide (HU.out.skip HRn.out Hbi.out Hcn.out)
          clear HU HRn
          go_wp2
          go_roundg g2
          case measure => omega
          case rel => exact ⟨rfl, i + 1, by have := Hig.out; omega, congrArg (Value.int .i64) E7.out, HU8, HR2⟩
        | true =>
          obtain ⟨hmt, hto⟩ := Hcan.out rfl
          have hAC : AC = some ⟨g, 0, none⟩ := by
            rcases HS.out.ac with h | h
            · exact absurd h Hpos.out
            · exact h
          subst hAC
          have hown8 := HU8.out.own
          have hrow8 := row_addr HU.out.own
          have hg8 : g < wr.heap.size := by
            rcases hrow8 with h | ⟨g', e, _, h⟩
            · exact absurd h Hpos.out
            · injection e with e; injection e with e; omega
          have FF := hide (free_any (vs := plsC l) (n0 := nn) (lo := wr.heap.size) (c2 := ct) hown8 HU8.out.us HU8.out.uses HU8.out.len (by unfold plsC; rw [List.length_map]; exact HU8.out.len) Hcn.out hmt hto hg8 HU.out.us.hi (fun x g' e => (own_lowS (HU.out.us.own x) g' e).2) (by have := Hlen.out; omega) (by have := HU.out.few; have := HBs.out; have := Hdi.out; omega) Hb.out HokP.out)
          have Hmt := hide (show mt ≤ 1000 by rw [hmt]; have := HU.out.uses.le b; have := HU.out.len; have := Hlen.out; omega)
          have Him := hide (show i + 1 ≤ m from Hlt.out)
          clear hmt hto hown8 hrow8 hg8 Hcan
          go_upto_region 12 with (go_at_call 45; refine FF.out.mono ?_; rintro e w9 ⟨rfl, D', V', F', hfp, hfu⟩; have HFP := hide hfp; have HFU := hide hfu; clear hfp hfu)
          go_wp2_with (refine wpl_slice_b rfl 44 3 (.tmp 45) (.tmp 47) rfl (some ab) m cd (i + 1) 1 rfl (by first | rfl | exact congrArg (Value.int .i64) E7.out) Him.out Hcd.out (by kernel_rfl) (by kernel_rfl) (by kernel_rfl) ?_; intro A9 hl9; have HL9 := hide hl9; clear hl9)
          have HZ := hide (HU8.out.next (A6 := A9) HRn.out Hbi.out Hcn.out rfl HFP.out HFU.out (by have := Hmt.out; omega) HS.out (by rw [show Bl.length - d = m by have := Hdm.out; omega]; exact HL9.out) Hdi.out)
          go_roundg (m - (i + 1))
          case measure => have := Him.out; omega
          case rel => exact ⟨d + i + 1, A9, cd - (i + 1), by have := Hdm.out; have := Him.out; omega, rfl, hide (by have := Hcd.out; omega), _, _, _, _, _, HZ⟩
end Go.Proofs.Ytofokljhlcdebaa
