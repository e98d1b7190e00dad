/-
  CONTRACT of wagtailref17.Read of a page that may hold a table: the walk.
-/
import Derived.Test.YtigpplckddnghaaGreatMrS
namespace Go.Proofs.YtigpplckddnghaaGreat
open Go.RowKit
set_option maxRecDepth 8000

theorem headOf_batch (b : List UInt8) : (headOf b).batch < 18446744073709551616 := by
  have := numAt_lt b 4 8
  exact this
set_option maxHeartbeats 8000000 in
theorem rread17_on (b : List UInt8) (w : World) (hsm : b.length ≤ 1000) (hr : rightB b = true) (hk : (headOf b).kind = 1) (hd : 74 ≤ (dataOf b).length) : Calls Tryz.prog 85 #[.string (str b)] w (RefEnd w b) := by
  have hb1 := (Below.refl w.heap.size w).alloc (Nat.le_refl _) (.cells zeroTl.cells.toArray 26)
  have hz1 := BoxT.new zeroTl w
  have F := hide (get15_any b (w.alloc (.cells zeroTl.cells.toArray 26)) (by omega))
  have HB1 := hide hb1
  have HZ1 := hide hz1
  have eg : get15 b = (headOf b, dataOf b) := by unfold get15; rw [if_pos hr]
  rw [show zeroTl.cells.toArray = #[.int .u64 0, .slice none 0 0, .slice none 0 0, .slice none 0 0] from rfl] at HB1 HZ1 F
  rw [eg, hr] at F
  dsimp only at F
  have Hlen := hide (show (dataOf b).length ≤ 1000 by unfold dataOf; rw [List.length_take, List.length_drop]; omega)
  have HbL := hide hsm
  have HE : Hid (RefTab b ↔ (readR (headOf b) (dataOf b)).May ∧ (readR (headOf b) (dataOf b)).page = b) := hide ⟨fun h => ⟨h.2.2.2.1, h.2.2.2.2⟩, fun h => ⟨hr, hk, hd, h.1, h.2⟩⟩
  have Hbt := hide (headOf_batch b)
  clear hb1 hz1 eg hr hsm
  unfold RefEnd
  generalize hh : headOf b = h at *
  generalize hdd : dataOf b = d at *
  clear hh hdd
  rw [show h.val = .agg #[.int .i64 h.kind, .int .i64 h.index, .int .i64 h.count, .int .u64 (h.batch : Int), .int .u64 (h.opn : Int), .int .i64 h.lpn, .int .i64 h.len] from rfl, hk] at F
  have Hk := hide hk
  have Hd := hide hd
  clear hk
  go_enter Tryz.func85, Tryz.ntmps85
  go_wp2_with fail
  (with_reducible refine F.out.mono ?_)
  rintro e w2 ⟨rfl, hb⟩
  have hb3 := (Below.refl w2.heap.size w2).alloc (Nat.le_refl _) (.cells #[.int .i64 1, .int .i64 h.index, .int .i64 h.count, .int .u64 (h.batch : Int), .int .u64 (h.opn : Int), .int .i64 h.lpn, .int .i64 h.len] 108)
  have HB3 := hide ((HB1.out.trans (hb.mono HB1.out.size)).trans (hb3.mono (Nat.le_trans HB1.out.size hb.size)))
  have HZ3 := hide ((HZ1.out.below hb HZ1.out.lt).below hb3 (Nat.lt_of_lt_of_le HZ1.out.lt hb.size))
  have HH3 : Hid (BoxH h w2.heap.size (w2.alloc (.cells #[.int .i64 1, .int .i64 h.index, .int .i64 h.count, .int .u64 (h.batch : Int), .int .u64 (h.opn : Int), .int .i64 h.lpn, .int .i64 h.len] 108))) := hide (by
    have := BoxH.new h w2
    rwa [show h.cells.toArray = #[.int .i64 1, .int .i64 h.index, .int .i64 h.count, .int .u64 (h.batch : Int), .int .u64 (h.opn : Int), .int .i64 h.lpn, .int .i64 h.len] from by rw [← Hk.out]; rfl] at this)
  have Hpos := hide (show w.heap.size < w2.heap.size from Nat.lt_of_lt_of_le HZ1.out.lt hb.size)
  clear hb hb3 F HB1 HZ1
  go_upto_region 2 with fail
  have hs3 : (w2.alloc (.cells #[.int .i64 1, .int .i64 h.index, .int .i64 h.count, .int .u64 (h.batch : Int), .int .u64 (h.opn : Int), .int .i64 h.lpn, .int .i64 h.len] 108)).heap.size = w2.heap.size + 1 := by simp
  generalize w2.alloc (.cells #[.int .i64 1, .int .i64 h.index, .int .i64 h.count, .int .u64 (h.batch : Int), .int .u64 (h.opn : Int), .int .i64 h.lpn, .int .i64 h.len] 108) = w3 at *
  generalize w2.heap.size = kh at *
  have Hs3 := hide (show kh < w3.heap.size by omega)
  clear hs3
  have c0 := HH3.out.c 0 (.int .i64 1) (by rw [← Hk.out]; rfl)
  have c3 := HH3.out.c 3 _ rfl
  have hsz := str_size d
  have hd' : ¬ (d.length : Int) < 74 := by omega
  clear hd
  go_upto_region 5 with fail
  have h4 : Hid (R7S w h kh w3.heap.size (w3.heap.size + 1) (w3.alloc (.cells #[.int .u64 (h.batch : Int), .slice none 0 0, .slice none 0 0, .slice none 0 0] 26))) := hide (by
    have hb4 := (Below.refl w3.heap.size w3).alloc (Nat.le_refl _) (.cells #[.int .u64 (h.batch : Int), .slice none 0 0, .slice none 0 0, .slice none 0 0] 26)
    exact ⟨HH3.out.below hb4 Hs3.out, HZ3.out.below hb4 (Nat.lt_trans Hpos.out Hs3.out), ⟨Hpos.out, Hs3.out, Nat.lt_succ_self _⟩, by simp, HB3.out.trans (hb4.mono HB3.out.size)⟩)
  have R0 : Hid (RowsT w3.heap.size (w3.heap.size + 1) ⟨h.batch, [], [], []⟩ (w3.alloc (.cells #[.int .u64 (h.batch : Int), .slice none 0 0, .slice none 0 0, .slice none 0 0] 26))) := hide ⟨_, _, _, heap_alloc_new w3 _, ⟨rfl, .inl ⟨rfl, rfl⟩⟩, ⟨rfl, .inl ⟨rfl, rfl⟩⟩, ⟨rfl, .inl ⟨rfl, rfl⟩⟩, .inl rfl⟩
  generalize w3.alloc (.cells #[.int .u64 (h.batch : Int), .slice none 0 0, .slice none 0 0, .slice none 0 0] 26) = w4 at *
  generalize hB1 : w3.heap.size + 1 = B1 at *
  generalize w3.heap.size = tb at *
  clear hB1 c0 c3 HH3 HZ3 HB3
  go_wp2
  go_loopw [8] (fun i wr => ∃ j : Nat, j ≤ 34 ∧ i = .int .i64 (j : Int) ∧ Hid (R7S w h kh tb B1 wr) ∧ Hid (RowsT tb B1 ⟨h.batch, badR d j, [], []⟩ wr)) (fun i _ => 34 - (intOf i).toNat)
  case atStart => exact ⟨0, Nat.zero_le _, rfl, h4, R0⟩
  case round =>
    obtain ⟨j, hj, rfl, HS, HR⟩ := hrel
    clear h4 R0
    by_cases hlt : j < 34
    · have hlt' : (j : Int) < 34 := by omega
      have e2 : wrap64 ((j : Int) + 1) = ((j + 1 : Nat) : Int) := by unfold wrap64; omega
      have Hbs := hide (badR_succ d j)
      obtain ⟨c, w5, hcv, hcap, hb5, hl5⟩ := strBytesP wr d
      have HB5 := hide hb5
      have HS5 := hide (HS.out.later hb5)
      have HR5 := hide (HR.out.below hb5)
      have F := hide (bit_any (some ⟨wr.heap.size, 0, none⟩) d.length c w5.heap.size d j w5 hl5 rfl (by have := Hlen.out; omega) (by have := Hd.out; omega))
      have hbb : bitAt d j = 0 ∨ bitAt d j = 1 := by unfold bitAt bitN; omega
      clear hb5 hl5 hcap HS HR
      rcases hbb with hbit | hbit
      · rw [hbit] at F
        rw [if_neg (by omega), List.append_nil] at Hbs
        go_wp2_with fail
        (with_reducible refine F.out.mono ?_)
        rintro e w6 ⟨rfl, rfl⟩
        clear F hbit
        go_wp2
        go_roundw
        case rel => exact ⟨j + 1, hlt, by first | rfl | exact congrArg (Value.int .i64) e2, HS5, hide (by rw [Hbs.out]; exact HR5.out)⟩
        case measure => first | exact measS2 rfl hlt | exact measS2 e2 hlt
      · rw [hbit] at F
        rw [if_pos hbit] at Hbs
        go_wp2_with fail
        (with_reducible refine F.out.mono ?_)
        rintro e w6 ⟨rfl, rfl⟩
        clear F hbit hcv
        obtain ⟨v1, v2, v3, hc, o1, o2, o3, ha⟩ := HR5.out
        dsimp only at hc o1 o2 o3
        obtain ⟨A1, k1, rfl, hk1, _⟩ := own_form o1
        have f1 : w5.cell? ⟨tb, 1, none⟩ = some (.slice A1 (badR d j).length k1) := by have := World.news_of_block hc 1 _ rfl; rwa [at0] at this
        have Hc := hide hc
        have O1 := hide o1
        have O2 := hide o2
        have O3 := hide o3
        have Ha := hide ha
        clear hc o1 o2 o3 ha
        have Hln := hide (show (badR d j).length ≤ 34 by have := badR_len d j; omega)
        have Hsz := hide HS5.out.size
        have Htb := hide (show tb < B1 from HS5.out.pos.2.2)
        have HgB := hide (show ∀ g, (Value.slice A1 (badR d j).length k1).ownBlock = some g → B1 ≤ g from fun g hg => by rcases own_none_or O1.out with h | ⟨g', h, hb, _⟩ <;> rw [h] at hg <;> cases hg; exact hb)
        have Hca := hide ((Below.heap_alloc w5 (.cells #[.int .i64 (j : Int)] 3) tb (Array.getElem?_eq_some_iff.1 Hc.out).1).trans Hc.out)
        clear hlt hj
        generalize badR d j = BA at *
        go_wp2_with (at_builtin; refine wpl_app _ rfl i64elems (.tmp 44) (.tmp 46) rfl B1 (.slice A1 BA.length k1) BA.length _ rfl (O1.out.alloc _) (w5.heap.size + 1) (some ⟨w5.heap.size, 0, none⟩) 1 1 _ rfl (by rfl) (Lies.new w5 _ _ _ _ (Nat.lt_succ_self _)) (by simp [Value.oneCell']) (by have := Hln.out; unfold maxLen; omega) (by have := Hln.out; omega) (by have := Hsz.out; simp; omega) ?_; intro A2 c2 w7 hown hg hat; have Ho := hide hown; have HG := hide hg; have Hat := hide hat; have Hc5 := hide (app_cell Hca.out Htb.out hg HgB.out); have hcc := World.news_of_block Hc5.out 1 _ rfl; rw [at0] at hcc; have hff := frozen_of_row w7 tb 1 _ _ Hc5.out; clear hown hg hat)
        have Rn := hide (RowsT.app1 Hca.out Htb.out (O1.out.alloc _) (O2.out.alloc _) (O3.out.alloc _) Ha.out Ho.out HG.out Hat.out)
        have Sn := hide ((HS5.out.later ((Below.refl _ _).alloc (Nat.le_refl _) _)).grown HG.out HgB.out 1 (.slice A2 (BA.length + 1) c2))
        go_roundw
        case rel => exact ⟨j + 1, by omega, by first | rfl | exact congrArg (Value.int .i64) e2, Sn, hide (by rw [Hbs.out]; exact Rn.out)⟩
        case measure => first | exact measS2 rfl (by omega) | exact measS2 e2 (by omega)
    · have hj34 : j = 34 := by omega
      have hlt' : ¬ (j : Int) < 34 := by omega
      rw [hj34] at HR
      obtain ⟨BA, hBA⟩ : ∃ l, Hid (l = badR d 34) := ⟨_, hide rfl⟩
      have HbaL := hide (show BA.length ≤ 34 by rw [hBA.out]; exact badR_len d 34)
      rw [← hBA.out] at HR
      obtain ⟨c, w5, hcv, hcap, hb5, hl5⟩ := strBytesT wr d
      have HS5 := hide (HS.out.later hb5)
      have HR5 := hide (HR.out.below hb5)
      have HL5 := hide hl5
      generalize (⟨wr.heap.size, 0, none⟩ : Addr) = a at *
      obtain ⟨Bb, hBb⟩ : ∃ Bb, Hid (Bb = w5.heap.size) := ⟨_, hide rfl⟩
      have HQ5 := hide (show Bb ≤ w5.heap.size by rw [hBb.out]; exact Nat.le_refl _)
      rw [← hBb.out] at HL5
      obtain ⟨N2, hN2⟩ : ∃ n, Hid (n = min h.lpn.toNat 34) := ⟨_, hide rfl⟩
      have HN34 := hide (show N2 ≤ 34 by rw [hN2.out]; omega)
      clear hlt hj hj34 hb5 hl5 hcap HS HR hBb
      go_wp2
      clear hcv
      go_loopw [10] (fun i wr => ∃ j : Nat, j ≤ N2 ∧ i = .int .i64 (j : Int) ∧ Hid (R7S w h kh tb B1 wr) ∧ Hid (RowsT tb B1 ⟨h.batch, BA, wearR d j, []⟩ wr) ∧ Hid (LiesT wr Bb (some a) d) ∧ Hid (Bb ≤ wr.heap.size)) (fun i _ => N2 - (intOf i).toNat)
      case atStart => exact ⟨0, Nat.zero_le _, rfl, HS5, HR5, HL5, HQ5⟩
      case round =>
        obtain ⟨j, hj, rfl, HS, HR, HL, HQ⟩ := hrel
        clear HS5 HR5 HL5 HQ5
        generalize hln : h.lpn = L at *
        have c5 := HS.out.hb.c 5 (.int .i64 L) (by rw [← hln]; rfl)
        go_upto_region 12 with fail
        go_cut [58] from 51 to 71 (fun cc wx => cc = .bool (decide (j < N2)) ∧ wx = wr)
        case first =>
          have Hc1 := hide (fun (h1 : (j : Int) < L) (h2 : (j : Int) < 34) => show j < N2 by have := hN2.out; omega)
          have Hc2 := hide (fun (h2 : ¬ (j : Int) < 34) => show ¬ j < N2 by have := hN2.out; omega)
          have Hc3 := hide (fun (h1 : ¬ (j : Int) < L) => show ¬ j < N2 by have := hN2.out; omega)
          by_cases h1 : (j : Int) < L
          · by_cases h2 : (j : Int) < 34
            · have H := hide (Hc1.out h1 h2)
              go_wp2_with fail
              go_meet
              exact ⟨congrArg Value.bool (decide_eq_true H.out).symm, rfl⟩
            · have H := hide (Hc2.out h2)
              go_wp2_with fail
              go_meet
              exact ⟨congrArg Value.bool (decide_eq_false H.out).symm, rfl⟩
          · have H := hide (Hc3.out h1)
            go_wp2_with fail
            go_meet
            exact ⟨congrArg Value.bool (decide_eq_false H.out).symm, rfl⟩
        case rest =>
          obtain ⟨rfl, rfl⟩ := hcut
          have Hln := hide hln
          clear c5 hln
          by_cases hlt : j < N2
          · rw [decide_eq_true hlt]
            have hj34 : j < 34 := by have := HN34.out; omega
            have e2 : wrap64 ((j : Int) + 1) = ((j + 1 : Nat) : Int) := by unfold wrap64; omega
            have e3 : wrap64 (2 * (j : Int)) = 2 * (j : Int) := by unfold wrap64; omega
            have e4 : wrap64 (5 + 2 * (j : Int)) = 5 + 2 * (j : Int) := by unfold wrap64; omega
            have F := hide (number_any (some a) d.length c Bb d (5 + 2 * (j : Int)) 2 wc.drew (HL.out.drew).lies rfl (by have := Hlen.out; omega) (by omega) (by omega))
            rw [show (min (2 : Int) 8).toNat = 2 from rfl, num_past d _ 2 (by omega) (by omega)] at F
            have Hx16 := hide (numAt_lt d (5 + 2 * (j : Int)) 2)
            have Hap := hide (wearR_succ d j)
            rw [show ((5 + 2 * j : Nat) : Int) = 5 + 2 * (j : Int) by omega] at Hap
            generalize numAt d (5 + 2 * (j : Int)) 2 = x at *
            have w16 : IntKind.i64.wrap (x : Int) = (x : Int) := IntWalk.i64_in _ (by have := Hx16.out; omega)
            have HwL := hide (show (wearR d j).length ≤ 34 by rw [wearR_len]; omega)
            generalize wearR d j = WE at *
            have HSd := hide (HS.out.later ((Below.refl _ _).drew))
            have HRd := hide (HR.out.below ((Below.refl _ _).drew))
            have HLd := hide (HL.out.drew)
            have HQd : Hid (Bb ≤ wc.drew.heap.size) := HQ
            have w2j : IntKind.i64.wrap (2 * (j : Int)) = 2 * (j : Int) := IntWalk.i64_in _ (by omega)
            have w5j : IntKind.i64.wrap (5 + 2 * (j : Int)) = 5 + 2 * (j : Int) := IntWalk.i64_in _ (by omega)
            clear HS HR HL HQ hj34
            obtain ⟨v1, v2, v3, hc, o1, o2, o3, ha⟩ := HRd.out
            dsimp only at hc o1 o2 o3
            obtain ⟨A1, k1, rfl, hk1, _⟩ := own_form o2
            have f1 : wc.drew.cell? ⟨tb, 2, none⟩ = some (.slice A1 WE.length k1) := by have := World.news_of_block hc 2 _ rfl; rwa [at0] at this
            have Htb := hide (show tb < B1 from HSd.out.pos.2.2)
            have Ha := hide ha
            have keep : Hid (∀ w4 : World, wc.drew = w4 → w4.heap[tb]? = some (.cells #[.int .u64 (h.batch : Int), v1, .slice A1 WE.length k1, v3] 26 (0, 0)) ∧ w4.ownsRow B1 3 1 v1 BA.length (nums .i64 BA) ∧ w4.ownsRow B1 3 1 (.slice A1 WE.length k1) WE.length (nums .i64 WE) ∧ w4.ownsRow B1 22 1 v3 0 (nums .u64 []) ∧ R7S w h kh tb B1 w4 ∧ LiesT w4 Bb (some a) d ∧ Bb ≤ w4.heap.size) := hide (fun w4 e => by subst e; exact ⟨hc, o1, o2, o3, HSd.out, HLd.out, HQd.out⟩)
            have HgB := hide (show ∀ g, (Value.slice A1 WE.length k1).ownBlock = some g → B1 ≤ g from fun g hg => by rcases own_none_or o2 with h | ⟨g', h, hb, _⟩ <;> rw [h] at hg <;> cases hg; exact hb)
            have Hlt := hide hlt
            clear hc o1 o2 o3 ha hlt hj
            go_upto_region 14 with fail
            go_region_law (first
              | (refine step_callP (f := 114) (args := #[.slice (some a) d.length c, .int .i64 (5 + 2 * (j : Int)), .int .i64 2]) rfl (by simp [Act.eval, go_sem]; first | done | rw [w2j, w5j]) (F.out.mono ?_); rintro e w4 ⟨rfl, hw⟩; refine ⟨_, rfl, ?_⟩; have HK := hide (keep.out w4 hw); have q1 : w4.cell? ⟨tb, 2, none⟩ = some (.slice A1 WE.length k1) := (by have := World.news_of_block HK.out.1 2 _ rfl; rwa [at0] at this); have Hca := hide ((Below.heap_alloc w4 (.cells #[.int .i64 (x : Int)] 3) tb (Array.getElem?_eq_some_iff.1 HK.out.1).1).trans HK.out.1); have q2 : (w4.alloc (.cells #[.int .i64 (x : Int)] 3)).cell? ⟨tb, 2, none⟩ = some (.slice A1 WE.length k1) := (by have := World.news_of_block Hca.out 2 _ rfl; rwa [at0] at this); clear hw)
              | (refine step_app _ rfl i64elems (.tmp 62) (.tmp 69) rfl B1 (.slice A1 WE.length k1) WE.length _ (by simp [Act.eval]) (HK.out.2.2.1.alloc _) (w4.heap.size + 1) (some ⟨w4.heap.size, 0, none⟩) 1 1 _ (by simp [Act.eval]) (by rfl) (Lies.new w4 _ _ _ _ (Nat.lt_succ_self _)) (by simp [Value.oneCell']) (by have := HwL.out; unfold maxLen; omega) (by have := HwL.out; omega) (by have := HK.out.2.2.2.2.1.size; simp; omega) ?_; intro A2 c2 w7 hown hg hat; have Ho := hide hown; have HG := hide hg; have Hat := hide hat; have Hc5 := hide (app_cell Hca.out Htb.out hg HgB.out); have hcc := World.news_of_block Hc5.out 2 _ rfl; rw [at0] at hcc; have hff := frozen_of_row w7 tb 2 _ _ Hc5.out; clear hown hg hat))
            all_goals
              have Rn := hide (RowsT.app2 Hca.out Htb.out (HK.out.2.1.alloc _) (HK.out.2.2.1.alloc _) (HK.out.2.2.2.1.alloc _) Ha.out Ho.out HG.out Hat.out)
              have Sn := hide ((HK.out.2.2.2.2.1.later ((Below.refl _ _).alloc (Nat.le_refl _) _)).grown HG.out HgB.out 2 (.slice A2 (WE.length + 1) c2))
              have Ln := hide ((HK.out.2.2.2.2.2.1.kept (fun b hb _ => Below.heap_alloc w4 (.cells #[.int .i64 (x : Int)] 3) b (Nat.lt_of_lt_of_le hb HK.out.2.2.2.2.2.2))).appd (k := tb) (j := 2) (u := .slice A2 (WE.length + 1) c2) (Nat.le_trans HK.out.2.2.2.2.2.2 (by simp)) (HK.out.2.2.1.alloc _) (by decide) HG.out Hc5.out (by decide))
              have Qn : Hid (Bb ≤ (w7.setCell ⟨tb, 2, none⟩ (.slice A2 (WE.length + 1) c2)).heap.size) := hide (Nat.le_trans HK.out.2.2.2.2.2.2 (Nat.le_trans (by simp) (Nat.le_trans HG.out.size (by simp [World.setCell]))))
              go_wp2
              go_roundw
              case rel => exact ⟨j + 1, Hlt.out, by first | rfl | exact congrArg (Value.int .i64) e2, Sn, hide (by rw [Hap.out]; exact Rn.out), Ln, Qn⟩
              case measure => first | exact measS2 rfl Hlt.out | exact measS2 e2 Hlt.out
          · have hjN : j = N2 := by omega
            rw [decide_eq_false hlt]
            subst hjN
            obtain ⟨WE, hWE⟩ : ∃ l, Hid (l = wearR d j) := ⟨_, hide rfl⟩
            have HweL := hide (show WE.length ≤ 34 by rw [hWE.out, wearR_len]; exact HN34.out)
            rw [← hWE.out] at HR
            obtain ⟨N3, hN3⟩ : ∃ n, Hid (n = (d.getD 73 0).toNat) := ⟨_, hide rfl⟩
            have HN8 := hide (show N3 < 256 by rw [hN3.out]; exact (d.getD 73 0).toNat_lt)
            have HN2 := hN2
            clear hlt hj hN2
            go_wp2
            go_loopw [11] (fun i wr => ∃ j : Nat, j ≤ N3 ∧ i = .int .i64 (j : Int) ∧ Hid (R7S w h kh tb B1 wr) ∧ Hid (RowsT tb B1 ⟨h.batch, BA, WE, voidR d j⟩ wr) ∧ Hid (LiesT wr Bb (some a) d) ∧ Hid (Bb ≤ wr.heap.size)) (fun i _ => N3 - (intOf i).toNat)
            case atStart => exact ⟨0, Nat.zero_le _, rfl, HS, HR, HL, HQ⟩
            case round =>
              clear HS HR HL HQ
              obtain ⟨j, hj, rfl, HS, HR, HL, HQ⟩ := hrel
              obtain ⟨a', ha', _, hcb⟩ := HL.out.lies.byte (k := 73) (by have := Hd.out; omega)
              injection ha' with ha'
              subst ha'
              rw [← hN3.out, add_offP a 72] at hcb
              have h73 : (73 : Int) < (d.length : Int) := by have := Hd.out; omega
              have w8 : IntKind.i64.wrap (N3 : Int) = (N3 : Int) := IntWalk.i64_in _ (by have := HN8.out; omega)
              by_cases hlt : j < N3
              · have hlt' : (j : Int) < (N3 : Int) := by omega
                have hj8 : j < 256 := by have := HN8.out; omega
                have e2 : wrap64 ((j : Int) + 1) = ((j + 1 : Nat) : Int) := by unfold wrap64; omega
                have w4j : IntKind.i64.wrap (4 * (j : Int)) = 4 * (j : Int) := IntWalk.i64_in _ (by omega)
                have w7j : IntKind.i64.wrap (74 + 4 * (j : Int)) = 74 + 4 * (j : Int) := IntWalk.i64_in _ (by omega)
                have e3 : wrap64 (4 * (j : Int)) = 4 * (j : Int) := by unfold wrap64; omega
                have e4 : wrap64 (74 + 4 * (j : Int)) = 74 + 4 * (j : Int) := by unfold wrap64; omega
                have F := hide (number_any (some a) d.length c Bb d (74 + 4 * (j : Int)) 4 wr.drew (HL.out.drew).lies rfl (by have := Hlen.out; omega) (by omega) (by omega))
                rw [show (min (4 : Int) 8).toNat = 4 from rfl, num_past d _ 4 (by omega) (by omega)] at F
                have Hap := hide (voidR_succ d j)
                rw [show ((74 + 4 * j : Nat) : Int) = 74 + 4 * (j : Int) by omega] at Hap
                generalize numAt d (74 + 4 * (j : Int)) 4 = x at *
                have HwL := hide (show (voidR d j).length ≤ 256 by rw [voidR_len]; omega)
                generalize voidR d j = VO at *
                have HSd := hide (HS.out.later ((Below.refl _ _).drew))
                have HRd := hide (HR.out.below ((Below.refl _ _).drew))
                have HLd := hide (HL.out.drew)
                have HQd : Hid (Bb ≤ wr.drew.heap.size) := HQ
                clear HS HR HL HQ hj8
                obtain ⟨v1, v2, v3, hc, o1, o2, o3, ha⟩ := HRd.out
                dsimp only at hc o1 o2 o3
                obtain ⟨A1, k1, rfl, hk1, _⟩ := own_form o3
                have f1 : wr.drew.cell? ⟨tb, 3, none⟩ = some (.slice A1 VO.length k1) := by have := World.news_of_block hc 3 _ rfl; rwa [at0] at this
                have Htb := hide (show tb < B1 from HSd.out.pos.2.2)
                have Ha := hide ha
                have keep : Hid (∀ w4 : World, wr.drew = w4 → w4.heap[tb]? = some (.cells #[.int .u64 (h.batch : Int), v1, v2, .slice A1 VO.length k1] 26 (0, 0)) ∧ w4.ownsRow B1 3 1 v1 BA.length (nums .i64 BA) ∧ w4.ownsRow B1 3 1 v2 WE.length (nums .i64 WE) ∧ w4.ownsRow B1 22 1 (.slice A1 VO.length k1) VO.length (nums .u64 VO) ∧ R7S w h kh tb B1 w4 ∧ LiesT w4 Bb (some a) d ∧ Bb ≤ w4.heap.size) := hide (fun w4 e => by subst e; exact ⟨hc, o1, o2, o3, HSd.out, HLd.out, HQd.out⟩)
                have HgB := hide (show ∀ g, (Value.slice A1 VO.length k1).ownBlock = some g → B1 ≤ g from fun g hg => by rcases own_none_or o3 with h | ⟨g', h, hb, _⟩ <;> rw [h] at hg <;> cases hg; exact hb)
                have Hlt := hide hlt
                clear hc o1 o2 o3 ha hlt hj
                go_upto_region 18 with fail
                go_region_law (first
                  | (refine step_callP (f := 114) (args := #[.slice (some a) d.length c, .int .i64 (74 + 4 * (j : Int)), .int .i64 4]) rfl (by simp [Act.eval, go_sem, w4j, w7j]) (F.out.mono ?_); rintro e w4 ⟨rfl, hw⟩; refine ⟨_, rfl, ?_⟩; have HK := hide (keep.out w4 hw); have q1 : w4.cell? ⟨tb, 3, none⟩ = some (.slice A1 VO.length k1) := (by have := World.news_of_block HK.out.1 3 _ rfl; rwa [at0] at this); have Hca := hide ((Below.heap_alloc w4 (.cells #[.int .u64 (x : Int)] 22) tb (Array.getElem?_eq_some_iff.1 HK.out.1).1).trans HK.out.1); have q2 : (w4.alloc (.cells #[.int .u64 (x : Int)] 22)).cell? ⟨tb, 3, none⟩ = some (.slice A1 VO.length k1) := (by have := World.news_of_block Hca.out 3 _ rfl; rwa [at0] at this); clear hw)
                  | (refine step_app _ rfl u64elems (.tmp 81) (.tmp 87) rfl B1 (.slice A1 VO.length k1) VO.length _ (by simp [Act.eval]) (HK.out.2.2.2.1.alloc _) (w4.heap.size + 1) (some ⟨w4.heap.size, 0, none⟩) 1 1 _ (by simp [Act.eval]) (by rfl) (Lies.new w4 _ _ _ _ (Nat.lt_succ_self _)) (by simp [Value.oneCell']) (by have := HwL.out; unfold maxLen; omega) (by have := HwL.out; omega) (by have := HK.out.2.2.2.2.1.size; simp; omega) ?_; intro A2 c2 w7 hown hg hat; have Ho := hide hown; have HG := hide hg; have Hc5 := hide (app_cell Hca.out Htb.out hg HgB.out); have hcc := World.news_of_block Hc5.out 3 _ rfl; rw [at0] at hcc; have hff := frozen_of_row w7 tb 3 _ _ Hc5.out; clear hown hg hat))
                all_goals
                  have Rn := hide (RowsT.app3 Hca.out Htb.out (HK.out.2.1.alloc _) (HK.out.2.2.1.alloc _) (HK.out.2.2.2.1.alloc _) Ha.out Ho.out HG.out)
                  have Sn := hide ((HK.out.2.2.2.2.1.later ((Below.refl _ _).alloc (Nat.le_refl _) _)).grown HG.out HgB.out 3 (.slice A2 (VO.length + 1) c2))
                  have Ln := hide ((HK.out.2.2.2.2.2.1.kept (fun b hb _ => Below.heap_alloc w4 (.cells #[.int .u64 (x : Int)] 22) b (Nat.lt_of_lt_of_le hb HK.out.2.2.2.2.2.2))).appd (k := tb) (j := 3) (u := .slice A2 (VO.length + 1) c2) (Nat.le_trans HK.out.2.2.2.2.2.2 (by simp)) (HK.out.2.2.2.1.alloc _) (by decide) HG.out Hc5.out (by decide))
                  have Qn : Hid (Bb ≤ (w7.setCell ⟨tb, 3, none⟩ (.slice A2 (VO.length + 1) c2)).heap.size) := hide (Nat.le_trans HK.out.2.2.2.2.2.2 (Nat.le_trans (by simp) (Nat.le_trans HG.out.size (by simp [World.setCell]))))
                  go_wp2
                  go_roundw
                  case rel => exact ⟨j + 1, Hlt.out, by first | rfl | exact congrArg (Value.int .i64) e2, Sn, hide (by rw [Hap.out]; exact Rn.out), Ln, Qn⟩
                  case measure => first | exact measS2 rfl Hlt.out | exact measS2 e2 Hlt.out
              · have hjN : j = N3 := by omega
                have hlt' : ¬ (j : Int) < (N3 : Int) := by omega
                subst hjN
                obtain ⟨VO, hVO⟩ : ∃ l, Hid (l = voidR d j) := ⟨_, hide rfl⟩
                have HvoL := hide (show VO.length ≤ 256 by rw [hVO.out, voidR_len]; exact Nat.le_of_lt HN8.out)
                rw [← hVO.out] at HR
                have HV : Hid (∀ y ∈ VO, 0 ≤ y ∧ y < 18446744073709551616) := hide (fun y hy => by
                  rw [hVO.out] at hy
                  unfold voidR ints at hy
                  obtain ⟨n, hn, rfl⟩ := List.mem_map.1 hy
                  obtain ⟨q, _, rfl⟩ := List.mem_map.1 hn
                  have := numAt_lt d ((74 + 4 * q : Nat) : Int) 4
                  have e : 256 ^ 4 = 4294967296 := by decide
                  omega)
                have HT : Hid (readR h d = ⟨h.batch, BA, WE, VO⟩) := hide (by
                  unfold readR
                  rw [Hln.out, hBA.out, hWE.out, hVO.out, HN2.out, hN3.out]
                  rfl)
                rw [HT.out] at HE
                obtain ⟨v1, v2, v3, hc, o1, o2, o3, ha⟩ := HR.out
                dsimp only at hc o1 o2 o3
                obtain ⟨A1, k1, rfl, hk1, _⟩ := own_form o1
                obtain ⟨A2, k2, rfl, hk2, _⟩ := own_form o2
                obtain ⟨A3, k3, rfl, hk3, _⟩ := own_form o3
                obtain ⟨x, hx⟩ : ∃ x : Tl, x = ⟨⟨h.batch, BA, WE, VO⟩, A1, A2, A3, k1, k2, k3⟩ := ⟨_, rfl⟩
                have HX : Hid (BoxT x tb wr) := hide (by rw [hx]; exact hc)
                have HO : Hid (x.Ok wr wr.heap.size) := hide (by
                  rw [hx]
                  exact ⟨Lies.of_own o1, Lies.of_own o2, Lies.of_own o3, hk1, hk2, hk3, fun y hy => (HV.out y hy).1, Hbt.out, fun y hy => (HV.out y hy).2⟩)
                have HHi : Hid (x.Hi B1) := hide (by rw [hx]; exact ⟨hi_of_own o1, hi_of_own o2, hi_of_own o3⟩)
                have HFw : Hid x.Few := hide (by
                  rw [hx]
                  exact ⟨Nat.le_trans HbaL.out (by decide), Nat.le_trans HweL.out (by decide), Nat.le_trans HvoL.out (by decide)⟩)
                have Hxt : Hid (x.t = ⟨h.batch, BA, WE, VO⟩) := hide (by rw [hx])
                rw [← Hxt.out] at HE HT
                have e0 : x.val = .agg #[.int .u64 (x.t.seq : Int), .slice x.A1 x.t.bad.length x.c1, .slice x.A2 x.t.wear.length x.c2, .slice x.A3 x.t.void.length x.c3] := rfl
                have c0 := HX.out.c 0 _ rfl
                have c1 := HX.out.c 1 _ rfl
                have c2 := HX.out.c 2 _ rfl
                have c3 := HX.out.c 3 _ rfl
                have Htb := hide (show w.heap.size < tb ∧ w.heap.size < B1 by have := HS.out.pos; omega)
                have HZ := hide HS.out.rb
                have HB := hide HS.out.below
                have FM := hide (may16_big x _ wr HO.out HFw.out.long (Nat.le_refl _))
                rw [e0] at FM
                clear hc o1 o2 o3 ha hk1 hk2 hk3 hx HS HR HL HQ hlt hj hN3 hVO hWE hBA HN2
                go_wp2_with fail
                (with_reducible refine FM.out.mono ?_)
                rintro e w5 ⟨rfl, hb⟩
                have HX5 := hide (HX.out.below hb HX.out.lt)
                have HO5 := hide ((HO.out.below hb).up hb.size)
                have HZ5 := hide (HZ.out.below hb (Nat.lt_trans Htb.out.1 HX.out.lt))
                have HB5 := hide (HB.out.trans (hb.mono HB.out.size))
                clear hb FM HX HO HZ HB c0 c1 c2 c3 hcb
                have HRes : Hid (∀ (q : Bool) (W : World), Below w5.heap.size w5 W → BoxT zeroTl w.heap.size W) := hide (fun _ W hb => HZ5.out.below hb HZ5.out.lt)
                have c0 := HX5.out.c 0 _ rfl
                have c1 := HX5.out.c 1 _ rfl
                have c2 := HX5.out.c 2 _ rfl
                have c3 := HX5.out.c 3 _ rfl
                have z0 := HZ5.out.c 0 _ rfl
                have z1 := HZ5.out.c 1 _ rfl
                have z2 := HZ5.out.c 2 _ rfl
                have z3 := HZ5.out.c 3 _ rfl
                have y0 := HZ5.out.free 0
                have y1 := HZ5.out.free 1
                have y2 := HZ5.out.free 2
                have y3 := HZ5.out.free 3
                by_cases hm : x.t.May
                · rw [decide_eq_true hm]
                  have FP := hide (put16_any x _ w5 HO5.out hm (Nat.le_refl _))
                  rw [e0] at FP
                  have HM := hide hm
                  clear hm z0 z1 z2 z3 y0 y1 y2 y3
                  go_wp2_with fail
                  (with_reducible refine FP.out.mono ?_)
                  rintro e w6 ⟨rfl, hb⟩
                  have HX6 := hide (HX5.out.below hb HX5.out.lt)
                  have HO6 := hide ((HO5.out.below hb).up hb.size)
                  have HZ6 := hide (HZ5.out.below hb HZ5.out.lt)
                  have HB6 := hide (HB5.out.trans (hb.mono HB5.out.size))
                  clear hb FP HX5 HO5 HZ5 HB5 HRes c0 c1 c2 c3
                  have c0 := HX6.out.c 0 _ rfl
                  have c1 := HX6.out.c 1 _ rfl
                  have c2 := HX6.out.c 2 _ rfl
                  have c3 := HX6.out.c 3 _ rfl
                  have z0 := HZ6.out.c 0 _ rfl
                  have z1 := HZ6.out.c 1 _ rfl
                  have z2 := HZ6.out.c 2 _ rfl
                  have z3 := HZ6.out.c 3 _ rfl
                  have y0 := HZ6.out.free 0
                  have y1 := HZ6.out.free 1
                  have y2 := HZ6.out.free 2
                  have y3 := HZ6.out.free 3
                  have hq := str_beqH x.t.page b
                  by_cases hp : x.t.page = b
                  · rw [decide_eq_true hp] at hq
                    have hq' : ((str x.t.page).toList != (str b).toList) = false := by rw [bne, hq]; rfl
                    have HRt := hide (HE.out.2 ⟨HM.out, hp⟩)
                    clear hp
                    go_wp2
                    refine bodyPost_ret (results_tb1 rfl _ _ x w.heap.size rfl (boxT4 (x := x) HZ6.out)) rfl ⟨x, rfl, HT.out.symm, ?_, HFw.out, HHi.out.mono (Nat.le_of_lt Htb.out.2), putT_below HB6.out (Nat.le_refl _) x⟩
                    exact (HO6.out.putT (y := x) (HHi.out.off Htb.out.2)).up (by simp [World.setCell])
                  · rw [decide_eq_false hp] at hq
                    have hq' : ((str x.t.page).toList != (str b).toList) = true := by rw [bne, hq]; rfl
                    have HRf := hide (fun hR => hp (HE.out.1 hR).2)
                    clear hp
                    go_wp2
                    exact bodyPost_ret (results_tb1 rfl _ _ zeroTl w.heap.size rfl (boxT4 (x := zeroTl) HZ6.out)) rfl ⟨zeroTl, rfl, rfl, zeroTl_ok _ _, zeroTl_few, zeroTl_hi _, putT_below HB6.out (Nat.le_refl _) zeroTl⟩
                · rw [decide_eq_false hm]
                  have HRf := hide (fun hR => hm (HE.out.1 hR).1)
                  clear hm c0 c1 c2 c3
                  go_wp2
                  exact bodyPost_ret (results_tb1 rfl _ _ zeroTl w.heap.size rfl (boxT4 (x := zeroTl) HZ5.out)) rfl ⟨zeroTl, rfl, rfl, zeroTl_ok _ _, zeroTl_few, zeroTl_hi _, putT_below HB5.out (Nat.le_refl _) zeroTl⟩
theorem rread17_any (b : List UInt8) (w : World) (hsm : b.length ≤ 1000) : Calls Tryz.prog 85 #[.string (str b)] w (RefEnd w b) := by
  by_cases h : rightB b = true ∧ (headOf b).kind = 1 ∧ 74 ≤ (dataOf b).length
  · exact rread17_on b w hsm h.1 h.2.1 h.2.2
  · exact rread17_off b w hsm h
end Go.Proofs.YtigpplckddnghaaGreat
