/-
  THE LAW FragSplits, walked.
-/
import Derived.Test.YtlbgcbekjjkokaaSLm
namespace Go.Proofs.Ytlbgcbekjjkokaa
open Go.RowKit Go.Sort

set_option maxRecDepth 100000 in
set_option maxHeartbeats 8000000 in
theorem fragSplits_any (b : Bn) (B : Nat) (size : Int) (w : World) (hraw : b.Raw w B) (hB : B ≤ w.heap.size) (hsz : size ≤ 9223372036854775807) :
    Calls Try.prog 3 #[b.val, .int .i64 size] w fun e w' => e = .returned (.bool true) ∧ Below w.heap.size w w' := by
  obtain ⟨w1, hw1⟩ : ∃ w1, w1 = w.alloc (.cells b.cells.toArray 33) := ⟨_, rfl⟩
  have HW1 := hide hw1
  have Hb1 := hide (show Below w.heap.size w w1 by rw [hw1]; exact (Below.refl w.heap.size w).alloc (Nat.le_refl _) _)
  have hr1 : w1.heap[w.heap.size]? = some (.cells b.cells.toArray 33 (0, 0)) := by rw [hw1]; exact heap_alloc_last w _
  have hz1 : w.heap.size < w1.heap.size := (Array.getElem?_eq_some_iff.1 hr1).1
  have Hr1 := hide hr1
  have Hraw := hide hraw
  have FL := hide (light_any b B w1 (hraw.lies.below (Hb1.out.mono hB)) hraw.len (Nat.le_trans hB (Nat.le_of_lt hz1)))
  have Hval := hide (show b.val = .agg b.cells.toArray from rfl)
  have Hsz := hide hsz
  rw [Hval.out]
  clear hw1 hraw hr1 hsz
  go_enter Try.func3, Try.ntmps3
  go_upto_region 1 with fail
  rw [← HW1.out]
  go_wp2_with (with_reducible refine wpl_load_at rfl 33 (.tmp 2) rfl w.heap.size 33 b.cells.toArray _ Hr1.out rfl Try.underlying33 rfl 25 info33 (cells_size b) ?_)
  refine FL.out.mono ?_
  rintro e w2 ⟨rfl, hb2⟩
  have Hb2 := hide (Hb1.out.trans (hb2.mono (Nat.le_of_lt hz1)))
  have Hr2 := hide ((hb2.block w.heap.size hz1).trans Hr1.out)
  clear hb2 FL Hr1 HW1
  cases hlt : b.light with
  | false =>
    go_wp2_with fail
    refine (awake12_any w2).mono ?_
    rintro e w3 ⟨rfl, hb3⟩
    have Hb3 := hide (Hb2.out.trans (hb3.mono Hb2.out.size))
    clear hb3
    go_wp2
    go_ret
    exact ⟨rfl, Hb3.out⟩
  | true =>
    have Hok := hide (Hraw.out.ok hlt)
    have Hr0 := hide (show w.heap.size < w2.heap.size from (Array.getElem?_eq_some_iff.1 Hr2.out).1)
    clear hlt
    have FS := hide (split_any b B size w2 (Hok.out.below (Hb2.out.mono hB)) (Nat.le_trans hB Hb2.out.size) Hsz.out)
    go_wp2_with (with_reducible refine wpl_load_at rfl 33 (.tmp 2) rfl w.heap.size 33 b.cells.toArray _ Hr2.out rfl Try.underlying33 rfl 25 info33 (cells_size b) ?_)
    refine FS.out.mono ?_
    rintro e w3 ⟨v, er, rfl, hS, hb3⟩
    have HS := hide hS
    have Hb3 := hide (Hb2.out.trans (hb3.mono Hb2.out.size))
    have Hr3 := hide ((hb3.block w.heap.size Hr0.out).trans Hr2.out)
    have Hr30 := hide (show w.heap.size < w3.heap.size from (Array.getElem?_eq_some_iff.1 Hr3.out).1)
    have FC := hide (ref11_any b B w3 (Hok.out.below (Hb3.out.mono hB)) (Nat.le_trans hB Hb3.out.size))
    clear hS hb3 FS Hr2 Hr0 Hb2
    go_wp2_with (with_reducible refine wpl_load_at rfl 33 (.tmp 2) rfl w.heap.size 33 b.cells.toArray _ Hr3.out rfl Try.underlying33 rfl 25 info33 (cells_size b) ?_)
    refine FC.out.mono ?_
    rintro e w4 ⟨rfl, hb4⟩
    have Hb4 := hide (Hb3.out.trans (hb4.mono Hb3.out.size))
    have Hr4 := hide ((hb4.block w.heap.size Hr30.out).trans Hr3.out)
    have Hb34 := hide hb4
    clear hb4 FC Hr3 Hr30
    have FA := hide (awake12_any w4)
    by_cases hc : b.check = 0
    · have Hc := hide hc
      rw [hc]
      clear hc
      simp only []
      have c24 : w4.cell? ⟨w.heap.size, 24, none⟩ = some (.string b.pay.data) := range_of_row Hr4.out 24 _ rfl
      obtain ⟨q, fm, rm, hq⟩ := frag_many b.pay.data.size size w4 (by have := Hok.out.data; omega) Hsz.out
      have FM := hide fm
      have RM := hide (rm w4)
      have Hq := hide hq
      have hqq : (q != q) = false := by simp
      clear fm rm hq
      go_wp2_with fail
      refine RM.out.mono ?_
      rintro e w5 ⟨rfl, rfl⟩
      go_wp2_with fail
      refine FM.out.mono ?_
      rintro e w6 ⟨rfl, rfl⟩
      clear FM RM
      rcases HS.out with ⟨hx, _⟩ | ⟨_, h1, rfl, rfl⟩ | ⟨_, s, rfl, hs1, H⟩
      · exact absurd Hc.out hx
      · clear HS Hq c24
        go_wp2_with fail
        refine FA.out.mono ?_
        rintro e w7 ⟨rfl, hb7⟩
        have Hb7 := hide (Hb4.out.trans (hb7.mono Hb4.out.size))
        clear hb7
        go_wp2
        go_ret
        exact ⟨rfl, Hb7.out⟩
      · have hq1 := Hq.out s hs1 rfl
        have Hm2 := hide (fun h => many_two (n := b.pay.data.size) hs1 h)
        subst hq1
        obtain ⟨m, hm⟩ : ∃ m, m = manyN b.pay.data.size s := ⟨_, rfl⟩
        rw [← hm] at H Hm2 ⊢
        have hs0 : ¬ (s : Int) < 1 := by omega
        have Hs1 := hide hs1
        have Hm := hide hm
        clear hm hs1 HS Hq hqq
        rcases H with ⟨hbig, rfl, rfl⟩ | ⟨h1, rfl, A, c, g, rfl, hokA, hlA⟩ | ⟨h2, h3, H⟩
        · have hbig' : (1024 : Int) < (m : Int) := by omega
          clear hbig c24 Hm2
          go_wp2_with fail
          refine FA.out.mono ?_
          rintro e w7 ⟨rfl, hb7⟩
          have Hb7 := hide (Hb4.out.trans (hb7.mono Hb4.out.size))
          clear hb7
          go_wp2
          go_ret
          exact ⟨rfl, Hb7.out⟩
        · have hbig' : ¬ (1024 : Int) < (m : Int) := by omega
          have h1b : ((m : Int) == 1) = true := by rw [h1]; rfl
          have HokA := hide hokA
          have HlA := hide hlA
          have Hsm := hide h1
          obtain ⟨X, hX⟩ : ∃ X, X = ({ b with A := A, c := c } : Bn) := ⟨_, rfl⟩
          rw [← hX] at HokA HlA
          have hsame : X.sameN b = true := by rw [hX]; exact sameN_back b A c
          have HX6 := hide ((HokA.out.below Hb34.out).up Hb34.out.size)
          have Hk6 := hide ((Hok.out.below (Hb4.out.mono hB)).up (Nat.le_trans hB Hb4.out.size))
          have CX : ∀ j v, X.cells[j]? = some v → w6.cell? ((⟨g, 0, none⟩ : Addr).add j) = some v := by
            rcases HlA.out.below Hb34.out with h | ⟨a, ha, _, h3⟩
            · exact absurd (congrArg List.length h) (by show ¬ 25 = 0; omega)
            · obtain rfl := Option.some.inj ha
              exact h3
          have RB := range_of_row Hr4.out
          have KX := hide (fun (d : Nat) (os : Array Obj) j v (h : X.cells[j]? = some v) => cell_regrown (CX j v h) d os)
          have KB := hide (fun (d : Nat) (os : Array Obj) j v (h : b.cells[j]? = some v) => cell_regrown (show w6.cell? ((⟨w.heap.size, 0, none⟩ : Addr).add j) = some v by rw [addrN]; exact RB j v h) d os)
          have FSm := hide (fun (d : Nat) (os : Array Obj) => Calls.regrown_of (show Calls Try.prog 11 #[.agg X.cells.toArray, .agg b.cells.toArray] (grow (redrawn w6 d) os) fun e w' => e = .returned (.bool true) ∧ Below (grow (redrawn w6 d) os).heap.size (grow (redrawn w6 d) os) w' from by
            have h := rsame_any X b w6.heap.size (grow (redrawn w6 d) os) (HX6.out.lies.below (below_regrown w6 d os)) (Hk6.out.lies.below (below_regrown w6 d os)) HX6.out.len Hk6.out.len (below_regrown w6 d os).size HX6.out.few
            rw [hsame] at h
            exact h))
          clear hokA hlA c24 Hm2 h1 hX hsame CX RB HX6 Hk6
          go_upto_region 16 with fail
          refine wp_region_quiet_below (by kernel_rfl) (by kernel_rfl) ?_
          repeat (first | (go_big_quiet_want; with_reducible refine quiet_load_now 33 (.tmp 91) rfl ⟨g, 0, none⟩ X.cells (fun _ hC j v h => by obtain ⟨⟨d, os⟩, rfl⟩ := hC; exact KX.out d os j v h) rfl _ Try.underlying33 rfl 25 info33 (Bn.cells_len _) ?_; go_big_quiet_on; simp only [Act.put, List.setIfInBounds_toArray, List.set_cons_succ, List.set_cons_zero]) | (go_big_quiet_want; with_reducible refine quiet_load_now 33 (.tmp 2) rfl ⟨w.heap.size, 0, none⟩ b.cells (fun _ hC j v h => by obtain ⟨⟨d, os⟩, rfl⟩ := hC; exact KB.out d os j v h) rfl _ Try.underlying33 rfl 25 info33 (Bn.cells_len _) ?_; go_big_quiet_on; simp only [Act.put, List.setIfInBounds_toArray, List.set_cons_succ, List.set_cons_zero]) | go_big_quiet_step (first | exact Calls.regrown_of (awake12_any _) | exact FSm.out _ _))
          refine wpQuiet_nil ?_
          intro _ hw'
          obtain ⟨⟨dq, osq⟩, hw''⟩ := hw'
          subst hw''
          go_wp2
          go_ret
          exact ⟨rfl, Hb4.out.trans ((below_regrown w6 dq osq).mono Hb4.out.size)⟩
        · have hbig' : ¬ (1024 : Int) < (m : Int) := by omega
          have h1b : ((m : Int) == 1) = false := beq_eq_false_iff_ne.2 (by omega)
          have c0 : w6.cell? ⟨w.heap.size, 0, none⟩ = some (.int .u64 (b.p.fl : Int)) := range_of_row Hr4.out 0 _ rfl
          rcases H with ⟨hf, rfl, rfl⟩ | ⟨hf, hf2, hlt, rfl, rfl⟩ | ⟨hf, hle, rfl, A, c, g, rfl, hokA, hlA⟩
          · have hfb : ((IntKind.u64.wrap ((b.p.fl : Int) / 4)).tmod 2 == 1) = true := by rw [fl_four Hok.out.fl hf]; rfl
            clear hf c24 Hm2
            go_wp2_with fail
            refine FA.out.mono ?_
            rintro e w7 ⟨rfl, hb7⟩
            have Hb7 := hide (Hb4.out.trans (hb7.mono Hb4.out.size))
            clear hb7
            go_wp2
            go_ret
            exact ⟨rfl, Hb7.out⟩
          · have hfb : ((IntKind.u64.wrap ((b.p.fl : Int) / 4)).tmod 2 == 1) = false := by rw [fl_four Hok.out.fl hf]; rfl
            have hf2b : ((b.p.fl : Int) % 2 == 1) = true := beq_iff_eq.2 (by omega)
            obtain ⟨z, hz⟩ : ∃ z, z = b.p.tot - b.p.off := ⟨_, rfl⟩
            have hoff := check_off Hc.out hf2
            have ht := Hok.out.tot
            have hd := Hok.out.data
            have e1 : IntKind.u64.wrap ((b.p.tot : Int) - (b.p.off : Int)) = (z : Int) := by rw [IntKind.wrap_u64]; omega
            have e2 : IntKind.u64.wrap (b.pay.data.size : Int) = (b.pay.data.size : Int) := by rw [IntKind.wrap_u64]; omega
            have e3 : (z : Int) < (b.pay.data.size : Int) := by omega
            have c17 : w6.cell? ⟨w.heap.size, 17, none⟩ = some (.int .u64 (b.p.off : Int)) := range_of_row Hr4.out 17 _ rfl
            have c18 : w6.cell? ⟨w.heap.size, 18, none⟩ = some (.int .u64 (b.p.tot : Int)) := range_of_row Hr4.out 18 _ rfl
            clear hf hf2 hlt hz hoff ht hd c24 Hm2
            go_wp2_with fail
            refine FA.out.mono ?_
            rintro e w7 ⟨rfl, hb7⟩
            have Hb7 := hide (Hb4.out.trans (hb7.mono Hb4.out.size))
            clear hb7
            go_wp2
            go_ret
            exact ⟨rfl, Hb7.out⟩
          · have hfb : ((IntKind.u64.wrap ((b.p.fl : Int) / 4)).tmod 2 == 1) = false := by rw [fl_four Hok.out.fl hf]; rfl
            have HokA := hide hokA
            have HlA := hide hlA
            have Hle := hide hle
            have Hle3 := hide h3
            have Hf := hide hf
            have Hms := hide (Hm2.out h2)
            have hlong : b.p.fl % 2 = 1 → b.pay.data.size ≤ b.p.tot - b.p.off := hle
            obtain ⟨z, hz⟩ : ∃ z, z = b.p.tot - b.p.off := ⟨_, rfl⟩
            have e2 : IntKind.u64.wrap (b.pay.data.size : Int) = (b.pay.data.size : Int) := by rw [IntKind.wrap_u64]; have := Hok.out.data; omega
            have c17 : w6.cell? ⟨w.heap.size, 17, none⟩ = some (.int .u64 (b.p.off : Int)) := range_of_row Hr4.out 17 _ rfl
            have c18 : w6.cell? ⟨w.heap.size, 18, none⟩ = some (.int .u64 (b.p.tot : Int)) := range_of_row Hr4.out 18 _ rfl
            by_cases hf2 : b.p.fl % 2 = 1
            · have hf2b : ((b.p.fl : Int) % 2 == 1) = true := beq_iff_eq.2 (by omega)
              have hoff := check_off Hc.out hf2
              have ht := Hok.out.tot
              have e1 : IntKind.u64.wrap ((b.p.tot : Int) - (b.p.off : Int)) = (z : Int) := by rw [IntKind.wrap_u64]; omega
              have e3 : ¬ (z : Int) < (b.pay.data.size : Int) := by have := hlong hf2; omega
              clear hf hle hlong hz hoff ht c24 Hm2 hokA hlA
              have HCu := hide (show Cuts b s m from ⟨Hc.out, Hf.out, Hs1.out, h2, by rw [bytes_len]; exact Hms.out.1, by rw [bytes_len]; exact Hms.out.2.1, Hle.out⟩)
              have HP6 := hide ((HlA.out.below Hb34.out).up Hb34.out.size)
              have HO6 := hide ((HokA.out.below Hb34.out).up Hb34.out.size)
              have Hbm := hide hbig'
              clear HlA HokA Hb34
              go_upto_region 23 with fail
              generalize decide (z < b.pay.data.size) = dz
              clear e1 e3
              go_wp2_with fail
              go_loopw [10, 11, 12, 13] (fun s10 s11 s12 s13 wr => ∃ i : Nat, i ≤ m ∧ s12 = .int .i64 (i : Int) ∧ Below w6.heap.size w6 wr ∧ s10 = .string (str (b.bytes.take (i * s))) ∧ ∃ A2 c2, s11 = .slice A2 i c2 ∧ Hid (Lies wr wr.heap.size A2 (rowN (backOf b A c s i)))) (fun s10 s11 s12 s13 wr => m - (intOf s12).toNat)
              case atStart => exact ⟨0, Nat.zero_le _, rfl, Below.refl _ _, by rw [Nat.zero_mul]; rfl, none, 0, rfl, hide (.inl rfl)⟩
              case round =>
                obtain ⟨i, hi, rfl, hb, rfl, A2, c2, rfl, HL2⟩ := hrel
                have Hb := hide hb
                have hzw := hb.size
                clear hb
                by_cases hlt : i < m
                · have hlt' : (i : Int) < (m : Int) := by omega
                  have HPi := hide (piece_cells (HP6.out.below Hb.out) hlt)
                  obtain ⟨P, hP⟩ : ∃ P, P = pieceOf b A c s i := ⟨_, rfl⟩
                  rw [← hP] at HPi
                  have HPd := hide hP
                  clear hP
                  have HPp := hide (show ∀ j v, P.p.cells[j]? = some v → wr.cell? ((⟨g, i * 25, none⟩ : Addr).add j) = some v from fun j v h => HPi.out j v (p_cells h))
                  go_upto_region 29 with (first
                    | (with_reducible refine wpl_load_addr rfl 28 (.tmp 150) rfl ⟨g, i * 25, none⟩ P.p.cells HPp.out rfl _ Try.underlying28 rfl 19 info28 (by with_unfolding_all rfl) ?_)
                    | (with_reducible refine wpl_store_last wr rfl 28 (.tmp 13) (.tmp 151) rfl 28 _ P.p.cells.toArray rfl rfl 19 info28 (pcells_size P.p) (by with_unfolding_all rfl) (pcells_one P.p) ?_))
                  try simp only [Act.put]
                  generalize hw7 : World.alloc wr _ = w7
                  have hb7 : Below wr.heap.size wr w7 := by rw [← hw7]; exact (Below.refl _ _).alloc (Nat.le_refl _) _
                  have Hx7 := hide (show w7.heap[wr.heap.size]? = some (.cells P.p.cells.toArray 28 (0, 0)) by rw [← hw7]; exact heap_alloc_last wr _)
                  have Hb7 := hide (Hb.out.trans (hb7.mono hzw))
                  have HPi7 := hide (HPd.out.symm ▸ piece_cells (HP6.out.below Hb7.out) hlt)
                  have HL7 := hide ((HL2.out.below hb7).up hb7.size)
                  have hq7 : wr.heap.size < w7.heap.size := (Array.getElem?_eq_some_iff.1 Hx7.out).1
                  obtain ⟨q, hq⟩ : ∃ q, q = wr.heap.size := ⟨_, rfl⟩
                  rw [← hq] at Hx7 hq7 ⊢
                  clear hw7 hb7 HPi HPp HL2 hq
                  have c24 : w7.cell? ⟨g, i * 25 + 24, none⟩ = some (.string P.pay.data) := by have h := HPi7.out 24 _ rfl; rwa [addrN] at h
                  have hcat : ¬ 9223372036854775807 < (str (List.take (i * s) b.bytes)).size + P.pay.data.size := by
                    have h1 : (str (List.take (i * s) b.bytes)).size ≤ b.bytes.length := by show (List.take (i * s) b.bytes).toArray.size ≤ _; rw [List.size_toArray, List.length_take]; exact Nat.min_le_right _ _
                    have h2 : P.pay.data.size ≤ b.bytes.length := by rw [HPd.out]; show ((b.bytes.drop (i * s)).take s).toArray.size ≤ _; rw [List.size_toArray, List.length_take, List.length_drop]; exact Nat.le_trans (Nat.min_le_right _ _) (Nat.sub_le _ _)
                    have h3 := Hok.out.data
                    have h4 := bytes_len b
                    omega
                  go_upto_region 30 with fail
                  clear hcat
                  clear c24
                  go_upto_region 31 with (first
                    | (with_reducible refine wpl_load_addr rfl 33 (.tmp 162) rfl ⟨g, i * 25, none⟩ P.cells HPi7.out rfl _ Try.underlying33 rfl 25 info33 (by with_unfolding_all rfl) ?_)
                    | (with_reducible refine wpl_build_bns rfl 1 _ rfl [P] rfl (by omega) (by omega) (by with_unfolding_all rfl) ?_)
                    | (at_builtin; refine wpl_app _ rfl bnelems (.tmp 164) (.tmp 165) rfl w7.heap.size (.slice (some ⟨w7.heap.size, 0, none⟩) 1 1) 1 _ rfl (World.ownsRow_lit w7 (rowN [P]).toArray 1 (Nat.le_refl _) (by decide) rfl) w7.heap.size A2 i c2 (rowN (backOf b A c s i)) rfl (by rw [rowN_len, back_len]) (HL7.out.alloc (Nat.le_refl _) _) (rowN_one _) (by unfold maxLen; omega) (by omega) (by simp) ?_; intro A3 c3 w8 hown8 hg8 hat8; have Ho8 := hide hown8; have Hb8 := hide (((Below.refl w7.heap.size w7).alloc (Nat.le_refl _) _).grown hg8 (by simp) (by intro k hk; simp [Value.ownBlock] at hk; omega)); clear hown8 hg8 hat8))
                  have Hb78 := hide (Hb7.out.trans (Hb8.out.mono Hb7.out.size))
                  have HL8 := hide (show Lies w8 w8.heap.size A3 (rowN (backOf b A c s (i + 1))) from by
                    have h := Lies.of_own Ho8.out
                    have e : (rowN [P]).toArray.toList ++ rowN (backOf b A c s i) = rowN (backOf b A c s (i + 1)) := by
                      rw [HPd.out]
                      show _ = rowN (pieceOf b A c s i :: backOf b A c s i)
                      simp [rowN]
                    rw [← e]
                    exact h)
                  have HPi8 := hide (HPd.out.symm ▸ piece_cells (HP6.out.below Hb78.out) hlt)
                  have Hx8 := hide ((Hb8.out.block q hq7).trans Hx7.out)
                  have hz8 := Hb78.out.size
                  have hlow : i * s < b.bytes.length := Nat.lt_of_le_of_lt (piece_mul hlt) HCu.out.lo
                  have HF := hide (split_fits Hc.out Hok.out Hle.out)
                  have Hoff := hide (show b.p.off + i * s < 18446744073709551616 from Nat.lt_trans (Nat.add_lt_add_left hlow _) HF.out)
                  have HPo := hide (HPd.out.symm ▸ piece_ok ((HO6.out.below Hb78.out).up hz8) Hoff.out Hok.out.data)
                  have FC := hide (show Calls Try.prog 8 #[.agg P.cells.toArray] w8 fun e w' => e = .returned (.int .i64 0) ∧ Below w8.heap.size w8 w' from by
                    have h := ref11_any P w8.heap.size w8 HPo.out (Nat.le_refl _)
                    rw [show P.check = 0 by rw [HPd.out]; exact piece_check HCu.out A c hlt] at h
                    exact h)
                  clear Ho8 Hx7 HL7 HPi7 Hb7 HF HPo hlow
                  go_wp2_with (with_reducible refine wpl_load_addr rfl 33 (.tmp 169) rfl ⟨g, i * 25, none⟩ P.cells HPi8.out rfl _ Try.underlying33 rfl 25 info33 (by with_unfolding_all rfl) ?_)
                  refine FC.out.mono ?_
                  rintro e w9 ⟨rfl, hb9⟩
                  have Hb9 := hide (Hb78.out.trans (hb9.mono hz8))
                  have HL9 := hide ((HL8.out.below hb9).up hb9.size)
                  have HPi9 := HPd.out.symm ▸ piece_cells (HP6.out.below Hb9.out) hlt
                  have hx9 := range_of_row ((hb9.block q (Array.getElem?_eq_some_iff.1 Hx8.out).1).trans Hx8.out)
                  have hr9 := range_of_row ((Hb9.out.block w.heap.size (Array.getElem?_eq_some_iff.1 Hr4.out).1).trans Hr4.out)
                  have d17 : w9.cell? ⟨q, 17, none⟩ = some (.int .u64 (P.p.off : Int)) := hx9 17 _ rfl
                  have d0 : w9.cell? ⟨q, 0, none⟩ = some (.int .u64 (P.p.fl : Int)) := hx9 0 _ rfl
                  have r17 : w9.cell? ⟨w.heap.size, 17, none⟩ = some (.int .u64 (b.p.off : Int)) := hr9 17 _ rfl
                  have f24 : w9.cell? ⟨g, i * 25 + 24, none⟩ = some (.string P.pay.data) := by have h := HPi9 24 _ rfl; rwa [addrN] at h
                  have f19 : w9.cell? ⟨g, i * 25 + 19, none⟩ = some (.slice P.A P.n P.c) := by have h := HPi9 19 _ rfl; rwa [addrN] at h
                  obtain ⟨z, hz0, HR⟩ := round_any HPd.out HCu.out Hok.out Hoff.out hlt
                  clear hz0
                  have hmulI := HR.mul
                  have hzb := HR.low
                  have huz := HR.u64
                  have hadd := HR.add
                  have hpf := HR.odd
                  have Hrel := hide (after_on (W := w6) (c3 := c3) HPd.out hlt Hb9.out HL9.out)
                  have HRh := hide HR
                  clear HR hx9 hr9 HPi9 hb9 HL9 HPi8 Hx8 Hoff Hb78 Hb8 HL8
                  by_cases h0 : 0 < i
                  · have h0' : (0 : Int) < (i : Int) := by omega
                    rw [HRh.out.first h0] at f19
                    by_cases hl : i < m - 1
                    · have hl' : (i : Int) < (m : Int) - 1 := by omega
                      have hss : ((P.pay.data.size : Int) != (s : Int)) = false := by rw [HRh.out.full hl]; simp
                      go_wp2
                      go_roundw
                      case rel => exact Hrel.out _ rfl _ (Nat.add_comm 1 i)
                      case measure => simp [intOf]; omega
                    · have hl' : ¬ (i : Int) < (m : Int) - 1 := by omega
                      go_wp2
                      go_roundw
                      case rel => exact Hrel.out _ rfl _ (Nat.add_comm 1 i)
                      case measure => simp [intOf]; omega
                  · have h0' : ¬ (0 : Int) < (i : Int) := by omega
                    have hl : i < m - 1 := by omega
                    have hl' : (i : Int) < (m : Int) - 1 := by omega
                    have hss : ((P.pay.data.size : Int) != (s : Int)) = false := by rw [HRh.out.full hl]; simp
                    go_wp2
                    go_roundw
                    case rel => exact Hrel.out _ rfl _ (Nat.add_comm 1 i)
                    case measure => simp [intOf]; omega
                · have hlt' : ¬ (i : Int) < (m : Int) := by omega
                  have him : m = i := by omega
                  subst him
                  clear hlt
                  generalize wr = w10 at *
                  have hr10 := (Hb.out.block w.heap.size (Array.getElem?_eq_some_iff.1 Hr4.out).1).trans Hr4.out
                  have c24 : w10.cell? ⟨w.heap.size, 24, none⟩ = some (.string b.pay.data) := range_of_row hr10 24 _ rfl
                  rw [whole_all b HCu.out]
                  have HF := hide (split_fits Hc.out Hok.out Hle.out)
                  have FJ := hide (join_all A2 m c2 w10.heap.size (backOf b A c s m) w10 HL2.out (fun p hp => by obtain ⟨j, hj, rfl⟩ := (back_mem b A c s m p).1 hp; exact piece_ok ((HO6.out.below Hb.out).up hzw) (Nat.lt_trans (Nat.add_lt_add_left (Nat.lt_of_le_of_lt (piece_mul hj) HCu.out.lo) _) HF.out) Hok.out.data) (back_len b A c s m).symm (Nat.le_refl _) (by omega))
                  clear hr10 HF
                  go_wp2_with fail
                  refine FJ.out.mono ?_
                  rintro e w11 ⟨X, er, rfl, hokX, hJ, hb11⟩
                  have Hb11 := hide (Hb.out.trans (hb11.mono hzw))
                  have HX := hide hokX
                  have HJ := hide hJ
                  have Hval2 := hide (show X.val = .agg X.cells.toArray from rfl)
                  rw [Hval2.out]
                  obtain ⟨q4, hq4⟩ : ∃ q4, q4 = w11.heap.size := ⟨_, rfl⟩
                  have Hq4 := hide hq4
                  clear hb11 hokX hJ FJ hq4 c24 HL2
                  go_upto_region 36 with (with_reducible refine wpl_store_last w11 rfl 33 (.tmp 14) (.tmp 236) rfl 33 _ X.cells.toArray rfl rfl 25 info33 (cells_size X) (by with_unfolding_all rfl) (cells_one X) ?_; rw [← Hq4.out])
                  try simp only [Act.put]
                  generalize hw12 : World.alloc w11 _ = w12
                  have hb12 : Below w11.heap.size w11 w12 := by rw [← hw12]; exact (Below.refl _ _).alloc (Nat.le_refl _) _
                  have Hx12 := hide (show w12.heap[q4]? = some (.cells X.cells.toArray 33 (0, 0)) by rw [← hw12, Hq4.out]; exact heap_alloc_last w11 _)
                  have Hb12 := hide (Hb11.out.trans (hb12.mono Hb11.out.size))
                  have HX12 := hide ((HX.out.below hb12).up hb12.size)
                  clear hw12 hb12 HX
                  have FA2 := hide (awake12_any w12)
                  go_wp2_with fail
                  refine FA2.out.mono ?_
                  rintro e w13 ⟨rfl, hb13⟩
                  have Hb13 := hide (Hb12.out.trans (hb13.mono Hb12.out.size))
                  have Hr13 := hide ((Hb13.out.block w.heap.size (Array.getElem?_eq_some_iff.1 Hr4.out).1).trans Hr4.out)
                  have k0 : w13.cell? ⟨w.heap.size, 0, none⟩ = some (.int .u64 (b.p.fl : Int)) := range_of_row Hr13.out 0 _ rfl
                  clear hb13 FA2
                  go_wp2
                  go_ret
                  exact ⟨rfl, Hb4.out.trans (Hb13.out.mono Hb4.out.size)⟩
            · have hf2b : ((b.p.fl : Int) % 2 == 1) = false := beq_eq_false_iff_ne.2 (by omega)
              clear hf hle hlong hz c24 Hm2 hokA hlA
              have HCu := hide (show Cuts b s m from ⟨Hc.out, Hf.out, Hs1.out, h2, by rw [bytes_len]; exact Hms.out.1, by rw [bytes_len]; exact Hms.out.2.1, Hle.out⟩)
              have HP6 := hide ((HlA.out.below Hb34.out).up Hb34.out.size)
              have HO6 := hide ((HokA.out.below Hb34.out).up Hb34.out.size)
              have Hbm := hide hbig'
              clear HlA HokA Hb34
              go_upto_region 23 with fail
              go_wp2_with fail
              go_loopw [10, 11, 12, 13] (fun s10 s11 s12 s13 wr => ∃ i : Nat, i ≤ m ∧ s12 = .int .i64 (i : Int) ∧ Below w6.heap.size w6 wr ∧ s10 = .string (str (b.bytes.take (i * s))) ∧ ∃ A2 c2, s11 = .slice A2 i c2 ∧ Hid (Lies wr wr.heap.size A2 (rowN (backOf b A c s i)))) (fun s10 s11 s12 s13 wr => m - (intOf s12).toNat)
              case atStart => exact ⟨0, Nat.zero_le _, rfl, Below.refl _ _, by rw [Nat.zero_mul]; rfl, none, 0, rfl, hide (.inl rfl)⟩
              case round =>
                obtain ⟨i, hi, rfl, hb, rfl, A2, c2, rfl, HL2⟩ := hrel
                have Hb := hide hb
                have hzw := hb.size
                clear hb
                by_cases hlt : i < m
                · have hlt' : (i : Int) < (m : Int) := by omega
                  have HPi := hide (piece_cells (HP6.out.below Hb.out) hlt)
                  obtain ⟨P, hP⟩ : ∃ P, P = pieceOf b A c s i := ⟨_, rfl⟩
                  rw [← hP] at HPi
                  have HPd := hide hP
                  clear hP
                  have HPp := hide (show ∀ j v, P.p.cells[j]? = some v → wr.cell? ((⟨g, i * 25, none⟩ : Addr).add j) = some v from fun j v h => HPi.out j v (p_cells h))
                  go_upto_region 29 with (first
                    | (with_reducible refine wpl_load_addr rfl 28 (.tmp 150) rfl ⟨g, i * 25, none⟩ P.p.cells HPp.out rfl _ Try.underlying28 rfl 19 info28 (by with_unfolding_all rfl) ?_)
                    | (with_reducible refine wpl_store_last wr rfl 28 (.tmp 13) (.tmp 151) rfl 28 _ P.p.cells.toArray rfl rfl 19 info28 (pcells_size P.p) (by with_unfolding_all rfl) (pcells_one P.p) ?_))
                  try simp only [Act.put]
                  generalize hw7 : World.alloc wr _ = w7
                  have hb7 : Below wr.heap.size wr w7 := by rw [← hw7]; exact (Below.refl _ _).alloc (Nat.le_refl _) _
                  have Hx7 := hide (show w7.heap[wr.heap.size]? = some (.cells P.p.cells.toArray 28 (0, 0)) by rw [← hw7]; exact heap_alloc_last wr _)
                  have Hb7 := hide (Hb.out.trans (hb7.mono hzw))
                  have HPi7 := hide (HPd.out.symm ▸ piece_cells (HP6.out.below Hb7.out) hlt)
                  have HL7 := hide ((HL2.out.below hb7).up hb7.size)
                  have hq7 : wr.heap.size < w7.heap.size := (Array.getElem?_eq_some_iff.1 Hx7.out).1
                  obtain ⟨q, hq⟩ : ∃ q, q = wr.heap.size := ⟨_, rfl⟩
                  rw [← hq] at Hx7 hq7 ⊢
                  clear hw7 hb7 HPi HPp HL2 hq
                  have c24 : w7.cell? ⟨g, i * 25 + 24, none⟩ = some (.string P.pay.data) := by have h := HPi7.out 24 _ rfl; rwa [addrN] at h
                  have hcat : ¬ 9223372036854775807 < (str (List.take (i * s) b.bytes)).size + P.pay.data.size := by
                    have h1 : (str (List.take (i * s) b.bytes)).size ≤ b.bytes.length := by show (List.take (i * s) b.bytes).toArray.size ≤ _; rw [List.size_toArray, List.length_take]; exact Nat.min_le_right _ _
                    have h2 : P.pay.data.size ≤ b.bytes.length := by rw [HPd.out]; show ((b.bytes.drop (i * s)).take s).toArray.size ≤ _; rw [List.size_toArray, List.length_take, List.length_drop]; exact Nat.le_trans (Nat.min_le_right _ _) (Nat.sub_le _ _)
                    have h3 := Hok.out.data
                    have h4 := bytes_len b
                    omega
                  go_upto_region 30 with fail
                  clear hcat
                  clear c24
                  go_upto_region 31 with (first
                    | (with_reducible refine wpl_load_addr rfl 33 (.tmp 162) rfl ⟨g, i * 25, none⟩ P.cells HPi7.out rfl _ Try.underlying33 rfl 25 info33 (by with_unfolding_all rfl) ?_)
                    | (with_reducible refine wpl_build_bns rfl 1 _ rfl [P] rfl (by omega) (by omega) (by with_unfolding_all rfl) ?_)
                    | (at_builtin; refine wpl_app _ rfl bnelems (.tmp 164) (.tmp 165) rfl w7.heap.size (.slice (some ⟨w7.heap.size, 0, none⟩) 1 1) 1 _ rfl (World.ownsRow_lit w7 (rowN [P]).toArray 1 (Nat.le_refl _) (by decide) rfl) w7.heap.size A2 i c2 (rowN (backOf b A c s i)) rfl (by rw [rowN_len, back_len]) (HL7.out.alloc (Nat.le_refl _) _) (rowN_one _) (by unfold maxLen; omega) (by omega) (by simp) ?_; intro A3 c3 w8 hown8 hg8 hat8; have Ho8 := hide hown8; have Hb8 := hide (((Below.refl w7.heap.size w7).alloc (Nat.le_refl _) _).grown hg8 (by simp) (by intro k hk; simp [Value.ownBlock] at hk; omega)); clear hown8 hg8 hat8))
                  have Hb78 := hide (Hb7.out.trans (Hb8.out.mono Hb7.out.size))
                  have HL8 := hide (show Lies w8 w8.heap.size A3 (rowN (backOf b A c s (i + 1))) from by
                    have h := Lies.of_own Ho8.out
                    have e : (rowN [P]).toArray.toList ++ rowN (backOf b A c s i) = rowN (backOf b A c s (i + 1)) := by
                      rw [HPd.out]
                      show _ = rowN (pieceOf b A c s i :: backOf b A c s i)
                      simp [rowN]
                    rw [← e]
                    exact h)
                  have HPi8 := hide (HPd.out.symm ▸ piece_cells (HP6.out.below Hb78.out) hlt)
                  have Hx8 := hide ((Hb8.out.block q hq7).trans Hx7.out)
                  have hz8 := Hb78.out.size
                  have hlow : i * s < b.bytes.length := Nat.lt_of_le_of_lt (piece_mul hlt) HCu.out.lo
                  have HF := hide (split_fits Hc.out Hok.out Hle.out)
                  have Hoff := hide (show b.p.off + i * s < 18446744073709551616 from Nat.lt_trans (Nat.add_lt_add_left hlow _) HF.out)
                  have HPo := hide (HPd.out.symm ▸ piece_ok ((HO6.out.below Hb78.out).up hz8) Hoff.out Hok.out.data)
                  have FC := hide (show Calls Try.prog 8 #[.agg P.cells.toArray] w8 fun e w' => e = .returned (.int .i64 0) ∧ Below w8.heap.size w8 w' from by
                    have h := ref11_any P w8.heap.size w8 HPo.out (Nat.le_refl _)
                    rw [show P.check = 0 by rw [HPd.out]; exact piece_check HCu.out A c hlt] at h
                    exact h)
                  clear Ho8 Hx7 HL7 HPi7 Hb7 HF HPo hlow
                  go_wp2_with (with_reducible refine wpl_load_addr rfl 33 (.tmp 169) rfl ⟨g, i * 25, none⟩ P.cells HPi8.out rfl _ Try.underlying33 rfl 25 info33 (by with_unfolding_all rfl) ?_)
                  refine FC.out.mono ?_
                  rintro e w9 ⟨rfl, hb9⟩
                  have Hb9 := hide (Hb78.out.trans (hb9.mono hz8))
                  have HL9 := hide ((HL8.out.below hb9).up hb9.size)
                  have HPi9 := HPd.out.symm ▸ piece_cells (HP6.out.below Hb9.out) hlt
                  have hx9 := range_of_row ((hb9.block q (Array.getElem?_eq_some_iff.1 Hx8.out).1).trans Hx8.out)
                  have hr9 := range_of_row ((Hb9.out.block w.heap.size (Array.getElem?_eq_some_iff.1 Hr4.out).1).trans Hr4.out)
                  have d17 : w9.cell? ⟨q, 17, none⟩ = some (.int .u64 (P.p.off : Int)) := hx9 17 _ rfl
                  have d0 : w9.cell? ⟨q, 0, none⟩ = some (.int .u64 (P.p.fl : Int)) := hx9 0 _ rfl
                  have r17 : w9.cell? ⟨w.heap.size, 17, none⟩ = some (.int .u64 (b.p.off : Int)) := hr9 17 _ rfl
                  have f24 : w9.cell? ⟨g, i * 25 + 24, none⟩ = some (.string P.pay.data) := by have h := HPi9 24 _ rfl; rwa [addrN] at h
                  have f19 : w9.cell? ⟨g, i * 25 + 19, none⟩ = some (.slice P.A P.n P.c) := by have h := HPi9 19 _ rfl; rwa [addrN] at h
                  obtain ⟨z, hz0, HR⟩ := round_any HPd.out HCu.out Hok.out Hoff.out hlt
                  clear hz0
                  have hmulI := HR.mul
                  have hzb := HR.low
                  have huz := HR.u64
                  have hadd := HR.add
                  have hpf := HR.odd
                  have Hrel := hide (after_on (W := w6) (c3 := c3) HPd.out hlt Hb9.out HL9.out)
                  have HRh := hide HR
                  clear HR hx9 hr9 HPi9 hb9 HL9 HPi8 Hx8 Hoff Hb78 Hb8 HL8
                  by_cases h0 : 0 < i
                  · have h0' : (0 : Int) < (i : Int) := by omega
                    rw [HRh.out.first h0] at f19
                    by_cases hl : i < m - 1
                    · have hl' : (i : Int) < (m : Int) - 1 := by omega
                      have hss : ((P.pay.data.size : Int) != (s : Int)) = false := by rw [HRh.out.full hl]; simp
                      go_wp2
                      go_roundw
                      case rel => exact Hrel.out _ rfl _ (Nat.add_comm 1 i)
                      case measure => simp [intOf]; omega
                    · have hl' : ¬ (i : Int) < (m : Int) - 1 := by omega
                      go_wp2
                      go_roundw
                      case rel => exact Hrel.out _ rfl _ (Nat.add_comm 1 i)
                      case measure => simp [intOf]; omega
                  · have h0' : ¬ (0 : Int) < (i : Int) := by omega
                    have hl : i < m - 1 := by omega
                    have hl' : (i : Int) < (m : Int) - 1 := by omega
                    have hss : ((P.pay.data.size : Int) != (s : Int)) = false := by rw [HRh.out.full hl]; simp
                    go_wp2
                    go_roundw
                    case rel => exact Hrel.out _ rfl _ (Nat.add_comm 1 i)
                    case measure => simp [intOf]; omega
                · have hlt' : ¬ (i : Int) < (m : Int) := by omega
                  have him : m = i := by omega
                  subst him
                  clear hlt
                  generalize wr = w10 at *
                  have hr10 := (Hb.out.block w.heap.size (Array.getElem?_eq_some_iff.1 Hr4.out).1).trans Hr4.out
                  have c24 : w10.cell? ⟨w.heap.size, 24, none⟩ = some (.string b.pay.data) := range_of_row hr10 24 _ rfl
                  rw [whole_all b HCu.out]
                  have HF := hide (split_fits Hc.out Hok.out Hle.out)
                  have FJ := hide (join_all A2 m c2 w10.heap.size (backOf b A c s m) w10 HL2.out (fun p hp => by obtain ⟨j, hj, rfl⟩ := (back_mem b A c s m p).1 hp; exact piece_ok ((HO6.out.below Hb.out).up hzw) (Nat.lt_trans (Nat.add_lt_add_left (Nat.lt_of_le_of_lt (piece_mul hj) HCu.out.lo) _) HF.out) Hok.out.data) (back_len b A c s m).symm (Nat.le_refl _) (by omega))
                  clear hr10 HF
                  go_wp2_with fail
                  refine FJ.out.mono ?_
                  rintro e w11 ⟨X, er, rfl, hokX, hJ, hb11⟩
                  have Hb11 := hide (Hb.out.trans (hb11.mono hzw))
                  have HX := hide hokX
                  have HJ := hide hJ
                  have Hval2 := hide (show X.val = .agg X.cells.toArray from rfl)
                  rw [Hval2.out]
                  obtain ⟨q4, hq4⟩ : ∃ q4, q4 = w11.heap.size := ⟨_, rfl⟩
                  have Hq4 := hide hq4
                  clear hb11 hokX hJ FJ hq4 c24 HL2
                  go_upto_region 36 with (with_reducible refine wpl_store_last w11 rfl 33 (.tmp 14) (.tmp 236) rfl 33 _ X.cells.toArray rfl rfl 25 info33 (cells_size X) (by with_unfolding_all rfl) (cells_one X) ?_; rw [← Hq4.out])
                  try simp only [Act.put]
                  generalize hw12 : World.alloc w11 _ = w12
                  have hb12 : Below w11.heap.size w11 w12 := by rw [← hw12]; exact (Below.refl _ _).alloc (Nat.le_refl _) _
                  have Hx12 := hide (show w12.heap[q4]? = some (.cells X.cells.toArray 33 (0, 0)) by rw [← hw12, Hq4.out]; exact heap_alloc_last w11 _)
                  have Hb12 := hide (Hb11.out.trans (hb12.mono Hb11.out.size))
                  have HX12 := hide ((HX.out.below hb12).up hb12.size)
                  clear hw12 hb12 HX
                  obtain ⟨her, A', c', hX⟩ := join_pieces HCu.out (back_all b A c s m HCu.out.two) (by omega) HJ.out
                  subst her
                  have hsame : X.sameN b = true := by rw [hX]; exact sameN_back b A' c'
                  have FA2 := hide (awake12_any w12)
                  go_wp2_with fail
                  refine FA2.out.mono ?_
                  rintro e w13 ⟨rfl, hb13⟩
                  have Hb13 := hide (Hb12.out.trans (hb13.mono Hb12.out.size))
                  have Hr13 := hide ((Hb13.out.block w.heap.size (Array.getElem?_eq_some_iff.1 Hr4.out).1).trans Hr4.out)
                  have Hx13 := hide ((hb13.block q4 (Array.getElem?_eq_some_iff.1 Hx12.out).1).trans Hx12.out)
                  have HX13 := hide ((HX12.out.below hb13).up hb13.size)
                  have Hb413 := hide (Hb4.out.trans (Hb13.out.mono Hb4.out.size))
                  have Hk13 := hide ((Hok.out.below (Hb413.out.mono hB)).up (Nat.le_trans hB Hb413.out.size))
                  have k0 : w13.cell? ⟨w.heap.size, 0, none⟩ = some (.int .u64 (b.p.fl : Int)) := range_of_row Hr13.out 0 _ rfl
                  have FSm := hide (show Calls Try.prog 11 #[.agg X.cells.toArray, .agg b.cells.toArray] w13 fun e w' => e = .returned (.bool true) ∧ Below w13.heap.size w13 w' from by
                    have h := rsame_any X b w13.heap.size w13 HX13.out.lies Hk13.out.lies HX13.out.len Hk13.out.len (Nat.le_refl _) HX13.out.few
                    rw [hsame] at h
                    exact h)
                  clear hX hsame hb13 FA2 HX12 Hx12
                  have RX := hide (range_of_row Hx13.out)
                  have RB := hide (range_of_row Hr13.out)
                  go_wp2_with (first | (with_reducible refine wpl_load_want ?_ 33 (.tmp 14) rfl q4 0 _ RX.out rfl _ Try.underlying33 rfl 25 info33 (by with_unfolding_all rfl) ?_) | (with_reducible refine wpl_load_want ?_ 33 (.tmp 2) rfl w.heap.size 0 _ RB.out rfl _ Try.underlying33 rfl 25 info33 (by with_unfolding_all rfl) ?_))
                  refine FSm.out.mono ?_
                  rintro e w14 ⟨rfl, hb14⟩
                  have Hb14 := hide (Hb413.out.trans (hb14.mono Hb413.out.size))
                  clear hb14 FSm
                  go_wp2
                  go_ret
                  exact ⟨rfl, Hb14.out⟩
    · have hS2 : v = .slice none 0 0 ∧ er = b.check := by
        rcases HS.out with ⟨_, h1, h2⟩ | ⟨h, _⟩ | ⟨h, _⟩
        · exact ⟨h1, h2⟩
        · exact absurd h hc
        · exact absurd h hc
      obtain ⟨rfl, rfl⟩ := hS2
      have hcb : (b.check != 0) = true := bne_iff_ne.2 hc
      have hcc : (b.check == b.check) = true := beq_self_eq_true _
      generalize b.check = z at *
      clear HS
      go_wp2_with fail
      refine FA.out.mono ?_
      rintro e w5 ⟨rfl, hb5⟩
      have Hb5 := hide (Hb4.out.trans (hb5.mono Hb4.out.size))
      clear hb5
      go_wp2
      go_ret
      exact ⟨rfl, Hb5.out⟩

end Go.Proofs.Ytlbgcbekjjkokaa
