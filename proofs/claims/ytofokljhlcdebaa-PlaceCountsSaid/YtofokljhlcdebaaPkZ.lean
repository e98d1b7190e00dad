/-
  LAYER 20: PlaceCounts.
-/
import Derived.Test.YtofokljhlcdebaaPkW
namespace Go.Proofs.Ytofokljhlcdebaa
open Go.RowKit Go.Sort
set_option maxRecDepth 8000

theorem fourBox {v0 v1 v2 v3 : Value} (w : World) (wb : World) (e : w.alloc (.cells #[v0, v1, v2, v3] 52) = wb) : (wb.cell? ⟨w.heap.size, 0, none⟩ = some v0 ∧ wb.cell? ⟨w.heap.size, 1, none⟩ = some v1 ∧ wb.cell? ⟨w.heap.size, 2, none⟩ = some v2 ∧ wb.cell? ⟨w.heap.size, 3, none⟩ = some v3) ∧ Below w.heap.size w wb := by
  have h : wb.heap[w.heap.size]? = some (.cells #[v0, v1, v2, v3] 52) := by rw [← e]; exact heap_alloc_new w _
  have hb : Below w.heap.size w wb := by rw [← e]; exact (Below.refl _ _).alloc (Nat.le_refl _) _
  refine ⟨⟨?_, ?_, ?_, ?_⟩, hb⟩ <;> simp [World.cell?, h]
set_option maxHeartbeats 4000000 in
theorem placeCounts_off (A A2 A3 : Option Addr) (n c n2 c2 n3 c3 : Nat) (b : Int) (w : World) (h : ¬ ((n ≤ 60 ∧ n2 ≤ 60) ∧ n3 ≤ 20)) :
    Calls Try.prog 6 #[.agg #[.slice A n c, .slice A2 n2 c2, .slice A3 n3 c3, .int .i64 b]] w fun e w' => e = .returned (.bool true) ∧ Below w.heap.size w w' := by
  have FA := hide awake20_any
  have HX := hide (fourBox (v0 := .slice A n c) (v1 := .slice A2 n2 c2) (v2 := .slice A3 n3 c3) (v3 := .int .i64 b) w _ rfl)
  have g : (decide ((60 : Int) < (n : Int)) || decide ((60 : Int) < (n2 : Int)) || decide ((20 : Int) < (n3 : Int))) = true := by
    simp only [Bool.or_eq_true, decide_eq_true_eq]
    omega
  clear h
  go_enter Try.func6, Try.ntmps6
  go_upto_region 1 with fail
  generalize w.alloc (.cells #[.slice A n c, .slice A2 n2 c2, .slice A3 n3 c3, .int .i64 b] 52) = wb at *
  obtain ⟨⟨x0, x1, x2, x3⟩, _⟩ := HX.out
  go_quiet (fail)
  have WZ := hide (show Below w.heap.size w (wb.drewN nq) from HX.out.2.trans ⟨rfl, rfl, rfl, Nat.le_refl _, fun _ _ => rfl⟩)
  clear x0 x1 x2 x3 HX
  generalize wb.drewN nq = wz at *
  cases g1 : decide ((60 : Int) < (n : Int)) <;> cases g2 : decide ((60 : Int) < (n2 : Int)) <;> cases g3 : decide ((20 : Int) < (n3 : Int)) <;> first
    | (exact absurd (by rw [g1, g2, g3] at g; exact g) (by decide : ¬ ((false || false || false) = true)))
    | (go_wp2_with fail
       (with_reducible refine (FA.out _).mono ?_)
       rintro e w2 ⟨rfl, hb⟩
       have W2 := hide (WZ.out.trans (hb.mono WZ.out.size))
       go_wp2
       go_ret
       exact ⟨rfl, W2.out⟩)
/-- What the statement has counted and listed. -/
structure Sq (w0 : World) (L : List Pl2) (bad : List Int) (k : Nat) (v : Value) (W : World) : Prop where
  own : W.ownsRow w0.heap.size 30 2 v ((L.take k).filter (stuckQ bad)).length (rowQ ((L.take k).filter (stuckQ bad)))
  below : Below w0.heap.size w0 W
structure Fq (w0 : World) (L : List Pl2) (bad bl : List Int) (k : Nat) (v : Value) (W : World) : Prop where
  own : W.ownsRow w0.heap.size 3 1 v ((bl.take k).filter (freeQ bad L)).length (nums .i64 ((bl.take k).filter (freeQ bad L)))
  below : Below w0.heap.size w0 W
set_option maxHeartbeats 16000000 in
theorem placeCounts_on (A A2 A3 : Option Addr) (n c n2 c2 n3 c3 : Nat) (b : Int) (L : List Pl2) (bl bad : List Int) (w : World) (hL : Lies w w.heap.size A (rowQ L)) (hbl : Lies w w.heap.size A2 (nums .i64 bl)) (hbad : Lies w w.heap.size A3 (nums .i64 bad)) (hn : n = L.length) (hn2 : n2 = bl.length) (hn3 : n3 = bad.length) (hok : ∀ q ∈ L, Ok64 q.1) (hokb : ∀ z ∈ bl, Ok64 z) (h1 : n ≤ 60) (h2 : n2 ≤ 60) (h3 : n3 ≤ 20) :
    Calls Try.prog 6 #[.agg #[.slice A n c, .slice A2 n2 c2, .slice A3 n3 c3, .int .i64 b]] w fun e w' => e = .returned (.bool true) ∧ Below w.heap.size w w' := by
  have FA := hide awake20_any
  have HX := hide (fourBox (v0 := .slice A n c) (v1 := .slice A2 n2 c2) (v2 := .slice A3 n3 c3) (v3 := .int .i64 b) w _ rfl)
  have g1 : decide ((60 : Int) < (n : Int)) = false := decide_eq_false (by omega)
  have g2 : decide ((60 : Int) < (n2 : Int)) = false := decide_eq_false (by omega)
  have g3 : decide ((20 : Int) < (n3 : Int)) = false := decide_eq_false (by omega)
  have HL0 := hide hL
  have Hbl0 := hide hbl
  have Hbad0 := hide hbad
  have Hn := hide hn
  have Hn2 := hide hn2
  have Hn3 := hide hn3
  have Hok := hide hok
  have Hokb := hide hokb
  have H1 := hide h1
  have H2 := hide h2
  have H3 := hide h3
  clear hL hbl hbad hn hn2 hn3 hok hokb h1 h2 h3
  go_enter Try.func6, Try.ntmps6
  go_upto_region 1 with fail
  generalize w.alloc (.cells #[.slice A n c, .slice A2 n2 c2, .slice A3 n3 c3, .int .i64 b] 52) = wb at *
  obtain ⟨⟨x0, x1, x2, x3⟩, _⟩ := HX.out
  go_quiet (fail)
  have WZ := hide (show Below w.heap.size w (wb.drewN nq) from HX.out.2.trans ⟨rfl, rfl, rfl, Nat.le_refl _, fun _ _ => rfl⟩)
  clear x0 x1 x2 x3 HX
  generalize wb.drewN nq = wz at *
  have HL := hide (HL0.out.go WZ.out)
  have Hbl := hide (Hbl0.out.go WZ.out)
  have Hbad := hide (Hbad0.out.go WZ.out)
  clear HL0 Hbl0 Hbad0
  go_wp2
  go_loopw [7, 8, 9] (fun cnt v i W => ∃ k : Nat, k ≤ n ∧ i = .int .i64 (k : Int) ∧ cnt = .int .i64 (cntB b (L.take k) : Int) ∧ Hid (Sq wz L bad k v W)) (fun _ _ i _ => n - (intOf i).toNat)
  case atStart => exact ⟨0, Nat.zero_le _, rfl, rfl, hide ⟨World.ownsRow_nil _ _ _ _, Below.refl _ _⟩⟩
  case round =>
    obtain ⟨k, hk, rfl, rfl, HC⟩ := hrel
    by_cases hlt : k < n
    · have hlt' : (k : Int) < (n : Int) := Int.ofNat_lt.2 hlt
      have e7 := wrap_s20 (k := k) (Nat.le_trans (Nat.le_of_lt hlt) (Nat.le_trans H1.out (by decide)))
      have hkL : k < L.length := by rw [← Hn.out]; exact hlt
      obtain ⟨aL, eaL, _, hcL⟩ := (HL.out.below HC.out.below).elem (f := plc) (m := 2) plc_len hkL (by omega)
      subst eaL
      have Hcn := hide (cntB_next (b := b) hkL)
      have Hst := hide (filt_at (p := stuckQ bad) hkL)
      have hc60 : cntB b (L.take k) ≤ k := by unfold cntB; exact Nat.le_trans (List.length_filter_le _ _) (by rw [List.length_take]; exact Nat.min_le_left _ _)
      have hg60 : ((L.take k).filter (stuckQ bad)).length ≤ k := Nat.le_trans (List.length_filter_le _ _) (by rw [List.length_take]; exact Nat.min_le_left _ _)
      have Hk9 : Hid (((L.take k).filter (stuckQ bad)).length + 1 ≤ 1000) := hide (Nat.le_trans (Nat.succ_le_succ hg60) (Nat.le_trans (Nat.succ_le_of_lt hlt) (Nat.le_trans H1.out (by decide))))
      have e8 := wrap_s20 (k := cntB b (L.take k)) (Nat.le_trans hc60 (Nat.le_trans (Nat.le_of_lt hlt) (Nat.le_trans H1.out (by decide))))
      have FH := hide (hasQ_any A3 n3 c3 wz.heap.size bad (L[k]'hkL).1 wr (Hbad.out.below HC.out.below) Hn3.out (Nat.le_trans H3.out (by decide)))
      have Hlt := hide hlt
      have Hsq : Hid (stuckQ bad (L[k]'hkL) = decide ((L[k]'hkL).1 ∈ bad)) := hide rfl
      generalize L[k]'hkL = p at *
      rcases p with ⟨x, y⟩
      dsimp only at *
      have d0 : wr.cell? (aL.add (k * 2)) = some (.int .i64 x) := hcL 0 _ rfl
      have HcL := hide hcL
      unfold plc at HcL
      obtain ⟨v3, c5, hv3, _, _⟩ := own_form HC.out.own
      subst hv3
      have HA6 := hide ((Below.refl wr.heap.size wr).alloc (Nat.le_refl _) (.cells #[.int .i64 x, .int .i64 y] 30))
      have Hsz := hide (Nat.le_trans HC.out.below.size HA6.out.size)
      clear hcL hkL hc60 hg60 hk hlt
      by_cases hxb : x = b
      · have gx : (x == b) = true := beq_iff_eq.2 hxb
        have Hc := hide (show cntB b (L.take (k + 1)) = cntB b (L.take k) + 1 by rw [Hcn.out, if_pos hxb])
        clear hxb
        cases hs : decide (x ∈ bad) with
        | true =>
          have Hst2 := hide (show (L.take (k + 1)).filter (stuckQ bad) = (L.take k).filter (stuckQ bad) ++ [(x, y)] by rw [Hst.out, Hsq.out, hs, if_pos rfl])
          rw [hs] at FH
          clear hs Hst Hsq Hcn
          go_wp2_with (first
            | (go_at_call 21; (with_reducible refine FH.out.mono ?_); rintro e w5 ⟨rfl, hw5⟩; subst hw5)
            | (with_reducible refine wpl_load_addr rfl 30 (.tmp 59) rfl (aL.add (k * 2)) _ HcL.out rfl _ Try.underlying30 rfl 2 infoPl2 rfl ?_)
            | (at_builtin; refine wpl_app _ rfl plelems (.tmp 56) (.tmp 61) rfl wz.heap.size (.slice v3 ((L.take k).filter (stuckQ bad)).length c5) ((L.take k).filter (stuckQ bad)).length (rowQ ((L.take k).filter (stuckQ bad))) rfl (own_keepT HC.out.own HA6.out) (wr.heap.size + 1) (some ⟨wr.heap.size, 0, none⟩) 1 1 [.int .i64 x, .int .i64 y] rfl (by rfl) (Lies.new wr _ _ _ _ (Nat.lt_succ_self _)) (by simp [Value.oneCell']) (few_max Hk9.out) (few_bytes Hk9.out) Hsz.out ?_; intro A9 c9 w7 hown hg hat; have HN : Hid (Sq wz L bad (k + 1) (.slice A9 (((L.take k).filter (stuckQ bad)).length + 1) c9) w7) := hide ⟨by rw [Hst2.out, List.length_append, rowQ_app]; exact hown, (HC.out.below.trans (HA6.out.mono HC.out.below.size)).grown hg Hsz.out (fun j e => (own_lowS HC.out.own j e).1)⟩; clear hown hg hat))
          go_roundw
          case rel => first | exact ⟨k + 1, Hlt.out, congrArg (Value.int .i64) e7, by rw [Hc.out]; first | exact congrArg (Value.int .i64) e8 | exact congrArg (Value.int .i64) (Int.natCast_succ _).symm, HN⟩ | exact ⟨k + 1, Hlt.out, congrArg (Value.int .i64) (Int.natCast_succ k).symm, by rw [Hc.out]; first | exact congrArg (Value.int .i64) e8 | exact congrArg (Value.int .i64) (Int.natCast_succ _).symm, HN⟩
          case measure => first | exact measT Hlt.out | exact measT2 e7 Hlt.out | exact measT2 (Int.natCast_succ k).symm Hlt.out
        | false =>
          have HN : Hid (Sq wz L bad (k + 1) (.slice v3 ((L.take k).filter (stuckQ bad)).length c5) wr) := hide ⟨by rw [Hst.out, Hsq.out, hs, if_neg (by decide)]; exact HC.out.own, HC.out.below⟩
          rw [hs] at FH
          clear hs Hst Hsq Hcn HC HA6 Hsz
          go_wp2_with (go_at_call 21; (with_reducible refine FH.out.mono ?_); rintro e w5 ⟨rfl, hw5⟩; subst hw5)
          go_roundw
          case rel => first | exact ⟨k + 1, Hlt.out, congrArg (Value.int .i64) e7, by rw [Hc.out]; first | exact congrArg (Value.int .i64) e8 | exact congrArg (Value.int .i64) (Int.natCast_succ _).symm, HN⟩ | exact ⟨k + 1, Hlt.out, congrArg (Value.int .i64) (Int.natCast_succ k).symm, by rw [Hc.out]; first | exact congrArg (Value.int .i64) e8 | exact congrArg (Value.int .i64) (Int.natCast_succ _).symm, HN⟩
          case measure => first | exact measT Hlt.out | exact measT2 e7 Hlt.out | exact measT2 (Int.natCast_succ k).symm Hlt.out
      · have gx : (x == b) = false := beq_eq_false_iff_ne.2 hxb
        have Hc := hide (show cntB b (L.take (k + 1)) = cntB b (L.take k) by rw [Hcn.out, if_neg hxb]; rfl)
        clear hxb
        cases hs : decide (x ∈ bad) with
        | true =>
          have Hst2 := hide (show (L.take (k + 1)).filter (stuckQ bad) = (L.take k).filter (stuckQ bad) ++ [(x, y)] by rw [Hst.out, Hsq.out, hs, if_pos rfl])
          rw [hs] at FH
          clear hs Hst Hsq Hcn
          go_wp2_with (first
            | (go_at_call 21; (with_reducible refine FH.out.mono ?_); rintro e w5 ⟨rfl, hw5⟩; subst hw5)
            | (with_reducible refine wpl_load_addr rfl 30 (.tmp 59) rfl (aL.add (k * 2)) _ HcL.out rfl _ Try.underlying30 rfl 2 infoPl2 rfl ?_)
            | (at_builtin; refine wpl_app _ rfl plelems (.tmp 56) (.tmp 61) rfl wz.heap.size (.slice v3 ((L.take k).filter (stuckQ bad)).length c5) ((L.take k).filter (stuckQ bad)).length (rowQ ((L.take k).filter (stuckQ bad))) rfl (own_keepT HC.out.own HA6.out) (wr.heap.size + 1) (some ⟨wr.heap.size, 0, none⟩) 1 1 [.int .i64 x, .int .i64 y] rfl (by rfl) (Lies.new wr _ _ _ _ (Nat.lt_succ_self _)) (by simp [Value.oneCell']) (few_max Hk9.out) (few_bytes Hk9.out) Hsz.out ?_; intro A9 c9 w7 hown hg hat; have HN : Hid (Sq wz L bad (k + 1) (.slice A9 (((L.take k).filter (stuckQ bad)).length + 1) c9) w7) := hide ⟨by rw [Hst2.out, List.length_append, rowQ_app]; exact hown, (HC.out.below.trans (HA6.out.mono HC.out.below.size)).grown hg Hsz.out (fun j e => (own_lowS HC.out.own j e).1)⟩; clear hown hg hat))
          go_roundw
          case rel => first | exact ⟨k + 1, Hlt.out, congrArg (Value.int .i64) e7, by rw [Hc.out], HN⟩ | exact ⟨k + 1, Hlt.out, congrArg (Value.int .i64) (Int.natCast_succ k).symm, by rw [Hc.out], HN⟩
          case measure => first | exact measT Hlt.out | exact measT2 e7 Hlt.out | exact measT2 (Int.natCast_succ k).symm Hlt.out
        | false =>
          have HN : Hid (Sq wz L bad (k + 1) (.slice v3 ((L.take k).filter (stuckQ bad)).length c5) wr) := hide ⟨by rw [Hst.out, Hsq.out, hs, if_neg (by decide)]; exact HC.out.own, HC.out.below⟩
          rw [hs] at FH
          clear hs Hst Hsq Hcn HC HA6 Hsz
          go_wp2_with (go_at_call 21; (with_reducible refine FH.out.mono ?_); rintro e w5 ⟨rfl, hw5⟩; subst hw5)
          go_roundw
          case rel => first | exact ⟨k + 1, Hlt.out, congrArg (Value.int .i64) e7, by rw [Hc.out], HN⟩ | exact ⟨k + 1, Hlt.out, congrArg (Value.int .i64) (Int.natCast_succ k).symm, by rw [Hc.out], HN⟩
          case measure => first | exact measT Hlt.out | exact measT2 e7 Hlt.out | exact measT2 (Int.natCast_succ k).symm Hlt.out
    · obtain rfl : k = n := Nat.le_antisymm hk (Nat.le_of_not_lt hlt)
      have e : L.take k = L := List.take_of_length_le (by rw [← Hn.out]; exact Nat.le_refl _)
      obtain ⟨v3, c5, hv3, _, _⟩ := own_form HC.out.own
      subst hv3
      have hown := HC.out.own
      rw [e] at hown ⊢
      have HSt := hide (Lies.of_own hown)
      have W4 := hide (WZ.out.trans (HC.out.below.mono WZ.out.size))
      have HLq := hide (HL.out.go HC.out.below)
      have Hblq := hide (Hbl.out.go HC.out.below)
      have Hbq := hide (Hbad.out.go HC.out.below)
      clear HC hown e hlt hk HL Hbl Hbad WZ
      generalize wr = w4 at *
      generalize hm8 : (L.filter (stuckQ bad)).length = m8 at *
      have Hm8 := hide hm8
      clear hm8
      go_wp2
      go_loopw [10, 11] (fun v i W => ∃ j : Nat, j ≤ n2 ∧ i = .int .i64 (j : Int) ∧ Hid (Fq w4 L bad bl j v W)) (fun _ i _ => n2 - (intOf i).toNat)
      case atStart => exact ⟨0, Nat.zero_le _, rfl, hide ⟨World.ownsRow_nil _ _ _ _, Below.refl _ _⟩⟩
      case round =>
        obtain ⟨j, hj, rfl, HC⟩ := hrel
        by_cases hlt : j < n2
        · have hlt' : (j : Int) < (n2 : Int) := Int.ofNat_lt.2 hlt
          have e7 := wrap_s20 (k := j) (Nat.le_trans (Nat.le_of_lt hlt) (Nat.le_trans H2.out (by decide)))
          have hjl : j < bl.length := by rw [← Hn2.out]; exact hlt
          obtain ⟨ab, eab, _, hco⟩ := (Hblq.out.below HC.out.below).num hjl
          subst eab
          have Hst := hide (filt_at (p := freeQ bad L) hjl)
          have hg60 : ((bl.take j).filter (freeQ bad L)).length ≤ j := Nat.le_trans (List.length_filter_le _ _) (by rw [List.length_take]; exact Nat.min_le_left _ _)
          have Hk9 : Hid (((bl.take j).filter (freeQ bad L)).length + 1 ≤ 1000) := hide (Nat.le_trans (Nat.succ_le_succ hg60) (Nat.le_trans (Nat.succ_le_of_lt hlt) (Nat.le_trans H2.out (by decide))))
          have hgd : bl.getD j 0 = bl[j]'hjl := by simp [List.getD, List.getElem?_eq_getElem hjl]
          rw [hgd] at hco
          have d0 : wr.cell? (ab.add j) = some (.int .i64 (bl[j]'hjl)) := hco
          have FH := hide (hasQ_any A3 n3 c3 w4.heap.size bad (bl[j]'hjl) wr (Hbq.out.below HC.out.below) Hn3.out (Nat.le_trans H3.out (by decide)))
          have FI := hide (in20_any A k c w4.heap.size L (bl[j]'hjl) wr (HLq.out.below HC.out.below) Hn.out (Nat.le_trans H1.out (by decide)))
          have Hfq : Hid (freeQ bad L (bl[j]'hjl) = (!decide ((bl[j]'hjl) ∈ bad) && !decide ((bl[j]'hjl) ∈ L.map Prod.fst))) := hide rfl
          have Hlt := hide hlt
          clear hco hgd
          generalize bl[j]'hjl = z at *
          obtain ⟨v5, c6, hv5, _, _⟩ := own_form HC.out.own
          subst hv5
          have HA6 := hide ((Below.refl wr.heap.size wr).alloc (Nat.le_refl _) (.cells #[.int .i64 z] 3))
          have Hsz := hide (Nat.le_trans HC.out.below.size HA6.out.size)
          clear hg60 hjl hj hlt
          cases hs : decide (z ∈ bad) with
          | true =>
            have HN : Hid (Fq w4 L bad bl (j + 1) (.slice v5 ((bl.take j).filter (freeQ bad L)).length c6) wr) := hide ⟨by rw [Hst.out, Hfq.out, hs, if_neg (by simp)]; exact HC.out.own, HC.out.below⟩
            rw [hs] at FH
            clear hs Hst Hfq HC HA6 Hsz FI
            go_wp2_with (go_at_call 21; (with_reducible refine FH.out.mono ?_); rintro e w5 ⟨rfl, hw5⟩; subst hw5)
            go_roundw
            case rel => first | exact ⟨j + 1, Hlt.out, congrArg (Value.int .i64) e7, HN⟩ | exact ⟨j + 1, Hlt.out, congrArg (Value.int .i64) (Int.natCast_succ j).symm, HN⟩
            case measure => first | exact measT Hlt.out | exact measT2 e7 Hlt.out | exact measT2 (Int.natCast_succ j).symm Hlt.out
          | false =>
            cases hi : decide (z ∈ L.map Prod.fst) with
            | true =>
              have HN : Hid (Fq w4 L bad bl (j + 1) (.slice v5 ((bl.take j).filter (freeQ bad L)).length c6) wr) := hide ⟨by rw [Hst.out, Hfq.out, hs, hi, if_neg (by simp)]; exact HC.out.own, HC.out.below⟩
              rw [hs] at FH
              rw [hi] at FI
              clear hs hi Hst Hfq HC HA6 Hsz
              go_wp2_with (first
                | (go_at_call 21; (with_reducible refine FH.out.mono ?_); rintro e w5 ⟨rfl, hw5⟩; subst hw5)
                | (go_at_call 19; (with_reducible refine FI.out.mono ?_); rintro e w5 ⟨rfl, hw5⟩; subst hw5))
              go_roundw
              case rel => first | exact ⟨j + 1, Hlt.out, congrArg (Value.int .i64) e7, HN⟩ | exact ⟨j + 1, Hlt.out, congrArg (Value.int .i64) (Int.natCast_succ j).symm, HN⟩
              case measure => first | exact measT Hlt.out | exact measT2 e7 Hlt.out | exact measT2 (Int.natCast_succ j).symm Hlt.out
            | false =>
              have Hst2 := hide (show (bl.take (j + 1)).filter (freeQ bad L) = (bl.take j).filter (freeQ bad L) ++ [z] by rw [Hst.out, Hfq.out, hs, hi, if_pos (by rfl)])
              rw [hs] at FH
              rw [hi] at FI
              clear hs hi Hst Hfq
              go_wp2_with (first
                | (go_at_call 21; (with_reducible refine FH.out.mono ?_); rintro e w5 ⟨rfl, hw5⟩; subst hw5)
                | (go_at_call 19; (with_reducible refine FI.out.mono ?_); rintro e w5 ⟨rfl, hw5⟩; subst hw5)
                | (at_builtin; refine wpl_app _ rfl ielems (.tmp 85) (.tmp 90) rfl w4.heap.size (.slice v5 ((bl.take j).filter (freeQ bad L)).length c6) ((bl.take j).filter (freeQ bad L)).length (nums .i64 ((bl.take j).filter (freeQ bad L))) rfl (own_keepT HC.out.own HA6.out) (wr.heap.size + 1) (some ⟨wr.heap.size, 0, none⟩) 1 1 [.int .i64 z] rfl (by rfl) (Lies.new wr _ _ _ _ (Nat.lt_succ_self _)) (by simp [Value.oneCell']) (few_max Hk9.out) (Nat.le_trans (Nat.mul_le_mul_left _ (by decide)) (few_bytes Hk9.out)) Hsz.out ?_; intro A9 c9 w7 hown hg hat; have HN : Hid (Fq w4 L bad bl (j + 1) (.slice A9 (((bl.take j).filter (freeQ bad L)).length + 1) c9) w7) := hide ⟨by rw [Hst2.out, List.length_append, show nums .i64 ((bl.take j).filter (freeQ bad L) ++ [z]) = nums .i64 ((bl.take j).filter (freeQ bad L)) ++ [.int .i64 z] by simp [nums]]; exact hown, (HC.out.below.trans (HA6.out.mono HC.out.below.size)).grown hg Hsz.out (fun j e => (own_lowS HC.out.own j e).1)⟩; clear hown hg hat))
              go_roundw
              case rel => first | exact ⟨j + 1, Hlt.out, congrArg (Value.int .i64) e7, HN⟩ | exact ⟨j + 1, Hlt.out, congrArg (Value.int .i64) (Int.natCast_succ j).symm, HN⟩
              case measure => first | exact measT Hlt.out | exact measT2 e7 Hlt.out | exact measT2 (Int.natCast_succ j).symm Hlt.out
        · have e : bl.take j = bl := List.take_of_length_le (by rw [← Hn2.out]; exact Nat.le_of_not_lt hlt)
          have hlt' : ¬ (j : Int) < (n2 : Int) := fun h => hlt (Int.ofNat_lt.1 h)
          obtain ⟨v5, c6, hv5, _, _⟩ := own_form HC.out.own
          subst hv5
          have hown := HC.out.own
          rw [e] at hown ⊢
          have HFr := hide (Lies.of_own hown)
          have W5 := hide (W4.out.trans (HC.out.below.mono W4.out.size))
          have HL5 := hide (HLq.out.go HC.out.below)
          have Hbl5 := hide (Hblq.out.go HC.out.below)
          have Hb5 := hide (Hbq.out.go HC.out.below)
          have HS5 := hide (HSt.out.go HC.out.below)
          clear HC hown e hlt hj HLq Hblq Hbq HSt W4
          go_wp2_with fail
          (with_reducible refine (FA.out _).mono ?_); rintro e w6 ⟨rfl, b6⟩
          have W6 := hide (W5.out.trans (b6.mono W5.out.size))
          have HL6 := hide (HL5.out.go b6)
          have Hbl6 := hide (Hbl5.out.go b6)
          have Hb6 := hide (Hb5.out.go b6)
          have HS6 := hide (HS5.out.go b6)
          have HF6 := hide (HFr.out.go b6)
          clear b6 W5 HL5 Hbl5 Hb5 HS5 HFr FA
          have FU := hide (used_any A k c w6.heap.size L w6 HL6.out (Nat.le_refl _) Hn.out (Nat.le_trans H1.out (by decide)) Hok.out)
          go_wp2_with fail
          (with_reducible refine FU.out.mono ?_); rintro e w7 ⟨A4, c4, Bl, rfl, _, hbl, hblk, hlb, b7⟩
          have HB1 := hide hbl
          have HU := hide hlb.lies
          have Hbk := hide hblk
          have W7 := hide (W6.out.trans (b7.mono W6.out.size))
          have HL7 := hide (HL6.out.go b7)
          have Hbl7 := hide (Hbl6.out.go b7)
          have Hb7 := hide (Hb6.out.go b7)
          have HS7 := hide (HS6.out.go b7)
          have HF7 := hide (HF6.out.go b7)
          clear b7 W6 HL6 Hbl6 Hb6 HS6 HF6 FU hbl hlb hblk
          have FB := hide (blocks20_any A k c L w7 HL7.out Hn.out (Nat.le_trans H1.out (by decide)))
          go_wp2_with fail
          (with_reducible refine FB.out.mono ?_); rintro e w8 ⟨A7, c7, Bl2, rfl, hbl, _, hlb, b8⟩
          have hBe := hbl.same HB1.out
          subst hBe
          have HU2 := hide hlb
          have HU8 := hide (HU.out.go b8)
          have W8 := hide (W7.out.trans (b8.mono W7.out.size))
          have HL8 := hide (HL7.out.go b8)
          have Hbl8 := hide (Hbl7.out.go b8)
          have Hb8 := hide (Hb7.out.go b8)
          have HS8 := hide (HS7.out.go b8)
          have HF8 := hide (HF7.out.go b8)
          clear b8 W7 HL7 Hbl7 Hb7 HS7 HF7 FB hbl hlb HU
          have FI1 := hide (intsQ_any A4 A7 Bl2.length c4 Bl2.length c7 w8.heap.size Bl2 Bl2 w8 HU8.out rfl HU2.out rfl (Nat.le_trans Hbk.out (Nat.le_trans H1.out (by decide))) (Nat.le_refl _))
          rw [decide_eq_true (rfl : Bl2 = Bl2)] at FI1
          go_wp2_with fail
          (with_reducible refine FI1.out.mono ?_); rintro e w9 ⟨rfl, b9⟩
          have W9 := hide (W8.out.trans (b9.mono W8.out.size))
          have HL9 := hide (HL8.out.go b9)
          have Hbl9 := hide (Hbl8.out.go b9)
          have Hb9 := hide (Hb8.out.go b9)
          have HS9 := hide (HS8.out.go b9)
          have HF9 := hide (HF8.out.go b9)
          clear b9 W8 HL8 Hbl8 Hb8 HS8 HF8 FI1 HU8 HU2 Hbk HB1
          have FC := hide (count_any A k c w9.heap.size L b w9 HL9.out (Nat.le_refl _) Hn.out (Nat.le_trans H1.out (by decide)))
          go_wp2_with fail
          (with_reducible refine FC.out.mono ?_); rintro e wa ⟨rfl, ba⟩
          have Wa := hide (W9.out.trans (ba.mono W9.out.size))
          have HLa := hide (HL9.out.go ba)
          have Hbla := hide (Hbl9.out.go ba)
          have Hba := hide (Hb9.out.go ba)
          have HSa := hide (HS9.out.go ba)
          have HFa := hide (HF9.out.go ba)
          clear ba W9 HL9 Hbl9 Hb9 HS9 HF9 FC
          have gcc : ((cntB b L : Int) == (cntB b L : Int)) = true := beq_self_eq_true _
          have gcn : (cntB b L == cntB b L) = true := beq_self_eq_true _
          have FF := hide (free20_any A2 A3 A n2 c2 n3 c3 k c bl bad L wa Hbla.out Hba.out HLa.out Hn2.out Hn3.out Hn.out (Nat.le_trans H2.out (by decide)) (Nat.le_trans H3.out (by decide)) (Nat.le_trans H1.out (by decide)) Hok.out Hokb.out)
          go_wp2_with fail
          (with_reducible refine FF.out.mono ?_); rintro e wc ⟨A8, c8, rfl, hlf, bc⟩
          have HR := hide hlf
          have Wc := hide (Wa.out.trans (bc.mono Wa.out.size))
          have HLc := hide (HLa.out.go bc)
          have Hbc := hide (Hba.out.go bc)
          have HSc := hide (HSa.out.go bc)
          have HFc := hide (HFa.out.go bc)
          clear bc Wa HLa Hbla Hba HSa HFa FF hlf gcc gcn
          have FI2 := hide (intsQ_any A8 v5 (bl.filter (freeQ bad L)).length c8 (bl.filter (freeQ bad L)).length c6 wc.heap.size _ _ wc HR.out rfl HFc.out rfl (Nat.le_trans (List.length_filter_le _ _) (by rw [← Hn2.out]; exact Nat.le_trans H2.out (by decide))) (Nat.le_refl _))
          rw [decide_eq_true (rfl : bl.filter (freeQ bad L) = bl.filter (freeQ bad L))] at FI2
          go_wp2_with fail
          (with_reducible refine FI2.out.mono ?_); rintro e wd ⟨rfl, bd⟩
          have Wd := hide (Wc.out.trans (bd.mono Wc.out.size))
          have HLd := hide (HLc.out.go bd)
          have Hbd := hide (Hbc.out.go bd)
          have HSd := hide (HSc.out.go bd)
          clear bd Wc HLc Hbc HSc HFc FI2 HR
          have FS := hide (stuck_any A A3 k c n3 c3 L bad wd HLd.out Hbd.out Hn.out Hn3.out (Nat.le_trans H1.out (by decide)) (Nat.le_trans H3.out (by decide)))
          rw [Hm8.out] at FS
          go_wp2_with fail
          (with_reducible refine FS.out.mono ?_); rintro e wf ⟨A9, c9, rfl, hls, bf⟩
          have HG := hide hls
          have Wf := hide (Wd.out.trans (bf.mono Wd.out.size))
          have HSf := hide (HSd.out.go bf)
          clear bf Wd HLd Hbd HSd FS hls
          have FP := hide (places20_same A9 v3 m8 c9 c5 wf.heap.size _ wf HG.out HSf.out Hm8.out.symm (by rw [← Hm8.out]; exact Nat.le_trans (List.length_filter_le _ _) (by rw [← Hn.out]; exact Nat.le_trans H1.out (by decide))) (Nat.le_refl _))
          go_wp2_with fail
          (with_reducible refine FP.out.mono ?_); rintro e wg ⟨rfl, bg⟩
          have Wg := hide (Wf.out.trans (bg.mono Wf.out.size))
          clear bg Wf HSf HG FP
          go_wp2
          go_ret
          exact ⟨rfl, Wg.out⟩
theorem placeCounts_any (A A2 A3 : Option Addr) (n c n2 c2 n3 c3 : Nat) (b : Int) (L : List Pl2) (bl bad : List Int) (w : World) (hL : Lies w w.heap.size A (rowQ L)) (hbl : Lies w w.heap.size A2 (nums .i64 bl)) (hbad : Lies w w.heap.size A3 (nums .i64 bad)) (hn : n = L.length) (hn2 : n2 = bl.length) (hn3 : n3 = bad.length) (hok : ∀ q ∈ L, Ok64 q.1) (hokb : ∀ z ∈ bl, Ok64 z) :
    Calls Try.prog 6 #[.agg #[.slice A n c, .slice A2 n2 c2, .slice A3 n3 c3, .int .i64 b]] w fun e w' => e = .returned (.bool true) ∧ Below w.heap.size w w' := by
  by_cases h : (n ≤ 60 ∧ n2 ≤ 60) ∧ n3 ≤ 20
  · exact placeCounts_on A A2 A3 n c n2 c2 n3 c3 b L bl bad w hL hbl hbad hn hn2 hn3 hok hokb h.1.1 h.1.2 h.2
  · exact placeCounts_off A A2 A3 n c n2 c2 n3 c3 b w h
end Go.Proofs.Ytofokljhlcdebaa
