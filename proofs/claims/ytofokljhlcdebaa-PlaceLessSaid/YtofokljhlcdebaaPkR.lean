/-
  LAYER 20, THE STATEMENTS' OWN: Places of the same lists, at, few.
-/
import Derived.Test.YtofokljhlcdebaaPkQ
namespace Go.Proofs.Ytofokljhlcdebaa
open Go.RowKit Go.Sort
set_option maxRecDepth 8000

theorem pk_at {X : Addr} {W : World} {v : Value} {j : Nat} (h : W.cell? (X.add (j + 1)) = some v) : W.cell? ⟨X.block, X.off + (j + 1), none⟩ = some v := by simpa [Addr.add] using h
set_option maxHeartbeats 4000000 in
theorem places20_same (A1 A2 : Option Addr) (n c1 c2 B : Nat) (l : List Pl2) (w : World) (h1 : Lies w B A1 (rowQ l)) (h2 : Lies w B A2 (rowQ l)) (hn : n = l.length) (hbig : n ≤ 1000000) (hBw : B ≤ w.heap.size) :
    Calls Try.prog 16 #[.slice A1 n c1, .slice A2 n c2] w fun e w' => e = .returned (.bool true) ∧ Below w.heap.size w w' := by
  have H1 := hide h1
  have H2 := hide h2
  have Hn := hide hn
  have Hbig := hide hbig
  have HBw := hide hBw
  clear h1 h2 hn hbig hBw
  go_enter Try.func16, Try.ntmps16
  go_wp2
  go_loopw [5] (fun i wr => ∃ j : Nat, j ≤ n ∧ i = .int .i64 (j : Int) ∧ Hid (Below w.heap.size w wr)) (fun i _ => n - (intOf i).toNat)
  case atStart => exact ⟨0, Nat.zero_le _, rfl, hide (Below.refl _ _)⟩
  case round =>
    obtain ⟨j, hj, rfl, HW⟩ := hrel
    by_cases hlt : j < n
    · have hlt' : (j : Int) < (n : Int) := by omega
      have hjl : j < l.length := by rw [← Hn.out]; exact hlt
      obtain ⟨a, rfl, _, ca⟩ := (H1.out.below (HW.out.mono HBw.out)).elem (f := plc) plc_len hjl (by decide)
      obtain ⟨b, rfl, _, cb⟩ := (H2.out.below (HW.out.mono HBw.out)).elem (f := plc) plc_len hjl (by decide)
      have e7 : wrap64 ((j : Int) + 1) = ((j + 1 : Nat) : Int) := by have := Hbig.out; unfold wrap64; omega
      generalize l[j] = f at *
      clear hjl
      rcases f with ⟨fx, fy⟩
      have a0 : wr.cell? (a.add (j * 2)) = some (.int .i64 fx) := ca 0 _ rfl
      have a1 : wr.cell? ⟨(a.add (j * 2)).block, (a.add (j * 2)).off + 1, none⟩ = some (.int .i64 fy) := pk_at (ca 1 _ rfl)
      have b0 : wr.cell? (b.add (j * 2)) = some (.int .i64 fx) := cb 0 _ rfl
      have b1 : wr.cell? ⟨(b.add (j * 2)).block, (b.add (j * 2)).off + 1, none⟩ = some (.int .i64 fy) := pk_at (cb 1 _ rfl)
      clear ca cb
      go_upto_region 6 with fail
      go_quiet (fail)
      go_wp2
      go_roundw
      case rel => first | exact ⟨j + 1, hlt, congrArg (Value.int .i64) e7, hide (HW.out.trans ⟨rfl, rfl, rfl, Nat.le_refl _, fun _ _ => rfl⟩)⟩ | exact ⟨j + 1, hlt, congrArg (Value.int .i64) (Int.natCast_succ j).symm, hide (HW.out.trans ⟨rfl, rfl, rfl, Nat.le_refl _, fun _ _ => rfl⟩)⟩
      case measure => first | exact measT hlt | exact measT2 e7 hlt | exact measT2 (Int.natCast_succ j).symm hlt
    · obtain rfl : j = n := by omega
      go_wp2
      go_ret
      exact ⟨rfl, HW.out⟩
theorem at20_any (x y : Int) (w : World) : Calls Try.prog 39 #[.int .i64 x, .int .i64 y] w fun e w' => e = .returned (.agg #[.int .i64 x, .int .i64 y]) ∧ Below w.heap.size w w' := by
  have HB := hide ((Below.refl w.heap.size w).alloc (Nat.le_refl _) (.cells #[.int .i64 x, .int .i64 y] 30))
  go_enter Try.func39, Try.ntmps39
  go_wp2
  first
    | (refine bodyPost_ret (v := .agg #[.int .i64 x, .int .i64 y]) (results_cell_row rfl _ _ w.heap.size 30 _ (0, 0) _ rfl (heap_alloc_new w _) Try.underlying30 rfl infoPl2) rfl ?_; exact ⟨rfl, HB.out⟩)
    | (go_ret; exact ⟨rfl, HB.out⟩)
/-- What few keeps. -/
def fewP (q : Cq) : Bool := decide (0 < q.ps.length) && decide (q.ps.length ≤ 6)
def fewL (l : List Cq) : List Cq := (l.take 40).filter fewP
theorem fewL_len (l : List Cq) : (fewL l).length ≤ 40 := Nat.le_trans (List.length_filter_le _ _) (by rw [List.length_take]; omega)
theorem fewL_ps {l : List Cq} {q : Cq} (h : q ∈ fewL l) : q ∈ l ∧ 0 < q.ps.length ∧ q.ps.length ≤ 6 := by
  have h1 := List.mem_filter.1 h
  have h2 := h1.2
  unfold fewP at h2
  rw [Bool.and_eq_true, decide_eq_true_eq, decide_eq_true_eq] at h2
  exact ⟨List.mem_of_mem_take h1.1, h2.1, h2.2⟩
structure FewS (w0 : World) (l : List Cq) (k : Nat) (v : Value) (W : World) : Prop where
  own : W.ownsRow w0.heap.size 42 3 v ((l.take k).filter fewP).length (rowK ((l.take k).filter fewP))
  below : Below w0.heap.size w0 W
theorem FewS.later {w0 W W' : World} {l : List Cq} {k : Nat} {v : Value} (h : FewS w0 l k v W) (hb : Below W.heap.size W W') : FewS w0 l k v W' := ⟨own_keepT h.own hb, h.below.trans (hb.mono h.below.size)⟩
theorem few_next {l : List Cq} {k : Nat} (h : k < l.length) : (l.take (k + 1)).filter fewP = if fewP l[k] = true then (l.take k).filter fewP ++ [l[k]] else (l.take k).filter fewP := by
  rw [← List.take_append_getElem h, List.filter_append]
  by_cases hp : fewP l[k] = true <;> simp [hp]
theorem few40 {a n : Nat} (h : a < n) (h2 : a < 40) : wrap64 ((a : Int) + 1) = ((a + 1 : Nat) : Int) := by unfold wrap64; omega
theorem few40b {k : Nat} (h : k ≤ 40) : k + 1 ≤ maxLen := by unfold maxLen; omega
theorem few40c {k : Nat} (h : k ≤ 40) : (k + 1) * 40 ≤ 140737488355328 := by omega
set_option maxHeartbeats 4000000 in
theorem few20_any (A : Option Addr) (n c B : Nat) (l : List Cq) (w : World) (hl : Vq w B A l) (hB : B ≤ w.heap.size) (hn : n = l.length) :
    Calls Try.prog 15 #[.slice A n c] w fun e w' => ∃ (A2 : Option Addr) (c2 : Nat), e = .returned (.slice A2 (fewL l).length c2) ∧ Vq w' w'.heap.size A2 (fewL l) ∧ Below w.heap.size w w' := by
  have HL := hide hl
  have HB := hide hB
  have Hn := hide hn
  clear hl hn hB
  go_enter Try.func15, Try.ntmps15
  go_wp2
  go_loopw [3, 4] (fun v i wr => ∃ k : Nat, k ≤ min n 40 ∧ i = .int .i64 (k : Int) ∧ Hid (FewS w l k v wr)) (fun _ i _ => min n 40 - (intOf i).toNat)
  case atStart => exact ⟨0, Nat.zero_le _, rfl, hide ⟨World.ownsRow_nil _ _ _ _, Below.refl _ _⟩⟩
  case round =>
    obtain ⟨k, hk, rfl, HC⟩ := hrel
    by_cases hlm : k < min n 40
    · have hlt : k < n := by omega
      have h40 : k < 40 := by omega
      have hlt' : (k : Int) < (n : Int) := by omega
      have g4 : decide ((k : Int) < (n : Int)) = true := decide_eq_true hlt'
      have h40' : (k : Int) < 40 := by omega
      have g5 : decide ((k : Int) < 40) = true := decide_eq_true h40'
      have e7 := few40 hlt h40
      have hnl : k < l.length := by rw [← Hn.out]; exact hlt
      obtain ⟨ad, rfl, hab, hca⟩ := (HL.out.row.below (HC.out.below.mono HB.out)).elem Cq.cells_len hnl (by decide)
      have Hca := hide hca
      have Hnx := hide (few_next hnl)
      have Hgl : Hid (((l.take k).filter fewP).length ≤ 40) := hide (Nat.le_trans (List.length_filter_le _ _) (by rw [List.length_take]; omega))
      generalize l[k] = f at *
      rcases f with ⟨lp, kd, fa, fc, ps⟩
      have x2 : wr.cell? ⟨(ad.add (k * 3)).block, (ad.add (k * 3)).off + 2, none⟩ = some (.slice fa ps.length fc) := pk_at (hca 2 _ rfl)
      clear hca hab hnl
      have Hlt := hide hlm
      have E7 := hide e7
      unfold Cq.cells at Hca
      dsimp only at *
      by_cases hb : fewP ⟨lp, kd, fa, fc, ps⟩ = true
      · have hb2 := hb
        unfold fewP at hb2
        rw [Bool.and_eq_true, decide_eq_true_eq, decide_eq_true_eq] at hb2
        dsimp only at hb2
        have g1 : (0 : Int) < (ps.length : Int) := by omega
        have g1b : decide ((0 : Int) < (ps.length : Int)) = true := decide_eq_true g1
        have g1n : decide (0 < ps.length) = true := decide_eq_true hb2.1
        have g2 : (ps.length : Int) ≤ 6 := by omega
        have g2b : decide ((ps.length : Int) ≤ 6) = true := decide_eq_true g2
        have g2n : decide (ps.length ≤ 6) = true := decide_eq_true hb2.2
        have Hn2 := hide (show (l.take (k + 1)).filter fewP = (l.take k).filter fewP ++ [⟨lp, kd, fa, fc, ps⟩] by rw [Hnx.out, if_pos hb])
        obtain ⟨v3, c3, hv3, _, _⟩ := own_form HC.out.own
        subst hv3
        have HA6 := hide ((Below.refl wr.heap.size wr).alloc (Nat.le_refl _) (.cells #[.int .i64 lp, .int .i64 kd, .slice fa ps.length fc] 42))
        have Hsz := hide (Nat.le_trans HC.out.below.size HA6.out.size)
        clear hb hb2 Hnx
        go_wp2_with (first
          | (with_reducible refine wpl_load_addr rfl 42 (.tmp 34) rfl (ad.add (k * 3)) _ Hca.out rfl _ Try.underlying42 rfl 3 infoCq rfl ?_)
          | (at_builtin; refine wpl_app _ rfl cqelems (.tmp 31) (.tmp 36) rfl w.heap.size (.slice v3 ((l.take k).filter fewP).length c3) ((l.take k).filter fewP).length (rowK ((l.take k).filter fewP)) rfl (own_keepT HC.out.own HA6.out) (wr.heap.size + 1) (some ⟨wr.heap.size, 0, none⟩) 1 1 [.int .i64 lp, .int .i64 kd, .slice fa ps.length fc] rfl (by rfl) (Lies.new wr _ _ _ _ (Nat.lt_succ_self _)) (by simp [Value.oneCell']) (few40b Hgl.out) (few40c Hgl.out) Hsz.out ?_; intro A5 c5 w7 hown hg hat; have HN : Hid (FewS w l (k + 1) (.slice A5 (((l.take k).filter fewP).length + 1) c5) w7) := hide ⟨by rw [Hn2.out, List.length_append, rowK_app]; exact hown, (HC.out.below.trans (HA6.out.mono HC.out.below.size)).grown hg Hsz.out (fun j e => (own_lowS HC.out.own j e).1)⟩; clear hown hg hat))
        go_roundw
        case rel => first | exact ⟨k + 1, Hlt.out, congrArg (Value.int .i64) E7.out, HN⟩ | exact ⟨k + 1, Hlt.out, congrArg (Value.int .i64) (Int.natCast_succ k).symm, HN⟩
        case measure => first | exact measT Hlt.out | exact measT2 E7.out Hlt.out | exact measT2 (Int.natCast_succ k).symm Hlt.out
      · have HN : Hid (FewS w l (k + 1) _ wr) := hide ⟨by rw [Hnx.out, if_neg hb]; exact HC.out.own, HC.out.below⟩
        clear Hnx HC
        unfold fewP at hb
        dsimp only at hb
        by_cases h0 : 0 < ps.length
        · have h6 : ¬ ps.length ≤ 6 := fun h => hb (by rw [decide_eq_true h0, decide_eq_true h]; rfl)
          have g1 : (0 : Int) < (ps.length : Int) := by omega
          have g1b : decide ((0 : Int) < (ps.length : Int)) = true := decide_eq_true g1
          have g1n : decide (0 < ps.length) = true := decide_eq_true h0
          have g2b : decide ((ps.length : Int) ≤ 6) = false := decide_eq_false (by omega)
          have g2n : decide (ps.length ≤ 6) = false := decide_eq_false h6
          clear hb h6
          go_wp2
          go_roundw
          case rel => first | exact ⟨k + 1, Hlt.out, congrArg (Value.int .i64) E7.out, HN⟩ | exact ⟨k + 1, Hlt.out, congrArg (Value.int .i64) (Int.natCast_succ k).symm, HN⟩
          case measure => first | exact measT Hlt.out | exact measT2 E7.out Hlt.out | exact measT2 (Int.natCast_succ k).symm Hlt.out
        · have g1b : decide ((0 : Int) < (ps.length : Int)) = false := decide_eq_false (by omega)
          have g1n : decide (0 < ps.length) = false := decide_eq_false h0
          clear hb h0
          go_wp2
          go_roundw
          case rel => first | exact ⟨k + 1, Hlt.out, congrArg (Value.int .i64) E7.out, HN⟩ | exact ⟨k + 1, Hlt.out, congrArg (Value.int .i64) (Int.natCast_succ k).symm, HN⟩
          case measure => first | exact measT Hlt.out | exact measT2 E7.out Hlt.out | exact measT2 (Int.natCast_succ k).symm Hlt.out
    · have hkm : k = min n 40 := Nat.le_antisymm hk (Nat.le_of_not_lt hlm)
      obtain ⟨v3, c3, hv3, _, _⟩ := own_form HC.out.own
      subst hv3
      have e : (l.take k).filter fewP = fewL l := by
        unfold fewL
        by_cases h : n ≤ 40
        · rw [List.take_of_length_le (by rw [← Hn.out]; omega), List.take_of_length_le (by rw [← Hn.out]; omega)]
        · rw [show k = 40 by omega]
      have HC2 := hide HC.out
      have hw := HC.out.own
      rw [e] at hw ⊢
      have HV := hide (show Vq wr wr.heap.size v3 (fewL l) from ⟨Lies.of_own hw, fun q hq => ((HL.out.each q (fewL_ps hq).1).below (HC2.out.below.mono HB.out)).up (Nat.le_trans HB.out HC2.out.below.size)⟩)
      clear HC hw
      have hend : (decide ((k : Int) < (n : Int)) && decide ((k : Int) < 40)) = false := by
        by_cases h : n ≤ 40
        · rw [decide_eq_false (show ¬ (k : Int) < (n : Int) by omega)]; rfl
        · rw [decide_eq_false (show ¬ (k : Int) < 40 by omega), Bool.and_false]
      cases hd : decide ((k : Int) < (n : Int)) with
      | false =>
        have hd2 : ¬ (k : Int) < (n : Int) := of_decide_eq_false hd
        clear hend
        go_wp2
        go_ret
        first | exact ⟨v3, c3, rfl, HV.out, HC2.out.below⟩ | exact ⟨v3, ⟨c3, rfl⟩, HV.out, HC2.out.below⟩
      | true =>
        rw [hd, Bool.true_and] at hend
        have hd2 : (k : Int) < (n : Int) := of_decide_eq_true hd
        have hd3 : ¬ (k : Int) < 40 := of_decide_eq_false hend
        go_wp2
        go_ret
        first | exact ⟨v3, c3, rfl, HV.out, HC2.out.below⟩ | exact ⟨v3, ⟨c3, rfl⟩, HV.out, HC2.out.below⟩
end Go.Proofs.Ytofokljhlcdebaa
