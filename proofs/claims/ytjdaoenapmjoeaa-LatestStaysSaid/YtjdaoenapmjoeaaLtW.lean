/-
  LAYER 19: LatestStays, walked. (By gen/LtW.gen.py.)
-/
import Derived.Test.YtjdaoenapmjoeaaLtV
namespace Go.Proofs.Ytjdaoenapmjoeaa
open Go.RowKit Go.Sort
set_option maxRecDepth 8000

theorem Al.start {w0 W : World} {l more : List Fo} {vs : List Int} {A : Option Addr} {n c : Nat} (hn : n = l.length) (hown : W.ownsRow w0.heap.size 34 9 (.slice A (0 + n) c) (0 + n) ([] ++ rowO l)) (hb : Below w0.heap.size w0 W) : Al w0 l more vs 0 [] (.slice A (0 + n) c) W where
  own := by
    rw [List.append_nil, List.length_nil, Nat.add_zero, ← hn]
    rw [Nat.zero_add] at hown ⊢
    simpa using hown
  idle := fun f hf => by cases hf
  sub := fun f hf => by cases hf
  len := Nat.le_refl _
  below := hb
theorem lt_bytes {n : Nat} (h : n ≤ 80) : (0 + n) * 72 ≤ 140737488355328 := by omega
theorem lt_nums {n N X k m : Nat} (hn : n = N) (h : n ≤ 80) (hX : X ≤ k) (hk : k < m) (hm : m ≤ 20) : N + X + 1 ≤ maxLen ∧ (N + X + 1) * 72 ≤ 140737488355328 := by
  unfold maxLen
  omega
theorem te_ld {k3 : Nat} (hk3 : k3 = 3) {f : Te} {w : World} {p : Addr} {d : Nat} {os : Array Obj} (h : ∀ j v, (Te.cells f)[j]? = some v → w.cell? (p.add j) = some v) :
    Sem.run Try.prog (loadCellsFrom p 0 k3 #[]) (grow (redrawn w d) os) = .ok (Te.cells f).toArray (grow (redrawn w d) os) := by
  subst hk3
  exact run_loadCells_list (P := Try.prog) (grow (redrawn w d) os) p (Te.cells f) (fun j v hv => cell_regrown (h j v hv) d os)
set_option maxHeartbeats 8000000 in
theorem latestStays_on (A A2 A3 : Option Addr) (n c n2 c2 n3 c3 : Nat) (l more : List Fo) (vs : List Int) (w : World) (hl : Lies w w.heap.size A (rowO l)) (hv : Lies w w.heap.size A2 (nums .u64 vs)) (hm : Lies w w.heap.size A3 (rowO more)) (hn : n = l.length) (hn2 : n2 = vs.length) (hn3 : n3 = more.length) (hok : ∀ f ∈ l, f.Ok) (hokm : ∀ f ∈ more, f.Ok) (h1 : n ≤ 80) (h2 : n2 ≤ 40) (h3 : n3 ≤ 20) :
    Calls Try.prog 3 #[.slice A n c, .slice A2 n2 c2, .slice A3 n3 c3] w fun e w' => e = .returned (.bool true) ∧ Below w.heap.size w w' := by
  have FA := hide (fun W => awake19_any W)
  have FL := light19_any A A2 n c n2 c2 w
  rw [decide_eq_true (And.intro h1 h2)] at FL
  have FH := rhigh_any A n c w.heap.size l w hl (Nat.le_refl _) hn (by omega)
  have FOF := hide (fun (z : Int) W (h : Below w.heap.size w W) => rof_any A A2 n c n2 c2 w.heap.size l vs z W (hl.below h) (hv.below h) h.size hn hn2 (by omega) (by omega))
  have FI := hide (fun (z : Int) W (h : Below w.heap.size w W) => is16_any A2 n2 c2 w.heap.size vs z W (hv.below h) hn2 (by omega))
  have FV1 := hide (fun W (h : Below w.heap.size w W) => versions_any A A2 n c n2 c2 w.heap.size l vs W (hl.below h) (hv.below h) h.size hn hn2 (by omega) (by omega) hok)
  have FV2 := hide (fun (X : List Fo) (AX : Option Addr) (nX cX : Nat) W (h : Below w.heap.size w W) (hX : ∀ f ∈ X, f ∈ more) (hXn : X.length ≤ 20) (hnX : nX = l.length + X.length) (hLX : Lies W W.heap.size AX (rowO (l ++ X))) => versions_any AX A2 nX cX n2 c2 W.heap.size (l ++ X) vs W hLX ((hv.below h).up h.size) (Nat.le_refl _) (by rw [List.length_append]; exact hnX) hn2 (by rw [hnX, ← hn]; omega) (by omega) (fun f hf => (List.mem_append.1 hf).elim (hok f) (fun h => hokm f (hX f h))))
  have HL := hide hl
  have HM := hide hm
  have Hn := hide hn
  have Hn3 := hide hn3
  have H3 := hide h3
  have H1 := hide h1
  obtain ⟨br, hbr⟩ : ∃ b, brokenO l = b := ⟨_, rfl⟩
  obtain ⟨hh, hhh⟩ : ∃ b, hiO l = b := ⟨_, rfl⟩
  rw [hbr, hhh] at FH
  have Hbr := hide hbr
  have Hhh := hide hhh
  have g3 : decide ((20 : Int) < (n3 : Int)) = false := decide_eq_false (by omega)
  have g3n : decide (20 < n3) = false := decide_eq_false (by omega)
  clear hl hv hm hn hn2 hn3 hok hokm h1 h2 h3 hbr hhh
  go_enter Try.func3, Try.ntmps3
  go_wp2_with fail
  (with_reducible refine FL.mono ?_)
  rintro e w' ⟨rfl, rfl⟩
  clear FL
  go_wp2_with fail
  (with_reducible refine FH.mono ?_)
  rintro e w1 ⟨rfl, hb⟩
  have HB1 := hide hb
  clear FH hb g3 g3n
  cases br with
  | true =>
    go_wp2_with fail
    (with_reducible refine (FA.out _).mono ?_)
    rintro e w2 ⟨rfl, hb⟩
    go_wp2
    go_ret
    exact ⟨rfl, HB1.out.trans (hb.mono HB1.out.size)⟩
  | false =>
    by_cases h0 : n = 0
    · subst h0
      go_wp2_with fail
      (with_reducible refine (FA.out _).mono ?_)
      rintro e w2 ⟨rfl, hb⟩
      go_wp2
      go_ret
      exact ⟨rfl, HB1.out.trans (hb.mono HB1.out.size)⟩
    · have z1 : ((n : Int) == 0) = false := beq_eq_false_iff_ne.2 (by omega)
      have z2 : (n == 0) = false := beq_eq_false_iff_ne.2 h0
      have Hpos := hide (show 0 < l.length by have := Hn.out; omega)
      have HA1 := hide (HB1.out.alloc HB1.out.size (.cells #[] 34))
      have Hsz := hide (Nat.le_trans (Nat.le_of_eq (Nat.zero_add n)) (Nat.le_trans H1.out (show 80 ≤ maxLen by decide)))
      clear h0
      go_wp2_with (first
        | (at_builtin; refine wpl_app _ rfl foelems (.tmp 38) (.tmp 39) rfl w.heap.size (.slice (some ⟨w1.heap.size, 0, none⟩) 0 0) 0 [] rfl (World.ownsRow_made w1 #[] 0 HB1.out.size (Nat.zero_le _) rfl) w.heap.size A n c (rowO l) rfl (by rw [rowO_len, Hn.out]) (HL.out.below HA1.out) (fun u hu => by obtain ⟨x, _, hx⟩ := List.mem_flatMap.1 hu; exact fo_one x u hx) Hsz.out (lt_bytes H1.out) HA1.out.size ?_; intro A4 c4 w2 hown hg hat; have HA0 : Hid (Al w l more vs 0 [] (.slice A4 (0 + n) c4) w2) := hide (Al.start Hn.out hown (HA1.out.grown hg HA1.out.size (fun x e => by injection e with e; exact e ▸ HB1.out.size))); clear hown hg hat))
      clear HA1 HB1 Hsz z1 z2
      go_loopw [9, 10] (fun v i W => ∃ k : Nat, k ≤ n3 ∧ i = .int .i64 (k : Int) ∧ ∃ X, Hid (Al w l more vs k X v W)) (fun _ i _ => n3 - (intOf i).toNat)
      case atStart => exact ⟨0, Nat.zero_le _, rfl, [], by first | exact HA0 | (have h := HA0.out; rw [Nat.zero_add] at h; exact hide h)⟩
      case round =>
        clear HA0
        obtain ⟨k, hk, rfl, X, HC⟩ := hrel
        by_cases hlt : k < n3
        · have hlt' : (k : Int) < (n3 : Int) := by omega
          have e7 : wrap64 ((k : Int) + 1) = ((k + 1 : Nat) : Int) := by have := H3.out; unfold wrap64; omega
          have hnl : k < more.length := by rw [← Hn3.out]; exact hlt
          obtain ⟨ad, rfl, hab, hca⟩ := (HM.out.below HC.out.below).elem Fo.cells_len hnl (by decide)
          have Hca := hide hca
          have Hin := hide (List.getElem_mem hnl)
          generalize more[k] = f at *
          clear hca hab hnl
          rcases f with ⟨fx, fy, kd, ix, ct, bt, op, lp, ln⟩
          have HX4 := hide (BoxO.new ⟨fx, fy, kd, ix, ct, bt, op, lp, ln⟩ wr)
          have HA4 := hide (HC.out.later ((Below.refl wr.heap.size wr).alloc (Nat.le_refl _) (.cells (Fo.cells ⟨fx, fy, kd, ix, ct, bt, op, lp, ln⟩).toArray 34)))
          have Hlt := hide hlt
          have E7 := hide e7
          unfold Fo.cells at *
          dsimp only at *
          go_upto_region 11 with (with_reducible refine wpl_load_addr rfl 34 (.tmp 49) rfl (ad.add (k * 9)) _ Hca.out rfl _ Try.underlying34 rfl 9 infoFo rfl ?_)
          generalize wr.alloc (.cells #[.int .i64 fx, .int .i64 fy, .int .i64 kd, .int .i64 ix, .int .i64 ct, .int .u64 bt, .int .u64 op, .int .i64 lp, .int .i64 ln] 34) = w4 at *
          have Hq := hide HX4.out.lt
          clear HC Hca
          generalize wr.heap.size = q9 at *
          have x7 := HX4.out.c 7 _ rfl
          dsimp only at x7
          have F := hide (FOF.out lp w4 HA4.out.below)
          go_wp2_with fail
          (with_reducible refine F.out.mono ?_)
          rintro e w5 ⟨Ao, co, O, rfl, hLO, hOm, _, hb⟩
          have HO := hide (HA4.out.later hb)
          have HX := hide (HX4.out.below hb Hq.out)
          have HLO := hide hLO
          have HOm := hide hOm
          clear hLO hOm hb F HA4 HX4 x7
          obtain ⟨vl, cl, hvl, hcl, _⟩ := own_form HO.out.own
          subst hvl
          have HW5 := hide HO.out.below
          have FI5 : ∀ q, Calls Try.prog 8 #[.slice A2 n2 c2, .int .u64 bt] (w5.drewN q) fun e w' => e = .returned (.bool (decide (bt ∈ vs))) ∧ w' = w5.drewN q := fun q => (FI.out bt (w5.drewN q) (HW5.out.trans ⟨rfl, rfl, rfl, Nat.le_refl _, fun _ _ => rfl⟩)).mono fun e w' ⟨h1, h2⟩ => ⟨h1, h2.symm⟩
          have x5 := HX.out.c 5 _ rfl
          dsimp only at x5
          by_cases hle : bt ≤ hh
          · have g1 : decide (bt ≤ hh) = true := decide_eq_true hle
            have Hle := hide (show bt ≤ hiO l from by rw [Hhh.out]; exact hle)
            clear hle
            by_cases hin : bt ∈ vs
            · rw [decide_eq_true hin] at FI5
              have Hidle : Hid (Idle l vs ⟨fx, fy, kd, ix, ct, bt, op, lp, ln⟩) := hide ⟨Hle.out, .inl hin⟩
              clear hin
              go_upto_region 12 with fail
              go_quiet (first | (go_at_call 8; exact Calls.quiet_of_same (FI5 _)))
              have HN := hide (HO.out.later (W' := w5.drewN nq) ⟨rfl, rfl, rfl, Nat.le_refl _, fun _ _ => rfl⟩)
              have HX7 : Hid (BoxO ⟨fx, fy, kd, ix, ct, bt, op, lp, ln⟩ q9 (w5.drewN nq)) := hide HX.out
              clear HO HX x5 FI5 HW5 g1
              generalize w5.drewN nq = w6 at *
              have Hcb := hide (World.news_of_block HX7.out)
              unfold Fo.cells at Hcb
              dsimp only at Hcb
              have HA6 := hide ((Below.refl w6.heap.size w6).alloc (Nat.le_refl _) (.cells #[.int .i64 fx, .int .i64 fy, .int .i64 kd, .int .i64 ix, .int .i64 ct, .int .u64 bt, .int .u64 op, .int .i64 lp, .int .i64 ln] 34))
              have Hnum := hide (lt_nums Hn.out H1.out HN.out.len Hlt.out H3.out)
              go_wp2_with (first
                | (with_reducible refine wpl_load_addr rfl 34 (.tmp 11) rfl ⟨q9, 0, none⟩ _ Hcb.out rfl _ Try.underlying34 rfl 9 infoFo rfl ?_)
                | (at_builtin; refine wpl_app _ rfl foelems (.tmp 85) (.tmp 87) rfl w.heap.size (.slice vl (l.length + X.length) cl) (l.length + X.length) (rowO (l ++ X)) rfl (own_keepT HN.out.own HA6.out) (w6.heap.size + 1) (some ⟨w6.heap.size, 0, none⟩) 1 1 [.int .i64 fx, .int .i64 fy, .int .i64 kd, .int .i64 ix, .int .i64 ct, .int .u64 bt, .int .u64 op, .int .i64 lp, .int .i64 ln] rfl (by rfl) (Lies.new w6 #[.int .i64 fx, .int .i64 fy, .int .i64 kd, .int .i64 ix, .int .i64 ct, .int .u64 bt, .int .u64 op, .int .i64 lp, .int .i64 ln] 34 (0, 0) _ (Nat.lt_succ_self _)) (by simp [Value.oneCell']) Hnum.out.1 Hnum.out.2 (Nat.le_trans HN.out.below.size HA6.out.size) ?_; intro A5 c5 w7 hown hg hat; have HZ := hide (HN.out.add Hidle.out Hin.out HA6.out hg hown); clear hown hg hat))
              go_roundw
              case rel => exact ⟨k + 1, Hlt.out, congrArg (Value.int .i64) E7.out, _, HZ⟩
              case measure => first | exact measT Hlt.out | exact measT2 E7.out Hlt.out
            · rw [decide_eq_false hin] at FI5
              clear hin
              obtain ⟨m, hmO⟩ : ∃ m, O.length = m := ⟨_, rfl⟩
              have Hm := hide hmO
              rw [hmO]
              clear hmO
              by_cases h0 : m = 0
              · subst h0
                go_upto_region 12 with fail
                go_quiet (first | (go_at_call 8; exact Calls.quiet_of_same (FI5 _)))
                have HN := hide (HO.out.later (W' := w5.drewN nq) ⟨rfl, rfl, rfl, Nat.le_refl _, fun _ _ => rfl⟩).up
                go_wp2
                go_roundw
                case rel => exact ⟨k + 1, Hlt.out, congrArg (Value.int .i64) E7.out, X, HN⟩
                case measure => first | exact measT Hlt.out | exact measT2 E7.out Hlt.out
              · have g0 : decide ((0 : Int) < (m : Int)) = true := decide_eq_true (by omega)
                have g0n : decide (0 < m) = true := decide_eq_true (by omega)
                have b0 : (0 : Int) < (m : Int) := by omega
                have hOm0 : 0 < O.length := by rw [Hm.out]; omega
                obtain ⟨ag, rfl, _, hcg⟩ := HLO.out.elem (f := Fo.cells) (m := 9) Fo.cells_len hOm0 (by decide)
                obtain ⟨o0, ho0⟩ : ∃ o0, (O[0]'hOm0).bt = o0 := ⟨_, rfl⟩
                have y5 : w5.cell? ⟨ag.block, ag.off + 2 + 3, none⟩ = some (.int .u64 o0) := by
                  have h := hcg 5 _ rfl
                  rw [ho0] at h
                  have e : ((ag.add (0 * 9)).add 5) = ⟨ag.block, ag.off + 2 + 3, none⟩ := by simp [Addr.add]
                  rw [e] at h
                  exact h
                have y5b : w5.cell? ⟨ag.block, ag.off + 5, none⟩ = some (.int .u64 o0) := y5
                have Hid0 := hide (fun (h : bt < o0) => idle_of (f := ⟨fx, fy, kd, ix, ct, bt, op, lp, ln⟩) HOm.out hOm0 Hle.out (by rw [ho0]; exact h))
                clear hcg ho0 hOm0 h0
                by_cases hlo : bt < o0
                · have g2 : decide (bt < o0) = true := decide_eq_true hlo
                  have Hidle := hide (Hid0.out hlo)
                  clear hlo Hid0
                  go_upto_region 12 with fail
                  go_quiet (first | (go_at_call 8; exact Calls.quiet_of_same (FI5 _)))
                  have HN := hide (HO.out.later (W' := w5.drewN nq) ⟨rfl, rfl, rfl, Nat.le_refl _, fun _ _ => rfl⟩)
                  have HX7 : Hid (BoxO ⟨fx, fy, kd, ix, ct, bt, op, lp, ln⟩ q9 (w5.drewN nq)) := hide HX.out
                  clear HO HX x5 FI5 HW5 g1 g0 g0n b0 y5 y5b g2
                  generalize w5.drewN nq = w6 at *
                  have Hcb := hide (World.news_of_block HX7.out)
                  unfold Fo.cells at Hcb
                  dsimp only at Hcb
                  have HA6 := hide ((Below.refl w6.heap.size w6).alloc (Nat.le_refl _) (.cells #[.int .i64 fx, .int .i64 fy, .int .i64 kd, .int .i64 ix, .int .i64 ct, .int .u64 bt, .int .u64 op, .int .i64 lp, .int .i64 ln] 34))
                  have Hnum := hide (lt_nums Hn.out H1.out HN.out.len Hlt.out H3.out)
                  go_wp2_with (first
                    | (with_reducible refine wpl_load_addr rfl 34 (.tmp 11) rfl ⟨q9, 0, none⟩ _ Hcb.out rfl _ Try.underlying34 rfl 9 infoFo rfl ?_)
                    | (at_builtin; refine wpl_app _ rfl foelems (.tmp 85) (.tmp 87) rfl w.heap.size (.slice vl (l.length + X.length) cl) (l.length + X.length) (rowO (l ++ X)) rfl (own_keepT HN.out.own HA6.out) (w6.heap.size + 1) (some ⟨w6.heap.size, 0, none⟩) 1 1 [.int .i64 fx, .int .i64 fy, .int .i64 kd, .int .i64 ix, .int .i64 ct, .int .u64 bt, .int .u64 op, .int .i64 lp, .int .i64 ln] rfl (by rfl) (Lies.new w6 #[.int .i64 fx, .int .i64 fy, .int .i64 kd, .int .i64 ix, .int .i64 ct, .int .u64 bt, .int .u64 op, .int .i64 lp, .int .i64 ln] 34 (0, 0) _ (Nat.lt_succ_self _)) (by simp [Value.oneCell']) Hnum.out.1 Hnum.out.2 (Nat.le_trans HN.out.below.size HA6.out.size) ?_; intro A5 c5 w7 hown hg hat; have HZ := hide (HN.out.add Hidle.out Hin.out HA6.out hg hown); clear hown hg hat))
                  go_roundw
                  case rel => exact ⟨k + 1, Hlt.out, congrArg (Value.int .i64) E7.out, _, HZ⟩
                  case measure => first | exact measT Hlt.out | exact measT2 E7.out Hlt.out
                · have g2 : decide (bt < o0) = false := decide_eq_false hlo
                  clear hlo Hid0
                  go_upto_region 12 with fail
                  go_quiet (first | (go_at_call 8; exact Calls.quiet_of_same (FI5 _)))
                  have HN := hide (HO.out.later (W' := w5.drewN nq) ⟨rfl, rfl, rfl, Nat.le_refl _, fun _ _ => rfl⟩).up
                  go_wp2
                  go_roundw
                  case rel => exact ⟨k + 1, Hlt.out, congrArg (Value.int .i64) E7.out, X, HN⟩
                  case measure => first | exact measT Hlt.out | exact measT2 E7.out Hlt.out
          · have g1 : decide (bt ≤ hh) = false := decide_eq_false hle
            clear hle
            go_upto_region 12 with fail
            go_quiet (first | (go_at_call 8; exact Calls.quiet_of_same (FI5 _)))
            have HN := hide (HO.out.later (W' := w5.drewN nq) ⟨rfl, rfl, rfl, Nat.le_refl _, fun _ _ => rfl⟩).up
            go_wp2
            go_roundw
            case rel => exact ⟨k + 1, Hlt.out, congrArg (Value.int .i64) E7.out, X, HN⟩
            case measure => first | exact measT Hlt.out | exact measT2 E7.out Hlt.out
        · obtain rfl : k = n3 := by omega
          obtain ⟨vl, cl, hvl, hcl, _⟩ := own_form HC.out.own
          subst hvl
          have HLX := hide (Lies.of_own HC.out.own)
          have HW := hide HC.out.below
          have Hst := hide (stays l X vs Hbr.out Hpos.out HC.out.idle)
          obtain ⟨G, hG⟩ : ∃ G, groupO (voidO l vs) l l = G := ⟨_, rfl⟩
          have Hg2 := hide (show groupO (voidO (l ++ X) vs) (l ++ X) (l ++ X) = G from by rw [Hst.out.2, hG])
          have FW1 := FV1.out wr HC.out.below
          rw [hG] at FW1
          have HGn := hide (show ∀ lp, (G lp).length ≤ 1000000 from fun lp => by
            rw [← hG]
            exact Nat.le_trans (List.length_filter_le _ _) (by have := Hn.out; have := H1.out; omega))
          have HGa := hide (show ∀ lp, (atsO (G lp)).length = (G lp).length from fun lp => by unfold atsO; rw [List.length_map, sortO_len])
          have HC2 := hide (And.intro HC.out.sub (Nat.le_trans HC.out.len (by have := H3.out; omega : k ≤ 20)))
          clear HC hG
          go_wp2_with fail
          (with_reducible refine FW1.mono ?_)
          rintro e w2 ⟨B1, d1, R1, rfl, hV1⟩
          have HV1 := hide hV1
          have hb2 : Below wr.heap.size wr w2 := hV1.below
          have FW2 := FV2.out X vl (l.length + X.length) cl w2 (HW.out.trans (hb2.mono HW.out.size)) HC2.out.1 HC2.out.2 rfl ((HLX.out.below hb2).up hb2.size)
          rw [Hg2.out] at FW2
          clear hV1 FW1 FV1 FV2
          have HW2 := hide (HW.out.trans (hb2.mono HW.out.size))
          clear hb2
          go_wp2_with fail
          (with_reducible refine FW2.mono ?_)
          rintro e w3 ⟨B2, d2, R2, rfl, hV2⟩
          have HV2 := hide hV2
          have HV3 := hide (HV1.out.later hV2.below)
          have HW3 := hide (HW2.out.trans (hV2.below.mono HW2.out.size))
          rw [HV3.out.lens HV2.out]
          have Hlen := hide (HV3.out.lens HV2.out)
          obtain ⟨m, hm⟩ : ∃ m, R1.length = m := ⟨_, rfl⟩
          have Hm := hide hm
          rw [hm]
          have HmB := hide (show m ≤ 1000 from by rw [← hm]; exact HV3.out.len)
          clear hV2 FW2 HV1 hm HW HW2 HLX Hg2 Hst
          have zz : ((m : Int) != (m : Int)) = false := by simp
          have zn : (m != m) = false := by simp
          go_wp2
          go_loopw [15] (fun i W => ∃ j : Nat, j ≤ m ∧ i = .int .i64 (j : Int) ∧ Hid (Below w3.heap.size w3 W)) (fun i _ => m - (intOf i).toNat)
          case atStart => exact ⟨0, Nat.zero_le _, rfl, hide (Below.refl _ _)⟩
          case round =>
            obtain ⟨j, hj, rfl, HQ⟩ := hrel
            by_cases hlt : j < m
            · have hlt' : (j : Int) < (m : Int) := by omega
              have e8 : wrap64 ((j : Int) + 1) = ((j + 1 : Nat) : Int) := by have := HmB.out; unfold wrap64; omega
              have i1 : j < R1.length := by rw [Hm.out]; exact hlt
              have i2 : j < R2.length := by rw [Hlen.out]; exact i1
              have FS := fun W hb => HV3.out.asked HV2.out HGn.out HGa.out j i1 i2 W hb
              obtain ⟨a1, ea1, ha1, hc1⟩ := (HV3.out.lies.below HQ.out).elem (f := Te.cells) (m := 3) Te.cells_len i1 (by decide)
              obtain ⟨a2, ea2, ha2, hc2⟩ := (HV2.out.lies.below HQ.out).elem (f := Te.cells) (m := 3) Te.cells_len i2 (by decide)
              cases ea1
              cases ea2
              obtain ⟨k3, hk3⟩ : ∃ k3, k3 = 3 := ⟨_, rfl⟩
              have l1 := fun d os => te_ld hk3 (d := d) (os := os) hc1
              have l2 := fun d os => te_ld hk3 (d := d) (os := os) hc2
              rw [← hk3] at l1 l2
              have FS2 := fun d os => Calls.regrown_of (FS (grow (redrawn wr d) os) (HQ.out.trans ((below_regrown wr d os).mono HQ.out.size)))
              have aE := Try.isAgg42
              have zE : ∀ w, (Go.sizeOf 42).run Try.prog w = .ok k3 w := fun w => by rw [hk3]; kernel_rfl
              generalize hcs1 : Te.cells R1[j] = cs1 at l1 FS2
              generalize hcs2 : Te.cells R2[j] = cs2 at l2 FS2
              have HQ2 := hide HQ.out
              clear hk3 hcs1 hcs2 hc1 hc2 FS ha1 ha2 HQ
              go_upto_region 20 with fail
              refine wp_region_quiet_below (by kernel_rfl) (by kernel_rfl) ?_
              repeat (go_big_quiet_step (exact FS2 _ _))
              refine wpQuiet_nil ?_
              rintro _ ⟨⟨dq, osq⟩, rfl⟩
              have HQ3 := hide (HQ2.out.trans ((below_regrown wr dq osq).mono HQ2.out.size))
              clear l1 l2 FS2 HQ2 aE zE
              generalize grow (redrawn wr dq) osq = wa at *
              go_wp2
              go_roundw
              case rel => exact ⟨j + 1, hlt, congrArg (Value.int .i64) e8, HQ3⟩
              case measure => first | exact measT hlt | exact measT2 e8 hlt
            · obtain rfl : j = m := by omega
              go_wp2_with fail
              (with_reducible refine (FA.out _).mono ?_)
              rintro e w9 ⟨rfl, hb⟩
              have hb1 := HW3.out.trans (HQ.out.mono HW3.out.size)
              go_wp2
              go_ret
              exact ⟨rfl, hb1.trans (hb.mono hb1.size)⟩
end Go.Proofs.Ytjdaoenapmjoeaa
