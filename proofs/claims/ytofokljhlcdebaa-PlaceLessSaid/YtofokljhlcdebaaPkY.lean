/-
  LAYER 20: PlaceLess.
-/
import Derived.Test.YtofokljhlcdebaaPkX
namespace Go.Proofs.Ytofokljhlcdebaa
open Go.RowKit Go.Sort
set_option maxRecDepth 8000

theorem placeLess_off (A A2 : Option Addr) (n c n2 c2 : Nat) (w : World) (h : ¬ n2 ≤ 20) :
    Calls Try.prog 5 #[.slice A n c, .slice A2 n2 c2] w fun e w' => e = .returned (.bool true) ∧ Below w.heap.size w w' := by
  have FA := awake20_any
  have g1 : decide ((20 : Int) < (n2 : Int)) = true := decide_eq_true (by omega)
  have g2 : decide (20 < n2) = true := decide_eq_true (by omega)
  clear h
  go_enter Try.func5, Try.ntmps5
  go_wp2_with fail
  (with_reducible refine (FA _).mono ?_)
  rintro e w2 ⟨rfl, hb⟩
  go_wp2
  go_ret
  exact ⟨rfl, hb⟩
/-- What is told of a choice. -/
structure Told (l : List Cq) (bad : List Int) (L : List Pl2) : Prop where
  len : L.length = l.length
  copy : ∀ (i : Nat) (hi : i < L.length) (hj : i < l.length), L[i] ∈ l[i].ps
  blk : ∀ x ∈ L.map Prod.fst, x ∈ (l.map headP).map Prod.fst
  done : ∀ x ∈ L.map Prod.fst, canP (plsC l) bad L x = false
theorem told_of {l : List Cq} {bad Bl : List Int} (hne : ∀ q ∈ l, 0 < q.ps.length) (h : IsBl Bl (l.map headP)) : Told l bad (runP (plsC l) bad Bl (l.map headP)) := by
  have hl : (l.map headP).length = (plsC l).length := by unfold plsC; rw [List.length_map, List.length_map]
  refine ⟨by rw [runP_len _ _ hl, List.length_map], fun i hi hj => ?_, fun x hx => runP_blocks _ _ hl x hx, runP_done _ _ hl (fun x hx => .inl ((h.2 x).2 hx))⟩
  have := runP_copies (bad := bad) Bl (l.map headP) hl (fun i hi => by
    have hi' : i < l.length := by rw [List.length_map] at hi; exact hi
    unfold plsC
    rw [List.getElem_map, List.getElem_map]
    exact headP_mem (hne _ (List.getElem_mem hi'))) i hi
  unfold plsC at this ⊢
  rw [List.getElem_map] at this
  exact this
theorem take_mem_next {ps : List Pl2} {p : Pl2} {j : Nat} (h : j < ps.length) : decide (p ∈ ps.take (j + 1)) = (decide (p ∈ ps.take j) || decide (ps[j] = p)) := by
  rw [(List.take_append_getElem h).symm]
  simp only [List.mem_append, List.mem_singleton, Bool.decide_or]
  rw [decide_eq_decide.2 (eq_comm (a := p) (b := ps[j]))]
theorem cell_belowB {n k o : Nat} {w w' : World} {a : Addr} (hb : Below n w w') (h : a.block < n) : w'.cell? ⟨(a.add k).block, o, none⟩ = w.cell? ⟨(a.add k).block, o, none⟩ := cell_below20 (a := ⟨(a.add k).block, o, none⟩) hb h (add_blk20 a k)
set_option maxHeartbeats 16000000 in
theorem placeLess_on (A A2 : Option Addr) (n0 c n2 c2 : Nat) (l0 : List Cq) (bad : List Int) (w : World) (hl : Vq w w.heap.size A l0) (hb : Lies w w.heap.size A2 (nums .i64 bad)) (hn : n0 = l0.length) (hn2 : n2 = bad.length) (hok : ∀ q ∈ l0, ∀ p ∈ q.ps, Ok64 p.1) (h : n2 ≤ 20) :
    Calls Try.prog 5 #[.slice A n0 c, .slice A2 n2 c2] w fun e w' => e = .returned (.bool true) ∧ Below w.heap.size w w' := by
  have FA := hide awake20_any
  have FW := hide (few20_any A n0 c w.heap.size l0 w hl (Nat.le_refl _) hn)
  obtain ⟨l, hle⟩ : ∃ l, fewL l0 = l := ⟨_, rfl⟩
  have h40 : l.length ≤ 40 := by rw [← hle]; exact fewL_len l0
  have hhas : l.filter hasPl = l := by rw [← hle]; exact fewL_has l0
  have hpsL : ∀ q ∈ l, 0 < q.ps.length ∧ q.ps.length ≤ 6 ∧ ∀ p ∈ q.ps, Ok64 p.1 := by
    intro q hq
    rw [← hle] at hq
    have h3 := fewL_ps hq
    exact ⟨h3.2.1, h3.2.2, hok q h3.1⟩
  rw [hle] at FW
  have F1 := hide (fun (A5 : Option Addr) (c5 : Nat) W (h1 : Vq W W.heap.size A5 l) (h2 : Lies W W.heap.size A2 (nums .i64 bad)) => choose_any A5 A2 l.length c5 n2 c2 l bad W h1 h2 rfl hn2 (Nat.le_trans h40 (by decide)) (Nat.le_trans h (by decide)) (fun q hq => ⟨Nat.le_trans (hpsL q hq).2.1 (by decide), (hpsL q hq).2.2⟩))
  have FC := hide (fun (A5 A6 : Option Addr) (c5 c6 : Nat) (L : List Pl2) (b : Int) W (h1 : Vq W W.heap.size A5 l) (h2 : Lies W W.heap.size A6 (rowQ L)) (h3 : Lies W W.heap.size A2 (nums .i64 bad)) (h4 : L.length = l.length) => can20_any A5 A6 A2 l.length c5 l.length c6 n2 c2 l L bad b W h1 h2 h3 rfl h4.symm hn2 h4 (Nat.le_trans h40 (by decide)) (Nat.le_trans h (by decide)) (fun q hq => Nat.le_trans (hpsL q hq).2.1 (by decide)))
  have Hhas := hide hhas
  have HB := hide hb
  have H40 := hide h40
  have HpsL := hide hpsL
  have g1 : decide ((20 : Int) < (n2 : Int)) = false := decide_eq_false (by omega)
  have g2 : decide (20 < n2) = false := decide_eq_false (by omega)
  clear hl hb hn hn2 hok h hle h40 hhas hpsL
  go_enter Try.func5, Try.ntmps5
  go_wp2_with fail
  (with_reducible refine FW.out.mono ?_); rintro e w1 ⟨A5, c5, rfl, hv, b1⟩
  have HV := hide hv
  have W1 := hide b1
  clear FW hv b1
  go_wp2_with fail
  (with_reducible refine (F1.out A5 c5 w1 HV.out (HB.out.go W1.out)).mono ?_)
  rintro e w3 ⟨A6, c6, Bl, rfl, hbl, hlc, b3⟩
  rw [Hhas.out] at hbl hlc ⊢
  have HT := hide (told_of (bad := bad) (fun q hq => (HpsL.out q hq).1) hbl)
  have HV3 := hide (show Vq w3 w3.heap.size A5 l from (HV.out.below b3).up b3.size)
  have W3 := hide (W1.out.trans (b3.mono W1.out.size))
  have HB3 := hide (HB.out.go W3.out)
  have HL3 := hide hlc
  clear HV W1 b3 F1 hlc hbl HB Hhas
  generalize runP (plsC l) bad Bl (l.map headP) = L at *
  obtain ⟨n, hn⟩ : ∃ n, l.length = n := ⟨_, rfl⟩
  rw [hn] at FC H40 ⊢
  have Hn := hide hn
  clear hn
  go_wp2
  go_loopw [6, 7] (fun v i wr => ∃ k : Nat, k ≤ n ∧ i = .int .i64 (k : Int) ∧ Hid (Nw w3 l k v wr)) (fun _ i _ => n - (intOf i).toNat)
  case atStart => exact ⟨0, Nat.zero_le _, rfl, hide ⟨World.ownsRow_nil _ _ _ _, Below.refl _ _⟩⟩
  case round =>
    obtain ⟨k, hk, rfl, HA4⟩ := hrel
    by_cases hlt : k < n
    · have hlt' : (k : Int) < (n : Int) := Int.ofNat_lt.2 hlt
      have e7 := few40 hlt (Nat.lt_of_lt_of_le hlt H40.out)
      have hnl : k < l.length := by rw [Hn.out]; exact hlt
      have hnL : k < L.length := by rw [HT.out.len]; exact hnl
      obtain ⟨ad, rfl, hab, hca⟩ := (HV3.out.row.below HA4.out.below).elem Cq.cells_len hnl (by decide)
      have Hnx : Hid ((l.take (k + 1)).map headP = (l.take k).map headP ++ [headP l[k]]) := hide (by rw [← List.take_append_getElem hnl, List.map_append]; rfl)
      have Hpl2 := hide ((HV3.out.each _ (List.getElem_mem hnl)).below HA4.out.below)
      have Hpl3 := hide (HV3.out.each _ (List.getElem_mem hnl))
      have Hp0 := hide (HpsL.out _ (List.getElem_mem hnl)).1
      have Hp6 := hide (HpsL.out _ (List.getElem_mem hnl)).2.1
      have Hcopy := hide (HT.out.copy k hnL hnl)
      obtain ⟨aL, eaL, hbL, hcL⟩ := HL3.out.elem (f := plc) (m := 2) plc_len hnL (by omega)
      subst eaL
      generalize l[k] = f at *
      generalize L[k] = p0 at *
      rcases p0 with ⟨tx, ty⟩
      rcases f with ⟨lp, kd, fa, fc, ps⟩
      dsimp only at *
      have x2 : wr.cell? ⟨(ad.add (k * 3)).block, (ad.add (k * 3)).off + 2, none⟩ = some (.slice fa ps.length fc) := pk_at (hca 2 _ rfl)
      have y2 : w3.cell? ⟨(ad.add (k * 3)).block, (ad.add (k * 3)).off + 2, none⟩ = some (.slice fa ps.length fc) := by
        rw [← cell_belowB HA4.out.below hab]
        exact x2
      have Y2 := hide y2
      have Hab := hide hab
      have HbL := hide hbL
      have HcL := hide hcL
      have Hlt := hide hlt
      have E7 := hide e7
      obtain ⟨ag, rfl, _, hcg⟩ := Hpl2.out.elem (f := plc) (m := 2) plc_len Hp0.out (by decide)
      have hh : ps[0]'Hp0.out = headP ⟨lp, kd, some ag, fc, ps⟩ := by
        unfold headP
        cases ps with
        | nil => exact absurd Hp0.out (by simp)
        | cons p r => rfl
      rw [hh] at hcg
      have Hcg := hide hcg
      have b0 : (0 : Int) < (ps.length : Int) := Int.ofNat_lt.2 Hp0.out
      generalize headP ⟨lp, kd, some ag, fc, ps⟩ = p at *
      rcases p with ⟨px, py⟩
      unfold plc at Hcg
      obtain ⟨v3, c3, hv3, _, _⟩ := own_form HA4.out.own
      subst hv3
      have HA6 := hide ((Below.refl wr.heap.size wr).alloc (Nat.le_refl _) (.cells #[.int .i64 px, .int .i64 py] 30))
      have Hsz := hide (Nat.le_trans HA4.out.below.size HA6.out.size)
      have Hk9 : Hid (k + 1 ≤ 1000) := hide (Nat.le_trans (Nat.succ_le_of_lt hlt) (Nat.le_trans H40.out (by decide)))
      clear hcg hh Hp0 Hpl2 hca hab hnl hnL hlt e7 hk y2 hbL hcL
      rw [show ag.add (0 * 2) = ag by simp [Addr.add]] at Hcg
      go_wp2_with (first
        | (with_reducible refine wpl_load_addr rfl 30 (.tmp 37) rfl ag _ Hcg.out rfl _ Try.underlying30 rfl 2 infoPl2 rfl ?_)
        | (at_builtin; refine wpl_app _ rfl plelems (.tmp 31) (.tmp 39) rfl w3.heap.size (.slice v3 k c3) k (rowQ ((l.take k).map headP)) rfl (own_keepT HA4.out.own HA6.out) (wr.heap.size + 1) (some ⟨wr.heap.size, 0, none⟩) 1 1 [.int .i64 px, .int .i64 py] rfl (by rfl) (Lies.new wr _ _ _ _ (Nat.lt_succ_self _)) (by simp [Value.oneCell']) (few_max Hk9.out) (few_bytes Hk9.out) Hsz.out ?_; intro A9 c9 w7 hown hg hat; have HN : Hid (Nw w3 l (k + 1) (.slice A9 (k + 1) c9) w7) := hide ⟨by rw [Hnx.out, rowQ_app]; exact hown, (HA4.out.below.trans (HA6.out.mono HA4.out.below.size)).grown hg Hsz.out (fun j e => (own_lowS HA4.out.own j e).1)⟩; clear hown hg hat))
      clear HA4 HA6 Hsz Hnx Hcg b0 x2
      go_loopw [8, 9] (fun b i W => ∃ j : Nat, j ≤ ps.length ∧ i = .int .i64 (j : Int) ∧ b = .bool (decide ((tx, ty) ∈ ps.take j)) ∧ Hid (Nw w3 l (k + 1) (.slice A9 (k + 1) c9) W)) (fun _ i _ => ps.length - (intOf i).toNat)
      case atStart => exact ⟨0, Nat.zero_le _, rfl, rfl, HN⟩
      case round =>
        clear HN
        obtain ⟨j, hj, rfl, rfl, HN⟩ := hrel
        have x2 : wr.cell? ⟨(ad.add (k * 3)).block, (ad.add (k * 3)).off + 2, none⟩ = some (.slice (some ag) ps.length fc) := (cell_belowB HN.out.below Hab.out).trans Y2.out
        by_cases hjm : j < ps.length
        · have hjm' : (j : Int) < (ps.length : Int) := Int.ofNat_lt.2 hjm
          have e8 := wrap_s20 (k := j) (Nat.le_trans (Nat.le_of_lt hjm) (Nat.le_trans Hp6.out (by decide)))
          obtain ⟨aq, eaq, haq, hcq⟩ := Hpl3.out.elem (f := plc) (m := 2) plc_len hjm (by omega)
          cases eaq
          have Hnxt := hide (take_mem_next (p := (tx, ty)) hjm)
          generalize ps[j] = q at *
          rcases q with ⟨qx, qy⟩
          have c0 : wr.cell? (ag.add (j * 2)) = some (.int .i64 qx) := (cell_below20 HN.out.below haq (add_blk20 _ _)).trans (hcq 0 _ rfl)
          have c1 : wr.cell? ⟨(ag.add (j * 2)).block, (ag.add (j * 2)).off + 1, none⟩ = some (.int .i64 qy) := (cell_belowB HN.out.below haq).trans (pk_at (hcq 1 _ rfl))
          have d0 : wr.cell? (aL.add (k * 2)) = some (.int .i64 tx) := (cell_below20 HN.out.below HbL.out (add_blk20 _ _)).trans (HcL.out 0 _ rfl)
          have d1 : wr.cell? ⟨(aL.add (k * 2)).block, (aL.add (k * 2)).off + 1, none⟩ = some (.int .i64 ty) := (cell_belowB HN.out.below HbL.out).trans (pk_at (HcL.out 1 _ rfl))
          have Hj := hide hjm
          clear haq hcq hj hjm
          cases hdm : decide ((tx, ty) ∈ ps.take j) with
          | true =>
            have Hres := hide (show decide ((tx, ty) ∈ ps.take (j + 1)) = true by rw [Hnxt.out, hdm]; rfl)
            clear Hnxt hdm
            go_upto_region 16 with fail
            go_quiet (fail)
            have HN2 := hide (HN.out.later (W' := wr.drewN nq) ⟨rfl, rfl, rfl, Nat.le_refl _, fun _ _ => rfl⟩)
            go_wp2
            go_roundw
            case rel => first | exact ⟨j + 1, Hj.out, congrArg (Value.int .i64) e8, congrArg Value.bool Hres.out.symm, HN2⟩ | exact ⟨j + 1, Hj.out, congrArg (Value.int .i64) (Int.natCast_succ j).symm, congrArg Value.bool Hres.out.symm, HN2⟩
            case measure => first | exact measT Hj.out | exact measT2 e8 Hj.out | exact measT2 (Int.natCast_succ j).symm Hj.out
          | false =>
            by_cases hqx : qx = tx
            · subst hqx
              have gx : (qx == qx) = true := beq_self_eq_true _
              by_cases hqy : qy = ty
              · subst hqy
                have gy : (qy == qy) = true := beq_self_eq_true _
                have Hres := hide (show decide ((qx, qy) ∈ ps.take (j + 1)) = true by rw [Hnxt.out, hdm]; simp)
                clear Hnxt hdm
                go_upto_region 16 with fail
                go_quiet (fail)
                have HN2 := hide (HN.out.later (W' := wr.drewN nq) ⟨rfl, rfl, rfl, Nat.le_refl _, fun _ _ => rfl⟩)
                go_wp2
                go_roundw
                case rel => first | exact ⟨j + 1, Hj.out, congrArg (Value.int .i64) e8, congrArg Value.bool Hres.out.symm, HN2⟩ | exact ⟨j + 1, Hj.out, congrArg (Value.int .i64) (Int.natCast_succ j).symm, congrArg Value.bool Hres.out.symm, HN2⟩
                case measure => first | exact measT Hj.out | exact measT2 e8 Hj.out | exact measT2 (Int.natCast_succ j).symm Hj.out
              · have gy : (qy == ty) = false := beq_eq_false_iff_ne.2 hqy
                have Hres := hide (show decide ((qx, ty) ∈ ps.take (j + 1)) = false by rw [Hnxt.out, hdm]; simp [hqy])
                clear Hnxt hdm hqy
                go_upto_region 16 with fail
                go_quiet (fail)
                have HN2 := hide (HN.out.later (W' := wr.drewN nq) ⟨rfl, rfl, rfl, Nat.le_refl _, fun _ _ => rfl⟩)
                go_wp2
                go_roundw
                case rel => first | exact ⟨j + 1, Hj.out, congrArg (Value.int .i64) e8, congrArg Value.bool Hres.out.symm, HN2⟩ | exact ⟨j + 1, Hj.out, congrArg (Value.int .i64) (Int.natCast_succ j).symm, congrArg Value.bool Hres.out.symm, HN2⟩
                case measure => first | exact measT Hj.out | exact measT2 e8 Hj.out | exact measT2 (Int.natCast_succ j).symm Hj.out
            · have gx : (qx == tx) = false := beq_eq_false_iff_ne.2 hqx
              have Hres := hide (show decide ((tx, ty) ∈ ps.take (j + 1)) = false by rw [Hnxt.out, hdm]; simp [hqx])
              clear Hnxt hdm hqx
              go_upto_region 16 with fail
              go_quiet (fail)
              have HN2 := hide (HN.out.later (W' := wr.drewN nq) ⟨rfl, rfl, rfl, Nat.le_refl _, fun _ _ => rfl⟩)
              go_wp2
              go_roundw
              case rel => first | exact ⟨j + 1, Hj.out, congrArg (Value.int .i64) e8, congrArg Value.bool Hres.out.symm, HN2⟩ | exact ⟨j + 1, Hj.out, congrArg (Value.int .i64) (Int.natCast_succ j).symm, congrArg Value.bool Hres.out.symm, HN2⟩
              case measure => first | exact measT Hj.out | exact measT2 e8 Hj.out | exact measT2 (Int.natCast_succ j).symm Hj.out
        · have hje : j = ps.length := Nat.le_antisymm hj (Nat.le_of_not_lt hjm)
          have hd : decide ((tx, ty) ∈ ps.take j) = true := by rw [hje, List.take_length]; exact decide_eq_true Hcopy.out
          have hjm' : ¬ (j : Int) < (ps.length : Int) := fun h => hjm (Int.ofNat_lt.1 h)
          have e9 := E7.out
          rw [hd]
          clear hje hd hj hjm
          go_wp2
          go_roundw
          case rel => first | exact ⟨k + 1, Hlt.out, congrArg (Value.int .i64) E7.out, HN⟩ | exact ⟨k + 1, Hlt.out, congrArg (Value.int .i64) (Int.natCast_succ k).symm, HN⟩
          case measure => first | exact measT Hlt.out | exact measT2 E7.out Hlt.out | exact measT2 (Int.natCast_succ k).symm Hlt.out
    · obtain rfl : k = n := Nat.le_antisymm hk (Nat.le_of_not_lt hlt)
      have e : l.take k = l := List.take_of_length_le (Nat.le_of_eq Hn.out)
      obtain ⟨v3, c3, hv3, _, _⟩ := own_form HA4.out.own
      subst hv3
      have hown := HA4.out.own
      rw [e] at hown
      have HLn := hide (Lies.of_own hown)
      have W4 := hide (W3.out.trans (HA4.out.below.mono W3.out.size))
      have HVq := hide (show Vq wr wr.heap.size A5 l from (HV3.out.below HA4.out.below).up HA4.out.below.size)
      have HLq := hide (HL3.out.go HA4.out.below)
      have HBq := hide (HB3.out.go HA4.out.below)
      clear HA4 hown e hlt hk HV3 HL3 HB3 W3
      go_wp2
      go_loopw [10] (fun i W => ∃ j : Nat, j ≤ k ∧ i = .int .i64 (j : Int) ∧ Hid (Below wr.heap.size wr W)) (fun i _ => k - (intOf i).toNat)
      case atStart => exact ⟨0, Nat.zero_le _, rfl, hide (Below.refl _ _)⟩
      case round =>
        obtain ⟨j, hj, rfl, HW⟩ := hrel
        by_cases hjm : j < k
        · have hjm' : (j : Int) < (k : Int) := Int.ofNat_lt.2 hjm
          have e8 := wrap_s20 (k := j) (Nat.le_trans (Nat.le_of_lt hjm) (Nat.le_trans H40.out (by decide)))
          have hjL : j < L.length := by rw [HT.out.len, Hn.out]; exact hjm
          obtain ⟨aL, eaL, _, hcL⟩ := (HLq.out.below HW.out).elem (f := plc) (m := 2) plc_len hjL (by omega)
          subst eaL
          have hmem : L[j].1 ∈ L.map Prod.fst := List.mem_map.2 ⟨_, List.getElem_mem hjL, rfl⟩
          have h1 := decide_eq_true (HT.out.blk _ hmem)
          have h2 := HT.out.done _ hmem
          have d0 : wr.cell? (aL.add (j * 2)) = some (.int .i64 L[j].1) := hcL 0 _ rfl
          generalize L[j].1 = x at *
          have FI := in20_any v3 k c3 wr.heap.size (l.map headP) x wr ((HLn.out.below HW.out).up HW.out.size) (by rw [List.length_map, Hn.out]) (Nat.le_trans H40.out (by decide))
          rw [h1] at FI
          have FCc := FC.out A5 (some aL) c5 c6 L x wr ((HVq.out.below HW.out).up HW.out.size) (HLq.out.go HW.out) (HBq.out.go HW.out) (by rw [HT.out.len, Hn.out])
          unfold canR at FCc
          rw [h2, Bool.and_false] at FCc
          have FI2 := hide FI
          have FC2 := hide FCc
          clear h1 h2 hmem hcL FI FCc hjL hj
          go_wp2_with (first
            | (go_at_call 19; (with_reducible refine FI2.out.mono ?_); rintro e w5 ⟨rfl, hw5⟩; subst hw5)
            | (go_at_call 20; (with_reducible refine FC2.out.mono ?_); rintro e w6 ⟨rfl, hb6⟩; have HW2 := hide (HW.out.trans (hb6.mono HW.out.size)); clear hb6))
          go_roundw
          case rel => first | exact ⟨j + 1, hjm, congrArg (Value.int .i64) e8, HW2⟩ | exact ⟨j + 1, hjm, congrArg (Value.int .i64) (Int.natCast_succ j).symm, HW2⟩
          case measure => first | exact measT hjm | exact measT2 e8 hjm | exact measT2 (Int.natCast_succ j).symm hjm
        · have hjm' : ¬ (j : Int) < (k : Int) := fun h => hjm (Int.ofNat_lt.1 h)
          have W5 := hide (W4.out.trans (HW.out.mono W4.out.size))
          clear hj hjm W4 HW
          go_wp2_with fail
          (with_reducible refine (FA.out _).mono ?_)
          rintro e w9 ⟨rfl, b9⟩
          have W9 := hide (W5.out.trans (b9.mono W5.out.size))
          clear b9
          go_wp2
          go_ret
          exact ⟨rfl, W9.out⟩
theorem placeLess_any (A A2 : Option Addr) (n c n2 c2 : Nat) (l0 : List Cq) (bad : List Int) (w : World) (hl : Vq w w.heap.size A l0) (hb : Lies w w.heap.size A2 (nums .i64 bad)) (hn : n = l0.length) (hn2 : n2 = bad.length) (hok : ∀ q ∈ l0, ∀ p ∈ q.ps, Ok64 p.1) :
    Calls Try.prog 5 #[.slice A n c, .slice A2 n2 c2] w fun e w' => e = .returned (.bool true) ∧ Below w.heap.size w w' := by
  by_cases h : n2 ≤ 20
  · exact placeLess_on A A2 n c n2 c2 l0 bad w hl hb hn hn2 hok h
  · exact placeLess_off A A2 n c n2 c2 w h
end Go.Proofs.Ytofokljhlcdebaa
