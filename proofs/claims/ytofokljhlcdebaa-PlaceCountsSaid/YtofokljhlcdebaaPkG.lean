/-
  LAYER 20, CONTRACT: whether a block can be freed, and what is chosen instead.
-/
import Derived.Test.YtofokljhlcdebaaPkF
namespace Go.Proofs.Ytofokljhlcdebaa
open Go.RowKit
set_option maxRecDepth 8000

theorem nodup_le : ∀ (N : Nat) (l : List Int), l.Nodup → (∀ x ∈ l, ∃ k : Nat, k < N ∧ x = (k : Int)) → l.length ≤ N
  | 0, l, _, h => by
    cases l with
    | nil => exact Nat.le_refl _
    | cons x r => obtain ⟨k, hk, _⟩ := h x (List.mem_cons_self ..); omega
  | N + 1, l, hn, h => by
    by_cases hm : (N : Int) ∈ l
    · have h1 := nodup_le N (l.erase (N : Int)) (hn.erase _) (fun x hx => by
        rw [hn.mem_erase_iff] at hx
        obtain ⟨k, hk, rfl⟩ := h x hx.2
        exact ⟨k, by have := hx.1; omega, rfl⟩)
      rw [List.length_erase_of_mem hm] at h1
      omega
    · have h1 := nodup_le N l hn (fun x hx => by
        obtain ⟨k, hk, rfl⟩ := h x hx
        exact ⟨k, by
          have : k ≠ N := fun e => hm (e ▸ hx)
          omega, rfl⟩)
      omega
theorem UsesB.le {F : Int → List Int} {L : List Pl2} (h : UsesB F L) (b : Int) : (F b).length ≤ L.length :=
  nodup_le L.length (F b) (h b).1 fun x hx => by
    obtain ⟨k, hk, e, _⟩ := ((h b).2 x).1 hx
    exact ⟨k, hk, e⟩
set_option maxHeartbeats 8000000 in
theorem move1_any {A : Option Addr} {nv cv : Nat} {l : List Cq} {bad : List Int} {L : List Pl2} {F : Int → List Int} {bm n : Nat} {D : DataW Value} {V : Int → Value} {lo qb q3 q4 q5 : Nat} {b : Int} {w : World}
    (hM : Mq bad L F bm n D V lo qb q4 q5 w) (h3 : w.heap[q3]? = some (.cells #[.slice A nv cv] 37 (0, 0))) (hq : Vq w w.heap.size A l) (hn : nv = l.length) (hL : L.length = l.length) (hbig : nv ≤ 1000) (hb : Ok64 b) (hps : ∀ q ∈ l, q.ps.length ≤ 1000 ∧ ∀ p ∈ q.ps, Ok64 p.1) :
    Calls Try.prog 60 #[.int .i64 b, .pointer (some ⟨q4, 0, none⟩), .pointer (some ⟨q5, 0, none⟩), .pointer (some ⟨q3, 0, none⟩)] w fun e w' => ∃ (A2 : Option Addr) (m c2 : Nat), e = .returned (.tuple #[.slice A2 m c2, .bool (canP (plsC l) bad L b)]) ∧ (canP (plsC l) bad L b = true → m = (F b).length ∧ LiesB w' w.heap.size w'.heap.size A2 (rowQ ((F b).map (tgtP (plsC l) bad L b)))) ∧ Below w.heap.size w w' := by
  have eg : ∀ args w, (callFunc 64 args).run Try.prog w = .ok (.enter 64 args) w := enters_of Try.func64 (by kernel_rfl) rfl
  have eg2 : ∀ args w, (callFunc 61 args).run Try.prog w = .ok (.enter 61 args) w := enters_of Try.func61 (by kernel_rfl) rfl
  have hb1 : Below w.heap.size w (w.alloc (.cells #[.int .i64 b] 3)) := (Below.refl _ w).alloc (Nat.le_refl _) _
  have hcan := canP_uses hM.uses (vs := plsC l) (by unfold plsC; rw [List.length_map]; exact hL) b (bad := bad)
  have HW : Hid (Mw w A nv cv l bad L F bm n D V lo qb q3 q4 q5 b 0 (.slice none 0 0) (w.alloc (.cells #[.int .i64 b] 3))) := hide
    ⟨hM.later hb1, (hb1.block q3 (Array.getElem?_eq_some_iff.1 h3).1).trans h3, hq.below hb1, heap_alloc_new w _, World.ownsRow_nil _ _ _ _, (fun i hi => by simp at hi), hb1⟩
  have Hq3 := hide (Array.getElem?_eq_some_iff.1 h3).1
  have Hq4 := hide (Array.getElem?_eq_some_iff.1 hM.m4).1
  have Hq5 := hide (Array.getElem?_eq_some_iff.1 hM.m5).1
  have Hqb := hide hM.amg.lt
  have Hbm := hide hM.us.hi
  have HVl := hide (fun x g h => (own_lowS (hM.us.own x) g h).2)
  obtain ⟨AV, cV, hV⟩ := hM.us.form b
  obtain ⟨m, hm⟩ : ∃ m, (F b).length = m := ⟨_, rfl⟩
  have HFl := hide (show m ≤ 1000 from by rw [← hm]; exact Nat.le_trans (hM.uses.le b) (by omega))
  have HFi := hide (fun i hi => ((hM.uses b).2 i).1 hi)
  have Hrow := hide (show Lies w w.heap.size AV (nums .i64 (F b)) from Lies.of_own (by have := hM.us.own b; rwa [hV] at this))
  rw [hm] at hV
  have Hm := hide hm
  have Hn := hide hn
  have HLl := hide hL
  have Hps := hide hps
  have Hbig := hide hbig
  have Hb := hide hb
  have Hcan := hide hcan
  obtain ⟨R, hR⟩ : ∃ R, canP (plsC l) bad L b = R := ⟨_, rfl⟩
  rw [hR] at Hcan ⊢
  have x4 := HW.out.mq.c4
  have x5 := HW.out.mq.c5
  have x10 := HW.out.c10
  have lk := HW.out.mq.us.look hb
  rw [hV] at lk
  have F5 := hide (among1_any bad lo qb b _ HW.out.mq.amg)
  obtain ⟨r, hr⟩ : ∃ r, decide (b ∈ bad) = r := ⟨_, rfl⟩
  rw [hr] at F5
  have Hr := hide hr
  clear hM h3 hq hn hL hps hcan hbig hm hb hr hR hV hb1
  go_enter Try.func60, Try.ntmps60
  cases r with
  | true =>
    have hr : R = false := by
      cases R with
      | false => rfl
      | true => exact absurd (of_decide_eq_true Hr.out) (Hcan.out.1 rfl).1
    subst hr
    go_wp2_with (go_at_fn 64; refine F5.out.mono ?_; rintro e w' ⟨rfl, rfl⟩)
    refine bodyPost_ret (results_tmp2 rfl _ _ _) rfl ?_
    exact ⟨none, 0, 0, rfl, (fun h => by cases h), HW.out.below⟩
  | false =>
    go_wp2_with (go_at_fn 64; refine F5.out.mono ?_; rintro e w' ⟨rfl, rfl⟩)
    clear F5 x4 x5 x10 lk
    generalize w.alloc (.cells #[.int .i64 b] 3) = w1 at *
    obtain ⟨q10, hq10⟩ : ∃ q, w.heap.size = q := ⟨_, rfl⟩
    have Hq10 := hide hq10
    rw [hq10]
    clear hq10
    go_loopw [8, 20] (fun v i wr => ∃ k : Nat, k ≤ m ∧ i = .int .i64 (k : Int) ∧ Hid (Mw w A nv cv l bad L F bm n D V lo qb q3 q4 q5 b k v wr)) (fun _ i _ => m - (intOf i).toNat)
    case atStart => exact ⟨0, Nat.zero_le _, rfl, HW⟩
    case round =>
      clear HW
      obtain ⟨k, hk, rfl, HC⟩ := hrel
      by_cases hlt : k < m
      · have hlt' : (k : Int) < (m : Int) := by omega
        have e7 : wrap64 ((k : Int) + 1) = ((k + 1 : Nat) : Int) := by have := HFl.out; unfold wrap64; omega
        have hkl : k < (F b).length := by rw [Hm.out]; exact hlt
        obtain ⟨av, rfl, hav, hca⟩ := (Hrow.out.below HC.out.below).num hkl
        have hgd : (F b).getD k 0 = (F b)[k] := by simp [List.getD, List.getElem?_eq_getElem hkl]
        obtain ⟨j, hj, hji, hjx⟩ := HFi.out _ (List.getElem_mem hkl)
        have Hi : Hid ((F b)[k]? = some (j : Int)) := hide (by rw [List.getElem?_eq_getElem hkl, hji])
        have Hmem := hide (show (j : Int) ∈ F b from by rw [← hji]; exact List.getElem_mem hkl)
        rw [hgd, hji] at hca
        have hjl : j < l.length := by rw [← HLl.out]; exact hj
        have hjn : (j : Int) < (nv : Int) := by rw [Hn.out]; omega
        have hjw : (0 : Int) ≤ (j : Int) := Int.natCast_nonneg j
        obtain ⟨ad, rfl, _, hcv⟩ := HC.out.vq.row.elem Cq.cells_len hjl (by decide)
        have hq2 := HC.out.vq.each _ (List.getElem_mem hjl)
        have hpq := Hps.out _ (List.getElem_mem hjl)
        have hget : (plsC l).getD (j : Int).toNat [] = (l[j]).ps := by unfold plsC; simp [List.getD, hjl]
        have Htg : Hid (tgtP (plsC l) bad L b (j : Int) = ((l[j]).ps.find? (okP bad L b)).getD (0, 0)) := hide (by unfold tgtP; rw [hget])
        have Hget := hide hget
        generalize l[j] = f at *
        rcases f with ⟨lp, kd, fa, fc, ps⟩
        dsimp only at *
        have c3 := HC.out.c3
        have c2 : wr.cell? ⟨(ad.add (j * 3)).block, (ad.add (j * 3)).off + 2, none⟩ = some (.slice fa ps.length fc) := by
          have := hcv 2 _ rfl
          simpa [Addr.add] using this
        have HQ := hide hq2
        have HPQ := hide hpq
        have FI := hide (indexP_any 61 #[.pointer (some ⟨q10, 0, none⟩), .pointer (some ⟨q4, 0, none⟩), .pointer (some ⟨q5, 0, none⟩)] eg2 fa ps.length fc w.heap.size ps (okP bad L b) wr hq2 rfl HC.out.below.size hpq.1 (fun W hW kk hkk => by
          have hx := hpq.2 _ (List.getElem_mem hkk)
          generalize ps[kk] = pp at *
          rcases pp with ⟨px, py⟩
          exact other_any px py b q10 W (HC.out.mq.later hW) (by
            have hbx := HC.out.bx
            rw [Hq10.out] at hbx
            exact (hW.block q10 (Array.getElem?_eq_some_iff.1 hbx).1).trans hbx) hx))
        have Hlt := hide hlt
        have E7 := hide e7
        have Hjl := hide hjl
        obtain ⟨np, hnp⟩ : ∃ np, ps.length = np := ⟨_, rfl⟩
        have Hnp := hide hnp
        rw [hnp] at FI c2
        clear hq2 hpq hcv hgd hjx hji hj hget hlt e7 hk hnp hkl
        by_cases hany : ps.any (okP bad L b) = true
        · obtain ⟨hfi, hfe⟩ := find_at (okP bad L b) ps hany
          rw [if_pos hany] at FI
          have Htg2 := hide (show tgtP (plsC l) bad L b (j : Int) = ps[ps.findIdx (okP bad L b)]'hfi by rw [Htg.out, hfe]; rfl)
          have HAny := hide (show ((plsC l).getD (j : Int).toNat []).any (okP bad L b) = true by rw [Hget.out]; exact hany)
          have hfn : ps.findIdx (okP bad L b) < np := by rw [← Hnp.out]; exact hfi
          obtain ⟨ap, rfl, _, hcp⟩ := HQ.out.elem plc_len hfi (by decide)
          have Hfi := hide hfi
          rw [← Htg2.out] at hcp
          obtain ⟨tg, htg⟩ : ∃ tg, tgtP (plsC l) bad L b (j : Int) = tg := ⟨_, rfl⟩
          rw [htg] at hcp
          generalize ps.findIdx (okP bad L b) = fi at *
          clear hany hfe Htg Htg2 hfi
          have hfn' : (fi : Int) < (np : Int) := by omega
          have gf : decide ((fi : Int) < 0) = false := decide_eq_false (by omega)
          have hf0 : (0 : Int) ≤ (fi : Int) := Int.natCast_nonneg fi
          rcases tg with ⟨tx, ty⟩
          have Htg3 := hide htg
          clear htg
          have Hcp := hide hcp
          clear hcp
          go_upto_region 9 with (go_at_call 62; (with_reducible refine FI.out.mono ?_); rintro e w5 ⟨rfl, hb5⟩; have HC5 := hide (HC.out.later hb5); have Hcp5 : Hid (∀ jj vv, (plc (tx, ty))[jj]? = some vv → w5.cell? ((ap.add (fi * 2)).add jj) = some vv) := hide (fun jj vv h => by
            have h1 := Hcp.out jj vv h
            exact (hb5.cell (block_lt_of_cell h1)).trans h1); have c25 : w5.cell? ⟨(ad.add (j * 3)).block, (ad.add (j * 3)).off + 2, none⟩ = some (.slice (some ap) np fc) := (hb5.cell (block_lt_of_cell c2)).trans c2; clear hb5)
          clear FI HC Hcp c2 c3
          have c3 := HC5.out.c3
          unfold plc at Hcp5
          dsimp only at Hcp5
          have HA6 := hide ((Below.refl w5.heap.size w5).alloc (Nat.le_refl _) (.cells #[.int .i64 tx, .int .i64 ty] 30))
          have Hsz := hide (Nat.le_trans (Array.getElem?_eq_some_iff.1 HC5.out.bx).1 HA6.out.size)
          have Hk9 := hide (show k + 1 ≤ 1000 by have := Hlt.out; have := HFl.out; omega)
          obtain ⟨v3, cw, hv3, _, _⟩ := own_form HC5.out.own
          subst hv3
          go_wp2_with (first
            | (with_reducible refine wpl_load_addr rfl 30 (.tmp 40) rfl (ap.add (fi * 2)) _ Hcp5.out rfl _ Try.underlying30 rfl 2 infoPl2 rfl ?_)
            | (at_builtin; refine wpl_app _ rfl plelems (.tmp 33) (.tmp 42) rfl (w.heap.size + 1) (.slice v3 k cw) k (rowQ (((F b).take k).map (tgtP (plsC l) bad L b))) rfl (own_keepT HC5.out.own HA6.out) (w5.heap.size + 1) (some ⟨w5.heap.size, 0, none⟩) 1 1 [.int .i64 tx, .int .i64 ty] rfl (by rfl) (Lies.new w5 _ _ _ _ (Nat.lt_succ_self _)) (by simp [Value.oneCell']) (by have := Hk9.out; unfold maxLen; omega) (by have := Hk9.out; omega) Hsz.out ?_; intro A7 c7 w7 hown hg hat; have HN := hide (HC5.out.more Hq3.out Hq4.out Hq5.out Hqb.out Hbm.out HVl.out Hi.out HAny.out HA6.out hg (by rw [Htg3.out]; exact hown)); clear hown hg hat))
          go_roundw
          case rel => exact ⟨k + 1, Hlt.out, congrArg (Value.int .i64) E7.out, HN⟩
          case measure => first | exact measT Hlt.out | exact measT2 E7.out Hlt.out
        · rw [if_neg hany] at FI
          have hr : R = false := by
            cases R with
            | false => rfl
            | true =>
              have := (Hcan.out.1 rfl).2 _ Hmem.out
              rw [Hget.out] at this
              exact absurd this hany
          subst hr
          clear hany
          go_wp2_with (go_at_call 62; (with_reducible refine FI.out.mono ?_); rintro e w5 ⟨rfl, hb5⟩)
          refine bodyPost_ret (results_tmp2 rfl _ _ _) rfl ?_
          exact ⟨none, 0, 0, rfl, (fun h => by cases h), HC.out.below.trans (hb5.mono HC.out.below.size)⟩
      · obtain rfl : k = m := by omega
        have ht : (F b).take k = F b := List.take_of_length_le (by rw [Hm.out]; exact Nat.le_refl _)
        have hall := HC.out.all
        rw [ht] at hall
        have hr : R = true := Hcan.out.2 ⟨of_decide_eq_false Hr.out, hall⟩
        have Hr2 := hide hr
        clear hr
        have hown := HC.out.own
        rw [ht] at hown
        obtain ⟨v3, cw, hv3, _, _⟩ := own_form HC.out.own
        subst hv3
        have HZ := hide (And.intro hown HC.out.below)
        clear HC hown hall
        go_wp2
        refine bodyPost_ret (results_tmp2 rfl _ _ _) rfl ?_
        exact ⟨v3, k, cw, by rw [Hr2.out]; rfl, fun _ => ⟨Hm.out.symm, (LiesB.of_own HZ.out.1).up (Nat.le_succ _) (Nat.le_refl _)⟩, HZ.out.2⟩
end Go.Proofs.Ytofokljhlcdebaa
