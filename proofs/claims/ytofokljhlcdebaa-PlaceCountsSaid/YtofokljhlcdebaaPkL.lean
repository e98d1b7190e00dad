/-
  LAYER 20, CONTRACTS: Free, Stuck.
-/
import Derived.Test.YtofokljhlcdebaaPkC
namespace Go.Proofs.Ytofokljhlcdebaa
open Go.RowKit
set_option maxRecDepth 8000

def freeQ (bad : List Int) (L : List Pl2) (b : Int) : Bool := !decide (b ∈ bad) && !decide (b ∈ L.map Prod.fst)
theorem filt_at {α : Type} {p : α → Bool} {l : List α} {k : Nat} (h : k < l.length) : (l.take (k + 1)).filter p = if p l[k] = true then (l.take k).filter p ++ [l[k]] else (l.take k).filter p := by
  rw [← List.take_append_getElem h, List.filter_append]
  by_cases hp : p l[k] = true <;> simp [hp]
structure Fe (w0 : World) (bl bad : List Int) (L : List Pl2) (bm n lo qb B : Nat) (D : DataW Value) (V : Int → Value) (k : Nat) (v : Value) (W : World) : Prop where
  own : W.ownsRow B 3 1 v ((bl.take k).filter (freeQ bad L)).length (nums .i64 ((bl.take k).filter (freeQ bad L)))
  amg : Amg bad lo qb W
  us : Us W bm n D V (idxF L)
  lt : qb < B ∧ bm < B ∧ B ≤ W.heap.size ∧ w0.heap.size ≤ B ∧ ∀ x g, (V x).ownBlock = some g → g < B
  below : Below w0.heap.size w0 W
section
variable {w0 W W' W5 W6 : World} {bl bad : List Int} {L : List Pl2} {bm n lo qb B k : Nat} {D : DataW Value} {V : Int → Value} {v : Value}
theorem Fe.later (h : Fe w0 bl bad L bm n lo qb B D V k v W) (hb : Below W.heap.size W W') : Fe w0 bl bad L bm n lo qb B D V k v W' :=
  ⟨own_keepT h.own hb, h.amg.below hb h.amg.lt, h.us.later hb, ⟨h.lt.1, h.lt.2.1, Nat.le_trans h.lt.2.2.1 hb.size, h.lt.2.2.2⟩, h.below.trans (hb.mono h.below.size)⟩
theorem Fe.skip (h : Fe w0 bl bad L bm n lo qb B D V k v W) (e : (bl.take (k + 1)).filter (freeQ bad L) = (bl.take k).filter (freeQ bad L)) : Fe w0 bl bad L bm n lo qb B D V (k + 1) v W :=
  ⟨by rw [e]; exact h.own, h.amg, h.us, h.lt, h.below⟩
theorem Fe.more {A : Option Addr} {c : Nat} {b : Int} (h : Fe w0 bl bad L bm n lo qb B D V k v W) (e : (bl.take (k + 1)).filter (freeQ bad L) = (bl.take k).filter (freeQ bad L) ++ [b]) (hb : Below W.heap.size W W5) (hg : W5.grownBy W6 v.ownBlock)
    (hown : W6.ownsRow B 3 1 (.slice A (((bl.take k).filter (freeQ bad L)).length + 1) c) (((bl.take k).filter (freeQ bad L)).length + 1) (nums .i64 ((bl.take k).filter (freeQ bad L)) ++ [.int .i64 b])) :
    Fe w0 bl bad L bm n lo qb B D V (k + 1) (.slice A (((bl.take k).filter (freeQ bad L)).length + 1) c) W6 := by
  have h5 := h.later hb
  have bb : Below B W5 W6 := (Below.refl _ _).grown hg h5.lt.2.2.1 (fun j e => (own_lowS h5.own j e).1)
  have hus : Us W6 bm n D V (idxF L) := by
    refine ⟨?_, h5.us.is, h5.us.at_, h5.us.has, fun x => ?_, h5.us.apart⟩
    · obtain ⟨es, clock, h4, h6⟩ := h5.us.map_
      exact ⟨es, clock, (bb.block bm h5.lt.2.1).trans h4, h6⟩
    · refine (h5.us.own x).kept hg ?_
      cases hv : (V x).ownBlock with
      | none => exact .inl rfl
      | some j => exact .inr (fun e => by
          have h7 := h5.lt.2.2.2.2 x j hv
          have h8 := (own_lowS h5.own j e.symm).1
          omega)
  refine ⟨?_, h5.amg.below bb h5.lt.1, hus, ⟨h5.lt.1, h5.lt.2.1, Nat.le_trans h5.lt.2.2.1 bb.size, h5.lt.2.2.2⟩, h5.below.trans (bb.mono h5.lt.2.2.2.1)⟩
  rw [e, List.length_append, nums_app]
  exact hown
end
set_option maxHeartbeats 4000000 in
theorem free20_any (A A2 A3 : Option Addr) (n c n2 c2 n3 c3 : Nat) (bl bad : List Int) (L : List Pl2) (w : World) (hl : Lies w w.heap.size A (nums .i64 bl)) (hb : Lies w w.heap.size A2 (nums .i64 bad)) (hL : Lies w w.heap.size A3 (rowQ L)) (hn : n = bl.length) (hn2 : n2 = bad.length) (hn3 : n3 = L.length) (hbig : n ≤ 1000) (hbig2 : n2 ≤ 1000) (hbig3 : n3 ≤ 1000) (hok : ∀ q ∈ L, Ok64 q.1) (hokb : ∀ b ∈ bl, Ok64 b) :
    Calls Try.prog 26 #[.slice A n c, .slice A2 n2 c2, .slice A3 n3 c3] w fun e w' => ∃ (A4 : Option Addr) (c4 : Nat), e = .returned (.slice A4 (bl.filter (freeQ bad L)).length c4) ∧ Lies w' w'.heap.size A4 (nums .i64 (bl.filter (freeQ bad L))) ∧ Below w.heap.size w w' := by
  have F1 := hide (among_any A2 n2 c2 bad w hb hn2 hbig2)
  have FU := hide (fun W (h : Below w.heap.size w W) => users_any A3 n3 c3 w.heap.size L W (hL.below h) h.size hn3 hbig3 hok)
  have HL := hide hl
  have Hn := hide hn
  have Hn3 := hide hn3
  have Hbig := hide hbig
  have Hokb := hide hokb
  have eg : ∀ args w, (callFunc 64 args).run Try.prog w = .ok (.enter 64 args) w := enters_of Try.func64 (by kernel_rfl) rfl
  clear hl hb hL hn hn2 hn3 hbig hbig2 hbig3 hok hokb
  go_enter Try.func26, Try.ntmps26
  go_wp2_with fail
  (with_reducible refine F1.out.mono ?_)
  rintro e w1 ⟨qb, rfl, ham, hqb, hb1⟩
  have HA := hide (And.intro ham (And.intro hqb hb1))
  have F2 := hide (FU.out w1 hb1)
  clear F1 FU ham hqb hb1
  go_wp2_with fail
  (with_reducible refine F2.out.mono ?_)
  rintro e w2 ⟨bm, D, V, rfl, hU⟩
  have HC0 : Hid (Fe w bl bad L bm n3 w.heap.size qb w2.heap.size D V 0 (.slice none 0 0) w2) := hide (by
    have hus := hU.us
    rw [show L.take n3 = L from List.take_of_length_le (by rw [Hn3.out]; exact Nat.le_refl _)] at hus
    exact ⟨World.ownsRow_nil _ _ _ _, HA.out.1.below hU.below HA.out.1.lt, hus, ⟨Nat.lt_of_lt_of_le HA.out.1.lt hU.below.size, hus.hi, Nat.le_refl _, Nat.le_trans HA.out.2.2.size hU.below.size, fun x g e => (own_lowS (hus.own x) g e).2⟩, HA.out.2.2.trans (hU.below.mono HA.out.2.2.size)⟩)
  clear F2 HA hU
  generalize w2.heap.size = B at *
  go_wp2
  go_loopw [9, 18] (fun v i wr => ∃ k : Nat, k ≤ n ∧ i = .int .i64 (k : Int) ∧ Hid (Fe w bl bad L bm n3 w.heap.size qb B D V k v wr)) (fun _ i _ => n - (intOf i).toNat)
  case atStart => exact ⟨0, Nat.zero_le _, rfl, HC0⟩
  case round =>
    clear HC0
    obtain ⟨k, hk, rfl, HC⟩ := hrel
    by_cases hlt : k < n
    · have hlt' : (k : Int) < (n : Int) := by omega
      have e7 : wrap64 ((k : Int) + 1) = ((k + 1 : Nat) : Int) := by have := Hbig.out; unfold wrap64; omega
      have hnl : k < bl.length := by rw [← Hn.out]; exact hlt
      obtain ⟨ad, rfl, hab, hca⟩ := (HL.out.below HC.out.below).num hnl
      have hgd : bl.getD k 0 = bl[k] := by simp [List.getD, List.getElem?_eq_getElem hnl]
      rw [hgd] at hca
      have Hb := hide (Hokb.out _ (List.getElem_mem hnl))
      have Hnx := hide (filt_at (p := freeQ bad L) hnl)
      generalize bl[k] = b at *
      have Hlt := hide hlt
      have E7 := hide e7
      have F5 := hide (among1_any bad _ qb b wr HC.out.amg)
      have lk := HC.out.us.look Hb.out
      obtain ⟨AV, cV, hV⟩ := HC.out.us.form b
      rw [hV] at lk
      have hused := (idxF_uses L).used b
      obtain ⟨r, hr⟩ : ∃ r, decide (b ∈ bad) = r := ⟨_, rfl⟩
      rw [hr] at F5
      have Hr := hide hr
      clear hab hnl hgd hV hr
      cases r with
      | true =>
        have HN := hide (HC.out.skip (by rw [Hnx.out, if_neg (by unfold freeQ; rw [Hr.out]; simp)]))
        clear lk hused
        go_wp2_with (go_at_fn 64; refine F5.out.mono ?_; rintro e w' ⟨rfl, rfl⟩)
        go_roundw
        case rel => exact ⟨k + 1, Hlt.out, congrArg (Value.int .i64) E7.out, HN⟩
        case measure => first | exact measT Hlt.out | exact measT2 E7.out Hlt.out
      | false =>
        by_cases h0 : idxF L b = []
        · rw [h0] at lk
          have hnm : ¬ b ∈ L.map Prod.fst := fun hm => hused.2 hm h0
          have Hn2 := hide (show (bl.take (k + 1)).filter (freeQ bad L) = (bl.take k).filter (freeQ bad L) ++ [b] by rw [Hnx.out, if_pos (by unfold freeQ; rw [Hr.out, decide_eq_false hnm]; rfl)])
          have HA6 := hide ((Below.refl wr.heap.size wr).alloc (Nat.le_refl _) (.cells #[.int .i64 b] 3))
          have Hsz := hide (Nat.le_trans HC.out.lt.2.2.1 HA6.out.size)
          have Hgl : Hid (((bl.take k).filter (freeQ bad L)).length ≤ 1000) := hide (Nat.le_trans (List.length_filter_le _ _) (by rw [List.length_take]; have := Hbig.out; omega))
          obtain ⟨v3, cw, hv3, _, _⟩ := own_form HC.out.own
          subst hv3
          clear h0 hused hnm
          go_wp2_with (first
            | (go_at_fn 64; refine F5.out.mono ?_; rintro e wr ⟨rfl, rfl⟩)
            | (at_builtin; refine wpl_app _ rfl ielems (.tmp 33) (.tmp 35) rfl B (.slice v3 ((bl.take k).filter (freeQ bad L)).length cw) ((bl.take k).filter (freeQ bad L)).length (nums .i64 ((bl.take k).filter (freeQ bad L))) rfl (own_keepT HC.out.own HA6.out) (wr.heap.size + 1) (some ⟨wr.heap.size, 0, none⟩) 1 1 [.int .i64 b] rfl (by rfl) (Lies.new wr _ _ _ _ (Nat.lt_succ_self _)) (by simp [Value.oneCell']) (by have := Hgl.out; unfold maxLen; omega) (by have := Hgl.out; omega) Hsz.out ?_; intro A7 c7 w7 hown hg hat; have HN := hide (HC.out.more Hn2.out HA6.out hg hown); clear hown hg hat))
          go_roundw
          case rel => exact ⟨k + 1, Hlt.out, congrArg (Value.int .i64) E7.out, HN⟩
          case measure => first | exact measT Hlt.out | exact measT2 E7.out Hlt.out
        · obtain ⟨m, hm⟩ : ∃ m, (idxF L b).length = m := ⟨_, rfl⟩
          rw [hm] at lk
          have hm0 : 0 < m := by rw [← hm]; exact List.length_pos_iff.2 h0
          have g2 : ((m : Int) == 0) = false := beq_eq_false_iff_ne.2 (by omega)
          have g2n : (m == 0) = false := beq_eq_false_iff_ne.2 (by omega)
          have hmm : b ∈ L.map Prod.fst := hused.1 h0
          have HN := hide (HC.out.skip (by rw [Hnx.out, if_neg (by unfold freeQ; rw [Hr.out, decide_eq_true hmm]; simp)]))
          clear h0 hused hmm hm hm0
          go_wp2_with (go_at_fn 64; refine F5.out.mono ?_; rintro e w' ⟨rfl, rfl⟩)
          go_roundw
          case rel => exact ⟨k + 1, Hlt.out, congrArg (Value.int .i64) E7.out, HN⟩
          case measure => first | exact measT Hlt.out | exact measT2 E7.out Hlt.out
    · obtain rfl : k = n := by omega
      obtain ⟨v3, cw, hv3, _, _⟩ := own_form HC.out.own
      subst hv3
      have e : bl.take k = bl := List.take_of_length_le (by rw [Hn.out]; exact Nat.le_refl _)
      have hown := HC.out.own
      rw [e] at hown ⊢
      have HZ := hide (And.intro (Lies.of_own hown) HC.out.below)
      clear HC hown
      go_wp2
      go_ret
      exact ⟨v3, cw, rfl, HZ.out⟩

def stuckQ (bad : List Int) (q : Pl2) : Bool := decide (q.1 ∈ bad)
structure Sk (w0 : World) (L : List Pl2) (bad : List Int) (lo qb B : Nat) (k : Nat) (v : Value) (W : World) : Prop where
  own : W.ownsRow B 30 2 v ((L.take k).filter (stuckQ bad)).length (rowQ ((L.take k).filter (stuckQ bad)))
  amg : Amg bad lo qb W
  lt : qb < B ∧ B ≤ W.heap.size ∧ w0.heap.size ≤ B
  below : Below w0.heap.size w0 W
theorem Sk.later {w0 W W' : World} {L : List Pl2} {bad : List Int} {lo qb B k : Nat} {v : Value} (h : Sk w0 L bad lo qb B k v W) (hb : Below W.heap.size W W') : Sk w0 L bad lo qb B k v W' :=
  ⟨own_keepT h.own hb, h.amg.below hb h.amg.lt, ⟨h.lt.1, Nat.le_trans h.lt.2.1 hb.size, h.lt.2.2⟩, h.below.trans (hb.mono h.below.size)⟩
set_option maxHeartbeats 4000000 in
theorem stuck_any (A A2 : Option Addr) (n c n2 c2 : Nat) (L : List Pl2) (bad : List Int) (w : World) (hl : Lies w w.heap.size A (rowQ L)) (hb : Lies w w.heap.size A2 (nums .i64 bad)) (hn : n = L.length) (hn2 : n2 = bad.length) (hbig : n ≤ 1000) (hbig2 : n2 ≤ 1000) :
    Calls Try.prog 27 #[.slice A n c, .slice A2 n2 c2] w fun e w' => ∃ (A4 : Option Addr) (c4 : Nat), e = .returned (.slice A4 (L.filter (stuckQ bad)).length c4) ∧ Lies w' w'.heap.size A4 (rowQ (L.filter (stuckQ bad))) ∧ Below w.heap.size w w' := by
  have F1 := hide (among_any A2 n2 c2 bad w hb hn2 hbig2)
  have HL := hide hl
  have Hn := hide hn
  have Hbig := hide hbig
  have eg : ∀ args w, (callFunc 64 args).run Try.prog w = .ok (.enter 64 args) w := enters_of Try.func64 (by kernel_rfl) rfl
  clear hl hb hn hn2 hbig hbig2
  go_enter Try.func27, Try.ntmps27
  go_wp2_with fail
  (with_reducible refine F1.out.mono ?_)
  rintro e w1 ⟨qb, rfl, ham, hqb, hb1⟩
  have HC0 : Hid (Sk w L bad w.heap.size qb w1.heap.size 0 (.slice none 0 0) w1) := hide ⟨World.ownsRow_nil _ _ _ _, ham, ⟨ham.lt, Nat.le_refl _, hb1.size⟩, hb1⟩
  clear F1 ham hqb hb1
  generalize w1.heap.size = B at *
  go_wp2
  go_loopw [6, 13] (fun v i wr => ∃ k : Nat, k ≤ n ∧ i = .int .i64 (k : Int) ∧ Hid (Sk w L bad w.heap.size qb B k v wr)) (fun _ i _ => n - (intOf i).toNat)
  case atStart => exact ⟨0, Nat.zero_le _, rfl, HC0⟩
  case round =>
    clear HC0
    obtain ⟨k, hk, rfl, HC⟩ := hrel
    by_cases hlt : k < n
    · have hlt' : (k : Int) < (n : Int) := by omega
      have e7 : wrap64 ((k : Int) + 1) = ((k + 1 : Nat) : Int) := by have := Hbig.out; unfold wrap64; omega
      have hnl : k < L.length := by rw [← Hn.out]; exact hlt
      obtain ⟨ad, rfl, hab, hca⟩ := (HL.out.below HC.out.below).elem plc_len hnl (by decide)
      have Hca := hide hca
      have Hnx := hide (filt_at (p := stuckQ bad) hnl)
      generalize L[k] = f at *
      rcases f with ⟨fx, fy⟩
      clear hca hab hnl
      have Hlt := hide hlt
      have E7 := hide e7
      have HX4 := hide (BoxQ2.new (fx, fy) wr)
      have HA4 := hide (HC.out.later ((Below.refl wr.heap.size wr).alloc (Nat.le_refl _) (.cells #[.int .i64 fx, .int .i64 fy] 30)))
      unfold plc at Hca
      dsimp only at *
      go_upto_region 6 with (with_reducible refine wpl_load_addr rfl 30 (.tmp 15) rfl (ad.add (k * 2)) _ Hca.out rfl _ Try.underlying30 rfl 2 infoPl2 rfl ?_)
      generalize wr.alloc (.cells #[.int .i64 fx, .int .i64 fy] 30) = w5 at *
      clear Hca HC
      generalize wr.heap.size = q8 at *
      have x0 := HX4.out.c0
      try dsimp only at x0
      have F5 := hide (among1_any bad _ qb fx w5 HA4.out.amg)
      obtain ⟨r, hr⟩ : ∃ r, decide (fx ∈ bad) = r := ⟨_, rfl⟩
      rw [hr] at F5
      have Hr := hide hr
      clear hr
      cases r with
      | false =>
        have HN : Hid (Sk w L bad w.heap.size qb B (k + 1) _ w5) := hide ⟨by rw [Hnx.out, if_neg (by unfold stuckQ; rw [Hr.out]; decide)]; exact HA4.out.own, HA4.out.amg, HA4.out.lt, HA4.out.below⟩
        go_wp2_with (go_at_fn 64; refine F5.out.mono ?_; rintro e w' ⟨rfl, rfl⟩)
        go_roundw
        case rel => exact ⟨k + 1, Hlt.out, congrArg (Value.int .i64) E7.out, HN⟩
        case measure => first | exact measT Hlt.out | exact measT2 E7.out Hlt.out
      | true =>
        have Hn2 := hide (show (L.take (k + 1)).filter (stuckQ bad) = (L.take k).filter (stuckQ bad) ++ [(fx, fy)] by rw [Hnx.out, if_pos (by unfold stuckQ; exact Hr.out)])
        have HA6 := hide ((Below.refl w5.heap.size w5).alloc (Nat.le_refl _) (.cells #[.int .i64 fx, .int .i64 fy] 30))
        have Hsz := hide (Nat.le_trans HA4.out.lt.2.1 HA6.out.size)
        have Hgl : Hid (((L.take k).filter (stuckQ bad)).length ≤ 1000) := hide (Nat.le_trans (List.length_filter_le _ _) (by rw [List.length_take]; have := Hbig.out; omega))
        have Hcb := hide (World.news_of_block HX4.out)
        obtain ⟨v3, cw, hv3, _, _⟩ := own_form HA4.out.own
        subst hv3
        go_wp2_with (first
          | (go_at_fn 64; refine F5.out.mono ?_; rintro e w5 ⟨rfl, rfl⟩)
          | (with_reducible refine wpl_load_addr rfl 30 (.tmp 8) rfl ⟨q8, 0, none⟩ _ Hcb.out rfl _ Try.underlying30 rfl 2 infoPl2 rfl ?_)
          | (at_builtin; refine wpl_app _ rfl plelems (.tmp 21) (.tmp 23) rfl B (.slice v3 ((L.take k).filter (stuckQ bad)).length cw) ((L.take k).filter (stuckQ bad)).length (rowQ ((L.take k).filter (stuckQ bad))) rfl (own_keepT HA4.out.own HA6.out) (w5.heap.size + 1) (some ⟨w5.heap.size, 0, none⟩) 1 1 [.int .i64 fx, .int .i64 fy] rfl (by rfl) (Lies.new w5 _ _ _ _ (Nat.lt_succ_self _)) (by simp [Value.oneCell']) (by have := Hgl.out; unfold maxLen; omega) (by have := Hgl.out; omega) Hsz.out ?_; intro A7 c7 w7 hown hg hat; have HN : Hid (Sk w L bad w.heap.size qb B (k + 1) (.slice A7 (((L.take k).filter (stuckQ bad)).length + 1) c7) w7) := hide (by
              have h5 := HA4.out.later HA6.out
              have bb := (Below.refl B (w5.alloc (.cells #[.int .i64 fx, .int .i64 fy] 30))).grown hg h5.lt.2.1 (fun j e => (own_lowS HA4.out.own j e).1)
              exact ⟨by rw [Hn2.out, List.length_append, rowQ_app]; exact hown, h5.amg.below bb h5.lt.1, ⟨h5.lt.1, Nat.le_trans h5.lt.2.1 bb.size, h5.lt.2.2⟩, h5.below.trans (bb.mono h5.lt.2.2)⟩); clear hown hg hat))
        go_roundw
        case rel => exact ⟨k + 1, Hlt.out, congrArg (Value.int .i64) E7.out, HN⟩
        case measure => first | exact measT Hlt.out | exact measT2 E7.out Hlt.out
    · obtain rfl : k = n := by omega
      obtain ⟨v3, cw, hv3, _, _⟩ := own_form HC.out.own
      subst hv3
      have e : L.take k = L := List.take_of_length_le (by rw [Hn.out]; exact Nat.le_refl _)
      have hown := HC.out.own
      rw [e] at hown ⊢
      have HZ := hide (And.intro (Lies.of_own hown) HC.out.below)
      clear HC hown
      go_wp2
      go_ret
      exact ⟨v3, cw, rfl, HZ.out⟩
end Go.Proofs.Ytofokljhlcdebaa
