/-
  LAYER 19, THE REFERENCE: Of.
-/
import Derived.Test.YtjdaoenapmjoeaaSliL
import Derived.Shelf.SlSortCmp.QuietGrown
import Derived.Shelf.GgClosure.Gives
namespace Go.Proofs.Ytjdaoenapmjoeaa
open Go.RowKit
set_option maxRecDepth 8000

/-- What Of has found behind k of the finds: some of those that p says. -/
structure Ot (w0 : World) (p : Fo → Prop) (k : Nat) (O : List Fo) (v : Value) (W : World) : Prop where
  own : W.ownsRow w0.heap.size 34 9 v O.length (rowO O)
  mem : ∀ e ∈ O, p e
  len : O.length ≤ k
  below : Below w0.heap.size w0 W
section
variable {w0 W W' : World} {p : Fo → Prop} {k : Nat} {O : List Fo} {v : Value}
theorem Ot.later (h : Ot w0 p k O v W) (hb : Below W.heap.size W W') : Ot w0 p k O v W' := ⟨own_keepT h.own hb, h.mem, h.len, h.below.trans (hb.mono h.below.size)⟩
theorem Ot.up (h : Ot w0 p k O v W) : Ot w0 p (k + 1) O v W := ⟨h.own, h.mem, Nat.le_succ_of_le h.len, h.below⟩
theorem Ot.nil (h : Ot w0 p k O v W) : Ot w0 p k [] (.slice none 0 0) W := ⟨World.ownsRow_nil _ _ _ _, (fun e he => by cases he), Nat.zero_le _, h.below⟩
/-- Three appends onto a row of its own. -/
theorem Ot.more {W1 W2 W3 W4 W5 : World} {u1 u2 : Value} {A : Option Addr} {c j : Nat} {f : Fo} (h : Ot w0 p k O v W) (hf : p f) (hj : j ≤ O.length)
    (hb1 : Below W.heap.size W W1) (hg2 : W1.grownBy W2 (some W.heap.size)) (hb3 : Below W2.heap.size W2 W3) (hu1 : ∀ g, u1.ownBlock = some g → W.heap.size ≤ g) (hg4 : W3.grownBy W4 u1.ownBlock)
    (hu2 : ∀ g, u2.ownBlock = some g → W.heap.size ≤ g) (hg5 : W4.grownBy W5 u2.ownBlock)
    (hown : W5.ownsRow W.heap.size 34 9 (.slice A (O.length + 1) c) (O.length + 1) (rowO (O.take j) ++ f.cells ++ rowO (O.drop j))) :
    Ot w0 p (k + 1) (O.take j ++ [f] ++ O.drop j) (.slice A (O.length + 1) c) W5 := by
  have hs := h.below.size
  have b2 : Below W.heap.size W W2 := hb1.grown hg2 hb1.size (fun g e => by injection e with e; omega)
  have b4 : Below W.heap.size W W4 := (b2.trans (hb3.mono b2.size)).grown hg4 (Nat.le_trans b2.size hb3.size) hu1
  have b5 : Below W.heap.size W W5 := b4.grown hg5 b4.size hu2
  have hl : (O.take j ++ [f] ++ O.drop j).length = O.length + 1 := by simp; omega
  refine ⟨?_, fun e he => ?_, by rw [hl]; exact Nat.succ_le_succ h.len, h.below.trans (b5.mono hs)⟩
  · rw [hl, show rowO (O.take j ++ [f] ++ O.drop j) = rowO (O.take j) ++ f.cells ++ rowO (O.drop j) by simp [rowO]]
    refine ⟨hown.1, ?_⟩
    rcases hown.2 with h0 | ⟨g, cap, cur, hv, hb, hr⟩
    · exact .inl h0
    · exact .inr ⟨g, cap, cur, hv, Nat.le_trans hs hb, hr⟩
  · rcases List.mem_append.1 he with he | he
    · rcases List.mem_append.1 he with he | he
      · exact h.mem e (List.mem_of_mem_take he)
      · rw [List.mem_singleton] at he; exact he ▸ hf
    · exact h.mem e (List.mem_of_mem_drop he)
end
theorem rowO_split (O : List Fo) (j : Nat) : rowO O = rowO (O.take j) ++ rowO (O.drop j) := by
  rw [rowO, rowO, rowO, ← List.flatMap_append, List.take_append_drop]
theorem lies_take {W : World} {B : Nat} {A : Option Addr} {O : List Fo} (h : Lies W B A (rowO O)) (j : Nat) : Lies W B A (rowO (O.take j)) := by
  rw [rowO_split O j] at h
  rcases h with e | ⟨a, e, hb, hc⟩
  · exact .inl (List.append_eq_nil_iff.1 e).1
  · exact .inr ⟨a, e, hb, fun i u hu => hc i u (by rw [List.getElem?_append_left (List.getElem?_eq_some_iff.1 hu).1]; exact hu)⟩
theorem rowO_drop (O : List Fo) (j : Nat) (hj : j ≤ O.length) : (rowO O).drop (j * 9) = rowO (O.drop j) := by
  rw [rowO_split O j, List.drop_append, List.drop_eq_nil_of_le (by rw [rowO_len, List.length_take, Nat.min_eq_left hj]; exact Nat.le_refl _), rowO_len, List.length_take, Nat.min_eq_left hj, Nat.sub_self, List.drop_zero, List.nil_append]
theorem fo_bytes {n : Nat} (h : n ≤ 2000) : n * 72 ≤ 140737488355328 := by omega
theorem fo_bytes2 {n : Nat} (h : n ≤ 2001) : n * 72 ≤ 140737488355328 := by omega
theorem ot_sum {j m N : Nat} (h : j ≤ m) (hN : N = m) : j + 1 + (m - j) = N + 1 := by omega
theorem ot_nums {j m : Nat} (h : j ≤ m) (hm : m ≤ 2000) : j ≤ 2000 ∧ j + 1 ≤ 2001 ∧ j + 1 + (m - j) ≤ 2001 := by omega
theorem ot_grown {w : World} (n : Nat) (os : Array Obj) : Below w.heap.size w (Sort.grow (w.drewN n) os) := below_grown w n os
theorem add_lt {a : Addr} {B : Nat} (j : Nat) (h : a.block < B) : (a.add j).block < B := by unfold Addr.add; split <;> exact h
/-- A find's cells, loaded in a world that has grown. -/
theorem fo_ld {k9 : Nat} (hk9 : k9 = 9) {f : Fo} {w : World} {p : Addr} {ns : Nat} {os : Array Obj} (h : ∀ j v, (Fo.cells f)[j]? = some v → w.cell? (p.add j) = some v) (hp : p.block < w.heap.size) :
    Sem.run Try.prog (loadCellsFrom p 0 k9 #[]) (Sort.grow (w.drewN ns) os) = .ok (Fo.cells f).toArray (Sort.grow (w.drewN ns) os) := by
  subst hk9
  exact run_loadCells_list (P := Try.prog) (Sort.grow (w.drewN ns) os) p (Fo.cells f) (fun j v hv => ((below_grown w ns os).cell (add_lt j hp)).trans (h j v hv))
set_option maxHeartbeats 8000000 in
theorem rof_any (A A2 : Option Addr) (n c n2 c2 B : Nat) (l : List Fo) (vs : List Int) (lpn : Int) (w : World) (hl : Lies w B A (rowO l)) (hv : Lies w B A2 (nums .u64 vs)) (hB : B ≤ w.heap.size) (hn : n = l.length) (hn2 : n2 = vs.length) (hbig : n ≤ 2000) (hbig2 : n2 ≤ 2000) :
    Calls Try.prog 7 #[.slice A n c, .slice A2 n2 c2, .int .i64 lpn] w fun e w' => ∃ (A3 : Option Addr) (c3 : Nat) (O : List Fo), e = .returned (.slice A3 O.length c3) ∧ Lies w' w'.heap.size A3 (rowO O) ∧ (∀ e ∈ O, e ∈ l ∧ e.lp = lpn ∧ noneO l vs e.bt = false) ∧ O.length ≤ n ∧ Below w.heap.size w w' := by
  have FN := hide (fun (z : Int) W (h : Below w.heap.size w W) => rnone_any A A2 n c n2 c2 B l vs z W (hl.below (h.mono hB)) (hv.below (h.mono hB)) (Nat.le_trans hB h.size) hn hn2 hbig hbig2)
  have HL := hide hl
  have HB := hide hB
  have Hn := hide hn
  have Hbig := hide hbig
  obtain ⟨p, hp⟩ : ∃ p : Fo → Prop, (fun e => e ∈ l ∧ e.lp = lpn ∧ noneO l vs e.bt = false) = p := ⟨_, rfl⟩
  have Hp : Hid (∀ e, p e ↔ (e ∈ l ∧ e.lp = lpn ∧ noneO l vs e.bt = false)) := hide (fun e => by rw [← hp])
  clear hl hv hB hn hn2 hbig hbig2 hp
  go_enter Try.func7, Try.ntmps7
  go_wp2
  go_loopw [7, 8] (fun v i wr => ∃ k : Nat, k ≤ n ∧ i = .int .i64 (k : Int) ∧ ∃ O, Hid (Ot w p k O v wr)) (fun _ i _ => n - (intOf i).toNat)
  case atStart => exact ⟨0, Nat.zero_le _, rfl, [], hide ⟨World.ownsRow_nil _ _ _ _, (fun e he => by cases he), Nat.le_refl _, Below.refl _ _⟩⟩
  case round =>
    obtain ⟨k, hk, rfl, O, HC⟩ := hrel
    by_cases hlt : k < n
    · have hlt' : (k : Int) < (n : Int) := by omega
      have e7 : wrap64 ((k : Int) + 1) = ((k + 1 : Nat) : Int) := by have := Hbig.out; unfold wrap64; omega
      have hnl : k < l.length := by rw [← Hn.out]; exact hlt
      obtain ⟨ad, rfl, hab, hca⟩ := (HL.out.below (HC.out.below.mono HB.out)).elem Fo.cells_len hnl (by decide)
      have Hca := hide hca
      have Hin := hide (List.getElem_mem hnl)
      generalize l[k] = f at *
      clear hca hab hnl
      rcases f with ⟨fx, fy, kd, ix, ct, bt, op, lp, ln⟩
      have HX4 := hide (BoxO.new ⟨fx, fy, kd, ix, ct, bt, op, lp, ln⟩ wr)
      have HA4 := hide (HC.out.later ((Below.refl wr.heap.size wr).alloc (Nat.le_refl _) (.cells (Fo.cells ⟨fx, fy, kd, ix, ct, bt, op, lp, ln⟩).toArray 34)))
      have Hlt := hide hlt
      have E7 := hide e7
      unfold Fo.cells at *
      dsimp only at *
      go_upto_region 6 with (with_reducible refine wpl_load_addr rfl 34 (.tmp 20) rfl (ad.add (k * 9)) _ Hca.out rfl _ Try.underlying34 rfl 9 infoFo rfl ?_)
      generalize wr.alloc (.cells #[.int .i64 fx, .int .i64 fy, .int .i64 kd, .int .i64 ix, .int .i64 ct, .int .u64 bt, .int .u64 op, .int .i64 lp, .int .i64 ln] 34) = w4 at *
      have Hq := hide HX4.out.lt
      have Hlow := hide (fun g h => (own_lowS HC.out.own g h).2)
      clear HC Hca
      generalize wr.heap.size = q9 at *
      have x5 := HX4.out.c 5 _ rfl
      have x7 := HX4.out.c 7 _ rfl
      dsimp only at x5 x7
      by_cases hlp : lp = lpn
      · subst hlp
        have F := hide (FN.out bt w4 HA4.out.below)
        obtain ⟨nn, hnn⟩ : ∃ nn, noneO l vs bt = nn := ⟨_, rfl⟩
        rw [hnn] at F
        have Hnn := hide hnn
        clear hnn
        cases nn with
        | true =>
          go_wp2_with fail
          (with_reducible refine F.out.mono ?_)
          rintro e w5 ⟨rfl, hb⟩
          have HN := hide (HA4.out.later hb).up
          clear hb
          go_wp2
          go_roundw
          case rel => exact ⟨k + 1, Hlt.out, congrArg (Value.int .i64) E7.out, O, HN⟩
          case measure => first | exact measT Hlt.out | exact measT2 E7.out Hlt.out
        | false =>
          have Hpf := hide ((Hp.out ⟨fx, fy, kd, ix, ct, bt, op, lp, ln⟩).2 ⟨Hin.out, rfl, Hnn.out⟩)
          obtain ⟨A3, c3, hv3, hc3, _⟩ := own_form HA4.out.own
          subst hv3
          go_wp2_with fail
          (with_reducible refine F.out.mono ?_)
          rintro e w5 ⟨rfl, hb⟩
          have HO5 := hide (HA4.out.later hb)
          have HX5 := hide (HX4.out.below hb Hq.out)
          clear hb F HA4 HX4 x5 x7 Hnn Hin
          have x5 := HX5.out.c 5 _ rfl
          dsimp only at x5
          have Hc3 := hide hc3
          obtain ⟨m, hm⟩ : ∃ m, O.length = m := ⟨_, rfl⟩
          have Hm := hide hm
          rw [hm]
          clear hm hc3 FN
          by_cases h0 : m = 0
          · subst h0
            have HO6 : Hid (Ot w p k [] (.slice A3 ([] : List Fo).length c3) w5) := hide (by
              have h := HO5.out
              have e : O = [] := List.eq_nil_of_length_eq_zero Hm.out
              subst e
              exact h)
            clear HO5 Hm
            go_upto_region 7 with fail
            go_quiet (fail)
            have HO7 := hide (HO6.out.later (W' := w5.drewN nq) ⟨rfl, rfl, rfl, Nat.le_refl _, fun _ _ => rfl⟩)
            have HX7 : Hid (BoxO ⟨fx, fy, kd, ix, ct, bt, op, lp, ln⟩ q9 (w5.drewN nq)) := hide HX5.out
            clear HO6 HX5 x5
            generalize w5.drewN nq = w7 at *
            have x5 := HX7.out.c 5 _ rfl
            dsimp only at x5
            go_upto_region 8 with fail
            go_quiet (fail)
            have HO8 := hide (HO7.out.later (W' := w7.drewN nq) ⟨rfl, rfl, rfl, Nat.le_refl _, fun _ _ => rfl⟩)
            have HX8 : Hid (BoxO ⟨fx, fy, kd, ix, ct, bt, op, lp, ln⟩ q9 (w7.drewN nq)) := hide HX7.out
            clear HO7 HX7 x5
            generalize w7.drewN nq = w8 at *
            obtain ⟨O, hO'⟩ : ∃ O, ([] : List Fo) = O := ⟨_, rfl⟩
            rw [hO'] at HO8
            replace Hc3 : Hid (0 ≤ c3) := hide (Nat.zero_le _)
            have Hm : Hid (O.length = 0) := hide (by rw [← hO']; rfl)
            replace HO8 : Hid (Ot w p k O (.slice A3 0 c3) w8) := hide (by have := HO8.out; rw [Hm.out] at this; exact this)
            have Hml : Hid (0 ≤ 2000) := hide (by decide)
            clear hO'
            obtain ⟨v7, hv7⟩ : ∃ v, Value.slice A3 0 c3 = v := ⟨_, rfl⟩
            rw [hv7]
            rw [hv7] at HO8
            obtain ⟨Ax, mx, cx, ev, Hc3, Hm, Hml⟩ : ∃ A m c, v7 = .slice A m c ∧ Hid (m ≤ c) ∧ Hid (O.length = m) ∧ Hid (m ≤ 2000) := ⟨A3, 0, c3, hv7.symm, Hc3, Hm, Hml⟩
            clear hv7
            subst ev
            go_wp2
            go_loopw [10] (fun i W => ∃ j : Nat, j ≤ mx ∧ i = .int .i64 (j : Int) ∧ Hid (Ot w p k O (.slice Ax mx cx) W) ∧ Hid (BoxO ⟨fx, fy, kd, ix, ct, bt, op, lp, ln⟩ q9 W)) (fun i _ => mx - (intOf i).toNat)
            case atStart => exact ⟨0, Nat.zero_le _, rfl, HO8, HX8⟩
            case round =>
              clear HO8 HX8
              obtain ⟨j, hj, rfl, HO, HX⟩ := hrel
              by_cases hjm : j < mx
              · have g3 : decide (j < mx) = true := decide_eq_true hjm
                have g4 : decide ((j : Int) < (mx : Int)) = true := decide_eq_true (Int.ofNat_lt.2 hjm)
                have hjl : j < O.length := by rw [Hm.out]; exact hjm
                have bj : (j : Int) < (mx : Int) := Int.ofNat_lt.2 hjm
                obtain ⟨ao, eao, hao, hco⟩ := (Lies.of_own HO.out.own).elem (f := Fo.cells) (m := 9) Fo.cells_len hjl (by decide)
                cases eao
                obtain ⟨k9, hk9⟩ : ∃ k9, k9 = 9 := ⟨_, rfl⟩
                have l1 := fun n os => fo_ld hk9 (ns := n) (os := os) (World.news_of_block HX.out) HX.out.lt
                have l2 := fun n os => fo_ld hk9 (f := O[j]) (ns := n) (os := os) hco (add_lt _ hao)
                rw [← hk9] at l2
                have e8 : wrap64 ((j : Int) + 1) = ((j + 1 : Nat) : Int) := by have := Hml.out; unfold wrap64; omega
                have hc := fun n os => less_any ⟨fx, fy, kd, ix, ct, bt, op, lp, ln⟩ O[j] (Sort.grow (wr.drewN n) os)
                obtain ⟨R, hR⟩ : ∃ R, lessO ⟨fx, fy, kd, ix, ct, bt, op, lp, ln⟩ O[j] = R := ⟨_, rfl⟩
                rw [hR] at hc
                clear hR hco hao
                generalize hcs : Fo.cells O[j] = cs at l2 hc
                unfold Fo.cells at l1 hc
                dsimp only at l1 hc
                have aE := Try.isAgg34
                have zE : ∀ w, (Go.sizeOf 34).run Try.prog w = .ok k9 w := fun w => by rw [hk9]; kernel_rfl
                clear hk9
                have mixed : Try.prog.follows .mixedOrders = true := by kernel_rfl
                go_upto_region 11 with fail
                cases R with
                | false =>
                  refine wp_region_quiet_grown (by assumption) (by kernel_rfl) ?_
                  repeat (go_big_quiet_step (first | (go_at_call 16; refine Calls.grown_of (hc _ _))))
                  refine wpQuiet_nil ?_
                  rintro _ ⟨⟨nq, osq⟩, rfl⟩
                  have hbq : Below wr.heap.size wr (Sort.grow (wr.drewN nq) osq) := ot_grown nq osq
                  have HO2 := hide (HO.out.later hbq)
                  have HX2 := hide (HX.out.below hbq HX.out.lt)
                  clear l1 l2 hc HO HX hbq
                  generalize Sort.grow (wr.drewN nq) osq = wa at *
                  go_wp2
                  go_roundw
                  case rel => exact ⟨j + 1, hjm, congrArg (Value.int .i64) e8, HO2, HX2⟩
                  case measure => first | exact measT hjm | exact measT2 e8 hjm
                | true =>
                  refine wp_region_quiet_grown (by assumption) (by kernel_rfl) ?_
                  repeat (go_big_quiet_step (first | (go_at_call 16; refine Calls.grown_of (hc _ _))))
                  refine wpQuiet_nil ?_
                  rintro _ ⟨⟨nq, osq⟩, rfl⟩
                  have hbq : Below wr.heap.size wr (Sort.grow (wr.drewN nq) osq) := ot_grown nq osq
                  have HO2 := hide (HO.out.later hbq)
                  have HX2 := hide (HX.out.below hbq HX.out.lt)
                  clear l1 l2 hc HO HX hbq aE zE mixed
                  generalize Sort.grow (wr.drewN nq) osq = wa at *
                  have HLo := hide (Lies.of_own HO2.out.own)
                  have HA1 := hide ((Below.refl wa.heap.size wa).alloc (Nat.le_refl _) (.cells #[] 34))
                  have Hj := hide (show j ≤ O.length by rw [Hm.out]; exact hj)
                  have Htl : Hid ((O.take j).length = j) := hide (by rw [List.length_take, Nat.min_eq_left Hj.out])
                  have Hjm := hide (show j ≤ mx from hj)
                  have Hsum := hide (ot_sum hj Hm.out)
                  have Hb1 := hide (ot_nums hj Hml.out)
                  clear g3 g4 hcs hjm hjl bj e8 hj
                  go_wp2_with (first
                    | (refine wpl_slice_h rfl 22 34 (.tmp 79) (.tmp 80) rfl (some ao) mx cx j 9 rfl (by rfl) Hjm.out Hc3.out (by kernel_rfl) (by kernel_rfl) infoFo ?_)
                    | (at_builtin; refine wpl_app _ rfl foelems (.tmp 78) (.tmp 81) rfl wa.heap.size (.slice (some ⟨wa.heap.size, 0, none⟩) 0 0) 0 [] rfl (World.ownsRow_made wa #[] 0 (Nat.le_refl _) (Nat.zero_le _) rfl) wa.heap.size (some ao) j cx (rowO (O.take j)) rfl (by rw [rowO_len, Htl.out]) (lies_take (HLo.out.below HA1.out) j) (fun u hu => by obtain ⟨x, _, hx⟩ := List.mem_flatMap.1 hu; exact fo_one x u hx) (Nat.le_trans (Nat.le_of_eq (Nat.zero_add _)) (Nat.le_trans Hb1.out.1 (by decide))) (fo_bytes (Nat.le_trans (Nat.le_of_eq (Nat.zero_add _)) Hb1.out.1)) HA1.out.size ?_; intro A4 c4 wb hown hg hat; have Ho4 := hide (show wb.ownsRow wa.heap.size 34 9 (.slice A4 j c4) j (rowO (O.take j)) by simpa using hown); have Hg4 := hide hg; have Hb4 := hide (HA1.out.grown hg HA1.out.size (fun x e => by injection e with e; exact Nat.le_of_eq e)); have HXb := hide (HX2.out.below Hb4.out HX2.out.lt); have Hcb := hide (World.news_of_block HXb.out); unfold Fo.cells at Hcb; dsimp only at Hcb; have HA5 := hide ((Below.refl wb.heap.size wb).alloc (Nat.le_refl _) (.cells #[.int .i64 fx, .int .i64 fy, .int .i64 kd, .int .i64 ix, .int .i64 ct, .int .u64 bt, .int .u64 op, .int .i64 lp, .int .i64 ln] 34)); have Hsz5 := hide (Nat.le_trans Hb4.out.size HA5.out.size); clear hown hg hat)
                    | (with_reducible refine wpl_load_addr rfl 34 (.tmp 9) rfl ⟨q9, 0, none⟩ _ Hcb.out rfl _ Try.underlying34 rfl 9 infoFo rfl ?_)
                    | (at_builtin; refine wpl_app _ rfl foelems (.tmp 83) (.tmp 85) rfl wa.heap.size (.slice A4 j c4) j (rowO (O.take j)) rfl (own_keepT Ho4.out HA5.out) (wb.heap.size + 1) (some ⟨wb.heap.size, 0, none⟩) 1 1 [.int .i64 fx, .int .i64 fy, .int .i64 kd, .int .i64 ix, .int .i64 ct, .int .u64 bt, .int .u64 op, .int .i64 lp, .int .i64 ln] rfl (by rfl) (Lies.new wb #[.int .i64 fx, .int .i64 fy, .int .i64 kd, .int .i64 ix, .int .i64 ct, .int .u64 bt, .int .u64 op, .int .i64 lp, .int .i64 ln] 34 (0, 0) _ (Nat.lt_succ_self _)) (by simp [Value.oneCell']) (Nat.le_trans Hb1.out.2.1 (by decide)) (fo_bytes2 Hb1.out.2.1) Hsz5.out ?_; intro A5 c5 wc hown hg hat; have Ho5 := hide hown; have Hg5 := hide hg; have Hlc := hide (HLo.out.below ((Hb4.out.trans (HA5.out.mono Hb4.out.size)).grown hg Hsz5.out (fun x e => (own_lowS Ho4.out x e).1))); have Hszc := hide (Nat.le_trans Hsz5.out hg.size); clear hown hg hat)
                    | (refine wpl_slice_l rfl 22 34 (.tmp 88) (.tmp 89) rfl (some ao) mx cx j 9 rfl (by rfl) Hjm.out Hc3.out (by kernel_rfl) (by kernel_rfl) infoFo ?_; intro A6 hl6; have Hl6 := hide (hl6 _ _ _ Hlc.out (by rw [rowO_len, Hm.out])); rw [show (rowO O).drop (j * 9) = rowO (O.drop j) from rowO_drop O j Hj.out] at Hl6; clear hl6)
                    | (at_builtin; refine wpl_app _ rfl foelems (.tmp 87) (.tmp 90) rfl wa.heap.size (.slice A5 (j + 1) c5) (j + 1) (rowO (O.take j) ++ [.int .i64 fx, .int .i64 fy, .int .i64 kd, .int .i64 ix, .int .i64 ct, .int .u64 bt, .int .u64 op, .int .i64 lp, .int .i64 ln]) rfl Ho5.out wa.heap.size A6 (mx - j) (cx - j) (rowO (O.drop j)) rfl (by rw [rowO_len, List.length_drop, Hm.out]) Hl6.out (fun u hu => by obtain ⟨x, _, hx⟩ := List.mem_flatMap.1 hu; exact fo_one x u hx) (Nat.le_trans Hb1.out.2.2 (by decide)) (fo_bytes2 Hb1.out.2.2) Hszc.out ?_; intro A7 c7 wd hown hg hat; have Ho7 : Hid (wd.ownsRow wa.heap.size 34 9 (.slice A7 (O.length + 1) c7) (O.length + 1) (rowO (O.take j) ++ [.int .i64 fx, .int .i64 fy, .int .i64 kd, .int .i64 ix, .int .i64 ct, .int .u64 bt, .int .u64 op, .int .i64 lp, .int .i64 ln] ++ rowO (O.drop j))) := hide (by rw [← Hsum.out]; exact hown); have Hg7 := hide hg; have HN := hide (HO2.out.more Hpf.out Hj.out HA1.out Hg4.out HA5.out (fun g e => (own_lowS Ho4.out g e).1) Hg5.out (fun g e => (own_lowS Ho5.out g e).1) Hg7.out Ho7.out); clear hown hg hat))
                  go_roundw
                  case rel => exact ⟨k + 1, Hlt.out, congrArg (Value.int .i64) E7.out, O.take j ++ [⟨fx, fy, kd, ix, ct, bt, op, lp, ln⟩] ++ O.drop j, by rw [Hsum.out]; exact HN⟩
                  case measure => first | exact measT Hlt.out | exact measT2 E7.out Hlt.out
              · have g3 : decide (j < mx) = false := decide_eq_false hjm
                have g4 : decide ((j : Int) < (mx : Int)) = false := decide_eq_false (fun h => hjm (Int.ofNat_lt.1 h))
                go_upto_region 11 with fail
                go_quiet (fail)
                have HO2 := hide (HO.out.later (W' := wr.drewN nq) ⟨rfl, rfl, rfl, Nat.le_refl _, fun _ _ => rfl⟩)
                have HX2 : Hid (BoxO ⟨fx, fy, kd, ix, ct, bt, op, lp, ln⟩ q9 (wr.drewN nq)) := hide HX.out
                clear HO HX
                generalize wr.drewN nq = wa at *
                have HLo := hide (Lies.of_own HO2.out.own)
                have HA1 := hide ((Below.refl wa.heap.size wa).alloc (Nat.le_refl _) (.cells #[] 34))
                have Hj := hide (show j ≤ O.length by rw [Hm.out]; exact hj)
                have Htl : Hid ((O.take j).length = j) := hide (by rw [List.length_take, Nat.min_eq_left Hj.out])
                have Hjm := hide (show j ≤ mx from hj)
                have Hsum := hide (ot_sum hj Hm.out)
                have Hb1 := hide (ot_nums hj Hml.out)
                clear g3 g4 hjm hj
                go_wp2_with (first
                  | (refine wpl_slice_h rfl 22 34 (.tmp 79) (.tmp 80) rfl Ax mx cx j 9 rfl (by rfl) Hjm.out Hc3.out (by kernel_rfl) (by kernel_rfl) infoFo ?_)
                  | (at_builtin; refine wpl_app _ rfl foelems (.tmp 78) (.tmp 81) rfl wa.heap.size (.slice (some ⟨wa.heap.size, 0, none⟩) 0 0) 0 [] rfl (World.ownsRow_made wa #[] 0 (Nat.le_refl _) (Nat.zero_le _) rfl) wa.heap.size Ax j cx (rowO (O.take j)) rfl (by rw [rowO_len, Htl.out]) (lies_take (HLo.out.below HA1.out) j) (fun u hu => by obtain ⟨x, _, hx⟩ := List.mem_flatMap.1 hu; exact fo_one x u hx) (Nat.le_trans (Nat.le_of_eq (Nat.zero_add _)) (Nat.le_trans Hb1.out.1 (by decide))) (fo_bytes (Nat.le_trans (Nat.le_of_eq (Nat.zero_add _)) Hb1.out.1)) HA1.out.size ?_; intro A4 c4 wb hown hg hat; have Ho4 := hide (show wb.ownsRow wa.heap.size 34 9 (.slice A4 j c4) j (rowO (O.take j)) by simpa using hown); have Hg4 := hide hg; have Hb4 := hide (HA1.out.grown hg HA1.out.size (fun x e => by injection e with e; exact Nat.le_of_eq e)); have HXb := hide (HX2.out.below Hb4.out HX2.out.lt); have Hcb := hide (World.news_of_block HXb.out); unfold Fo.cells at Hcb; dsimp only at Hcb; have HA5 := hide ((Below.refl wb.heap.size wb).alloc (Nat.le_refl _) (.cells #[.int .i64 fx, .int .i64 fy, .int .i64 kd, .int .i64 ix, .int .i64 ct, .int .u64 bt, .int .u64 op, .int .i64 lp, .int .i64 ln] 34)); have Hsz5 := hide (Nat.le_trans Hb4.out.size HA5.out.size); clear hown hg hat)
                  | (with_reducible refine wpl_load_addr rfl 34 (.tmp 9) rfl ⟨q9, 0, none⟩ _ Hcb.out rfl _ Try.underlying34 rfl 9 infoFo rfl ?_)
                  | (at_builtin; refine wpl_app _ rfl foelems (.tmp 83) (.tmp 85) rfl wa.heap.size (.slice A4 j c4) j (rowO (O.take j)) rfl (own_keepT Ho4.out HA5.out) (wb.heap.size + 1) (some ⟨wb.heap.size, 0, none⟩) 1 1 [.int .i64 fx, .int .i64 fy, .int .i64 kd, .int .i64 ix, .int .i64 ct, .int .u64 bt, .int .u64 op, .int .i64 lp, .int .i64 ln] rfl (by rfl) (Lies.new wb #[.int .i64 fx, .int .i64 fy, .int .i64 kd, .int .i64 ix, .int .i64 ct, .int .u64 bt, .int .u64 op, .int .i64 lp, .int .i64 ln] 34 (0, 0) _ (Nat.lt_succ_self _)) (by simp [Value.oneCell']) (Nat.le_trans Hb1.out.2.1 (by decide)) (fo_bytes2 Hb1.out.2.1) Hsz5.out ?_; intro A5 c5 wc hown hg hat; have Ho5 := hide hown; have Hg5 := hide hg; have Hlc := hide (HLo.out.below ((Hb4.out.trans (HA5.out.mono Hb4.out.size)).grown hg Hsz5.out (fun x e => (own_lowS Ho4.out x e).1))); have Hszc := hide (Nat.le_trans Hsz5.out hg.size); clear hown hg hat)
                  | (refine wpl_slice_l rfl 22 34 (.tmp 88) (.tmp 89) rfl Ax mx cx j 9 rfl (by rfl) Hjm.out Hc3.out (by kernel_rfl) (by kernel_rfl) infoFo ?_; intro A6 hl6; have Hl6 := hide (hl6 _ _ _ Hlc.out (by rw [rowO_len, Hm.out])); rw [show (rowO O).drop (j * 9) = rowO (O.drop j) from rowO_drop O j Hj.out] at Hl6; clear hl6)
                  | (at_builtin; refine wpl_app _ rfl foelems (.tmp 87) (.tmp 90) rfl wa.heap.size (.slice A5 (j + 1) c5) (j + 1) (rowO (O.take j) ++ [.int .i64 fx, .int .i64 fy, .int .i64 kd, .int .i64 ix, .int .i64 ct, .int .u64 bt, .int .u64 op, .int .i64 lp, .int .i64 ln]) rfl Ho5.out wa.heap.size A6 (mx - j) (cx - j) (rowO (O.drop j)) rfl (by rw [rowO_len, List.length_drop, Hm.out]) Hl6.out (fun u hu => by obtain ⟨x, _, hx⟩ := List.mem_flatMap.1 hu; exact fo_one x u hx) (Nat.le_trans Hb1.out.2.2 (by decide)) (fo_bytes2 Hb1.out.2.2) Hszc.out ?_; intro A7 c7 wd hown hg hat; have Ho7 : Hid (wd.ownsRow wa.heap.size 34 9 (.slice A7 (O.length + 1) c7) (O.length + 1) (rowO (O.take j) ++ [.int .i64 fx, .int .i64 fy, .int .i64 kd, .int .i64 ix, .int .i64 ct, .int .u64 bt, .int .u64 op, .int .i64 lp, .int .i64 ln] ++ rowO (O.drop j))) := hide (by rw [← Hsum.out]; exact hown); have Hg7 := hide hg; have HN := hide (HO2.out.more Hpf.out Hj.out HA1.out Hg4.out HA5.out (fun g e => (own_lowS Ho4.out g e).1) Hg5.out (fun g e => (own_lowS Ho5.out g e).1) Hg7.out Ho7.out); clear hown hg hat))
                go_roundw
                case rel => exact ⟨k + 1, Hlt.out, congrArg (Value.int .i64) E7.out, O.take j ++ [⟨fx, fy, kd, ix, ct, bt, op, lp, ln⟩] ++ O.drop j, by rw [Hsum.out]; exact HN⟩
                case measure => first | exact measT Hlt.out | exact measT2 E7.out Hlt.out
          · have h0' : (0 : Int) < (m : Int) := by omega
            have g0 : decide ((0 : Int) < (m : Int)) = true := decide_eq_true h0'
            have g0n : decide (0 < m) = true := decide_eq_true (by omega)
            have hOm : 0 < O.length := by rw [Hm.out]; omega
            have hsh : ∃ g, A3 = some ⟨g, 0, none⟩ := by
              rcases HO5.out.own.2 with ⟨e, h⟩ | ⟨g, cap, cur, e, _⟩
              · omega
              · injection e with e; exact ⟨g, e⟩
            obtain ⟨g, rfl⟩ := hsh
            obtain ⟨ag, eg, _, hcg⟩ := (Lies.of_own HO5.out.own).elem (f := Fo.cells) (m := 9) Fo.cells_len hOm (by decide)
            cases eg
            obtain ⟨o0, ho0⟩ : ∃ o0, (O[0]'hOm).bt = o0 := ⟨_, rfl⟩
            have y5 : w5.cell? ⟨g, 5, none⟩ = some (.int .u64 o0) := by
              have h := hcg 5 _ rfl
              rw [ho0] at h
              have e : ((⟨g, 0, none⟩ : Addr).add (0 * 9)).add 5 = ⟨g, 5, none⟩ := by simp [Addr.add]
              rw [e] at h
              exact h
            clear hcg ho0 hOm
            by_cases h1 : bt < o0
            · have g1 : decide (bt < o0) = true := decide_eq_true h1
              clear h1
              go_upto_region 7 with fail
              go_quiet (fail)
              have HN := hide ((HO5.out.later (W' := w5.drewN nq) ⟨rfl, rfl, rfl, Nat.le_refl _, fun _ _ => rfl⟩).up)
              go_wp2
              go_roundw
              case rel => exact ⟨k + 1, Hlt.out, congrArg (Value.int .i64) E7.out, O, by rw [← Hm.out]; exact HN⟩
              case measure => first | exact measT Hlt.out | exact measT2 E7.out Hlt.out
            · have g1 : decide (bt < o0) = false := decide_eq_false h1
              clear h1
              go_upto_region 7 with fail
              go_quiet (fail)
              have HO7 := hide (HO5.out.later (W' := w5.drewN nq) ⟨rfl, rfl, rfl, Nat.le_refl _, fun _ _ => rfl⟩)
              have HX7 : Hid (BoxO ⟨fx, fy, kd, ix, ct, bt, op, lp, ln⟩ q9 (w5.drewN nq)) := hide HX5.out
              have y7 : (w5.drewN nq).cell? ⟨g, 5, none⟩ = some (.int .u64 o0) := y5
              clear HO5 HX5 x5 y5 g1
              generalize w5.drewN nq = w7 at *
              have x5 := HX7.out.c 5 _ rfl
              dsimp only at x5
              by_cases h2 : o0 < bt
              · have g2 : decide (o0 < bt) = true := decide_eq_true h2
                clear h2
                go_upto_region 8 with fail
                go_quiet (fail)
                have HO8 := hide (HO7.out.later (W' := w7.drewN nq) ⟨rfl, rfl, rfl, Nat.le_refl _, fun _ _ => rfl⟩).nil
                have HX8 : Hid (BoxO ⟨fx, fy, kd, ix, ct, bt, op, lp, ln⟩ q9 (w7.drewN nq)) := hide HX7.out
                clear HO7 HX7 x5 y7
                generalize w7.drewN nq = w8 at *
                clear Hm Hc3
                obtain ⟨O, hO'⟩ : ∃ O2, ([] : List Fo) = O2 := ⟨_, rfl⟩
                rw [hO'] at HO8
                have Hm : Hid (O.length = 0) := hide (by rw [← hO']; rfl)
                have Hml : Hid (0 ≤ 2000) := hide (by decide)
                have Hc3 : Hid (0 ≤ 0) := hide (Nat.le_refl _)
                clear hO' g0 g0n h0 h0'
                go_upto_region 10 with fail
                obtain ⟨v7, hv7⟩ : ∃ v, Value.slice none 0 0 = v := ⟨_, rfl⟩
                rw (occs := .pos [2]) [hv7]
                rw [hv7] at HO8
                obtain ⟨Ax, mx, cx, ev, Hc3, Hm, Hml⟩ : ∃ A m c, v7 = .slice A m c ∧ Hid (m ≤ c) ∧ Hid (O.length = m) ∧ Hid (m ≤ 2000) := ⟨none, 0, 0, hv7.symm, Hc3, Hm, Hml⟩
                clear hv7
                subst ev
                go_wp2
                go_loopw [10] (fun i W => ∃ j : Nat, j ≤ mx ∧ i = .int .i64 (j : Int) ∧ Hid (Ot w p k O (.slice Ax mx cx) W) ∧ Hid (BoxO ⟨fx, fy, kd, ix, ct, bt, op, lp, ln⟩ q9 W)) (fun i _ => mx - (intOf i).toNat)
                case atStart => exact ⟨0, Nat.zero_le _, rfl, HO8, HX8⟩
                case round =>
                  clear HO8 HX8
                  obtain ⟨j, hj, rfl, HO, HX⟩ := hrel
                  by_cases hjm : j < mx
                  · have g3 : decide (j < mx) = true := decide_eq_true hjm
                    have g4 : decide ((j : Int) < (mx : Int)) = true := decide_eq_true (Int.ofNat_lt.2 hjm)
                    have hjl : j < O.length := by rw [Hm.out]; exact hjm
                    have bj : (j : Int) < (mx : Int) := Int.ofNat_lt.2 hjm
                    obtain ⟨ao, eao, hao, hco⟩ := (Lies.of_own HO.out.own).elem (f := Fo.cells) (m := 9) Fo.cells_len hjl (by decide)
                    cases eao
                    obtain ⟨k9, hk9⟩ : ∃ k9, k9 = 9 := ⟨_, rfl⟩
                    have l1 := fun n os => fo_ld hk9 (ns := n) (os := os) (World.news_of_block HX.out) HX.out.lt
                    have l2 := fun n os => fo_ld hk9 (f := O[j]) (ns := n) (os := os) hco (add_lt _ hao)
                    rw [← hk9] at l2
                    have e8 : wrap64 ((j : Int) + 1) = ((j + 1 : Nat) : Int) := by have := Hml.out; unfold wrap64; omega
                    have hc := fun n os => less_any ⟨fx, fy, kd, ix, ct, bt, op, lp, ln⟩ O[j] (Sort.grow (wr.drewN n) os)
                    obtain ⟨R, hR⟩ : ∃ R, lessO ⟨fx, fy, kd, ix, ct, bt, op, lp, ln⟩ O[j] = R := ⟨_, rfl⟩
                    rw [hR] at hc
                    clear hR hco hao
                    generalize hcs : Fo.cells O[j] = cs at l2 hc
                    unfold Fo.cells at l1 hc
                    dsimp only at l1 hc
                    have aE := Try.isAgg34
                    have zE : ∀ w, (Go.sizeOf 34).run Try.prog w = .ok k9 w := fun w => by rw [hk9]; kernel_rfl
                    clear hk9
                    have mixed : Try.prog.follows .mixedOrders = true := by kernel_rfl
                    go_upto_region 11 with fail
                    cases R with
                    | false =>
                      refine wp_region_quiet_grown (by assumption) (by kernel_rfl) ?_
                      repeat (go_big_quiet_step (first | (go_at_call 16; refine Calls.grown_of (hc _ _))))
                      refine wpQuiet_nil ?_
                      rintro _ ⟨⟨nq, osq⟩, rfl⟩
                      have hbq : Below wr.heap.size wr (Sort.grow (wr.drewN nq) osq) := ot_grown nq osq
                      have HO2 := hide (HO.out.later hbq)
                      have HX2 := hide (HX.out.below hbq HX.out.lt)
                      clear l1 l2 hc HO HX hbq
                      generalize Sort.grow (wr.drewN nq) osq = wa at *
                      go_wp2
                      go_roundw
                      case rel => exact ⟨j + 1, hjm, congrArg (Value.int .i64) e8, HO2, HX2⟩
                      case measure => first | exact measT hjm | exact measT2 e8 hjm
                    | true =>
                      refine wp_region_quiet_grown (by assumption) (by kernel_rfl) ?_
                      repeat (go_big_quiet_step (first | (go_at_call 16; refine Calls.grown_of (hc _ _))))
                      refine wpQuiet_nil ?_
                      rintro _ ⟨⟨nq, osq⟩, rfl⟩
                      have hbq : Below wr.heap.size wr (Sort.grow (wr.drewN nq) osq) := ot_grown nq osq
                      have HO2 := hide (HO.out.later hbq)
                      have HX2 := hide (HX.out.below hbq HX.out.lt)
                      clear l1 l2 hc HO HX hbq aE zE mixed
                      generalize Sort.grow (wr.drewN nq) osq = wa at *
                      have HLo := hide (Lies.of_own HO2.out.own)
                      have HA1 := hide ((Below.refl wa.heap.size wa).alloc (Nat.le_refl _) (.cells #[] 34))
                      have Hj := hide (show j ≤ O.length by rw [Hm.out]; exact hj)
                      have Htl : Hid ((O.take j).length = j) := hide (by rw [List.length_take, Nat.min_eq_left Hj.out])
                      have Hjm := hide (show j ≤ mx from hj)
                      have Hsum := hide (ot_sum hj Hm.out)
                      have Hb1 := hide (ot_nums hj Hml.out)
                      clear g3 g4 hcs hjm hjl bj e8 hj
                      go_wp2_with (first
                        | (refine wpl_slice_h rfl 22 34 (.tmp 79) (.tmp 80) rfl (some ao) mx cx j 9 rfl (by rfl) Hjm.out Hc3.out (by kernel_rfl) (by kernel_rfl) infoFo ?_)
                        | (at_builtin; refine wpl_app _ rfl foelems (.tmp 78) (.tmp 81) rfl wa.heap.size (.slice (some ⟨wa.heap.size, 0, none⟩) 0 0) 0 [] rfl (World.ownsRow_made wa #[] 0 (Nat.le_refl _) (Nat.zero_le _) rfl) wa.heap.size (some ao) j cx (rowO (O.take j)) rfl (by rw [rowO_len, Htl.out]) (lies_take (HLo.out.below HA1.out) j) (fun u hu => by obtain ⟨x, _, hx⟩ := List.mem_flatMap.1 hu; exact fo_one x u hx) (Nat.le_trans (Nat.le_of_eq (Nat.zero_add _)) (Nat.le_trans Hb1.out.1 (by decide))) (fo_bytes (Nat.le_trans (Nat.le_of_eq (Nat.zero_add _)) Hb1.out.1)) HA1.out.size ?_; intro A4 c4 wb hown hg hat; have Ho4 := hide (show wb.ownsRow wa.heap.size 34 9 (.slice A4 j c4) j (rowO (O.take j)) by simpa using hown); have Hg4 := hide hg; have Hb4 := hide (HA1.out.grown hg HA1.out.size (fun x e => by injection e with e; exact Nat.le_of_eq e)); have HXb := hide (HX2.out.below Hb4.out HX2.out.lt); have Hcb := hide (World.news_of_block HXb.out); unfold Fo.cells at Hcb; dsimp only at Hcb; have HA5 := hide ((Below.refl wb.heap.size wb).alloc (Nat.le_refl _) (.cells #[.int .i64 fx, .int .i64 fy, .int .i64 kd, .int .i64 ix, .int .i64 ct, .int .u64 bt, .int .u64 op, .int .i64 lp, .int .i64 ln] 34)); have Hsz5 := hide (Nat.le_trans Hb4.out.size HA5.out.size); clear hown hg hat)
                        | (with_reducible refine wpl_load_addr rfl 34 (.tmp 9) rfl ⟨q9, 0, none⟩ _ Hcb.out rfl _ Try.underlying34 rfl 9 infoFo rfl ?_)
                        | (at_builtin; refine wpl_app _ rfl foelems (.tmp 83) (.tmp 85) rfl wa.heap.size (.slice A4 j c4) j (rowO (O.take j)) rfl (own_keepT Ho4.out HA5.out) (wb.heap.size + 1) (some ⟨wb.heap.size, 0, none⟩) 1 1 [.int .i64 fx, .int .i64 fy, .int .i64 kd, .int .i64 ix, .int .i64 ct, .int .u64 bt, .int .u64 op, .int .i64 lp, .int .i64 ln] rfl (by rfl) (Lies.new wb #[.int .i64 fx, .int .i64 fy, .int .i64 kd, .int .i64 ix, .int .i64 ct, .int .u64 bt, .int .u64 op, .int .i64 lp, .int .i64 ln] 34 (0, 0) _ (Nat.lt_succ_self _)) (by simp [Value.oneCell']) (Nat.le_trans Hb1.out.2.1 (by decide)) (fo_bytes2 Hb1.out.2.1) Hsz5.out ?_; intro A5 c5 wc hown hg hat; have Ho5 := hide hown; have Hg5 := hide hg; have Hlc := hide (HLo.out.below ((Hb4.out.trans (HA5.out.mono Hb4.out.size)).grown hg Hsz5.out (fun x e => (own_lowS Ho4.out x e).1))); have Hszc := hide (Nat.le_trans Hsz5.out hg.size); clear hown hg hat)
                        | (refine wpl_slice_l rfl 22 34 (.tmp 88) (.tmp 89) rfl (some ao) mx cx j 9 rfl (by rfl) Hjm.out Hc3.out (by kernel_rfl) (by kernel_rfl) infoFo ?_; intro A6 hl6; have Hl6 := hide (hl6 _ _ _ Hlc.out (by rw [rowO_len, Hm.out])); rw [show (rowO O).drop (j * 9) = rowO (O.drop j) from rowO_drop O j Hj.out] at Hl6; clear hl6)
                        | (at_builtin; refine wpl_app _ rfl foelems (.tmp 87) (.tmp 90) rfl wa.heap.size (.slice A5 (j + 1) c5) (j + 1) (rowO (O.take j) ++ [.int .i64 fx, .int .i64 fy, .int .i64 kd, .int .i64 ix, .int .i64 ct, .int .u64 bt, .int .u64 op, .int .i64 lp, .int .i64 ln]) rfl Ho5.out wa.heap.size A6 (mx - j) (cx - j) (rowO (O.drop j)) rfl (by rw [rowO_len, List.length_drop, Hm.out]) Hl6.out (fun u hu => by obtain ⟨x, _, hx⟩ := List.mem_flatMap.1 hu; exact fo_one x u hx) (Nat.le_trans Hb1.out.2.2 (by decide)) (fo_bytes2 Hb1.out.2.2) Hszc.out ?_; intro A7 c7 wd hown hg hat; have Ho7 : Hid (wd.ownsRow wa.heap.size 34 9 (.slice A7 (O.length + 1) c7) (O.length + 1) (rowO (O.take j) ++ [.int .i64 fx, .int .i64 fy, .int .i64 kd, .int .i64 ix, .int .i64 ct, .int .u64 bt, .int .u64 op, .int .i64 lp, .int .i64 ln] ++ rowO (O.drop j))) := hide (by rw [← Hsum.out]; exact hown); have Hg7 := hide hg; have HN := hide (HO2.out.more Hpf.out Hj.out HA1.out Hg4.out HA5.out (fun g e => (own_lowS Ho4.out g e).1) Hg5.out (fun g e => (own_lowS Ho5.out g e).1) Hg7.out Ho7.out); clear hown hg hat))
                      go_roundw
                      case rel => exact ⟨k + 1, Hlt.out, congrArg (Value.int .i64) E7.out, O.take j ++ [⟨fx, fy, kd, ix, ct, bt, op, lp, ln⟩] ++ O.drop j, by rw [Hsum.out]; exact HN⟩
                      case measure => first | exact measT Hlt.out | exact measT2 E7.out Hlt.out
                  · have g3 : decide (j < mx) = false := decide_eq_false hjm
                    have g4 : decide ((j : Int) < (mx : Int)) = false := decide_eq_false (fun h => hjm (Int.ofNat_lt.1 h))
                    go_upto_region 11 with fail
                    go_quiet (fail)
                    have HO2 := hide (HO.out.later (W' := wr.drewN nq) ⟨rfl, rfl, rfl, Nat.le_refl _, fun _ _ => rfl⟩)
                    have HX2 : Hid (BoxO ⟨fx, fy, kd, ix, ct, bt, op, lp, ln⟩ q9 (wr.drewN nq)) := hide HX.out
                    clear HO HX
                    generalize wr.drewN nq = wa at *
                    have HLo := hide (Lies.of_own HO2.out.own)
                    have HA1 := hide ((Below.refl wa.heap.size wa).alloc (Nat.le_refl _) (.cells #[] 34))
                    have Hj := hide (show j ≤ O.length by rw [Hm.out]; exact hj)
                    have Htl : Hid ((O.take j).length = j) := hide (by rw [List.length_take, Nat.min_eq_left Hj.out])
                    have Hjm := hide (show j ≤ mx from hj)
                    have Hsum := hide (ot_sum hj Hm.out)
                    have Hb1 := hide (ot_nums hj Hml.out)
                    clear g3 g4 hjm hj
                    go_wp2_with (first
                      | (refine wpl_slice_h rfl 22 34 (.tmp 79) (.tmp 80) rfl Ax mx cx j 9 rfl (by rfl) Hjm.out Hc3.out (by kernel_rfl) (by kernel_rfl) infoFo ?_)
                      | (at_builtin; refine wpl_app _ rfl foelems (.tmp 78) (.tmp 81) rfl wa.heap.size (.slice (some ⟨wa.heap.size, 0, none⟩) 0 0) 0 [] rfl (World.ownsRow_made wa #[] 0 (Nat.le_refl _) (Nat.zero_le _) rfl) wa.heap.size Ax j cx (rowO (O.take j)) rfl (by rw [rowO_len, Htl.out]) (lies_take (HLo.out.below HA1.out) j) (fun u hu => by obtain ⟨x, _, hx⟩ := List.mem_flatMap.1 hu; exact fo_one x u hx) (Nat.le_trans (Nat.le_of_eq (Nat.zero_add _)) (Nat.le_trans Hb1.out.1 (by decide))) (fo_bytes (Nat.le_trans (Nat.le_of_eq (Nat.zero_add _)) Hb1.out.1)) HA1.out.size ?_; intro A4 c4 wb hown hg hat; have Ho4 := hide (show wb.ownsRow wa.heap.size 34 9 (.slice A4 j c4) j (rowO (O.take j)) by simpa using hown); have Hg4 := hide hg; have Hb4 := hide (HA1.out.grown hg HA1.out.size (fun x e => by injection e with e; exact Nat.le_of_eq e)); have HXb := hide (HX2.out.below Hb4.out HX2.out.lt); have Hcb := hide (World.news_of_block HXb.out); unfold Fo.cells at Hcb; dsimp only at Hcb; have HA5 := hide ((Below.refl wb.heap.size wb).alloc (Nat.le_refl _) (.cells #[.int .i64 fx, .int .i64 fy, .int .i64 kd, .int .i64 ix, .int .i64 ct, .int .u64 bt, .int .u64 op, .int .i64 lp, .int .i64 ln] 34)); have Hsz5 := hide (Nat.le_trans Hb4.out.size HA5.out.size); clear hown hg hat)
                      | (with_reducible refine wpl_load_addr rfl 34 (.tmp 9) rfl ⟨q9, 0, none⟩ _ Hcb.out rfl _ Try.underlying34 rfl 9 infoFo rfl ?_)
                      | (at_builtin; refine wpl_app _ rfl foelems (.tmp 83) (.tmp 85) rfl wa.heap.size (.slice A4 j c4) j (rowO (O.take j)) rfl (own_keepT Ho4.out HA5.out) (wb.heap.size + 1) (some ⟨wb.heap.size, 0, none⟩) 1 1 [.int .i64 fx, .int .i64 fy, .int .i64 kd, .int .i64 ix, .int .i64 ct, .int .u64 bt, .int .u64 op, .int .i64 lp, .int .i64 ln] rfl (by rfl) (Lies.new wb #[.int .i64 fx, .int .i64 fy, .int .i64 kd, .int .i64 ix, .int .i64 ct, .int .u64 bt, .int .u64 op, .int .i64 lp, .int .i64 ln] 34 (0, 0) _ (Nat.lt_succ_self _)) (by simp [Value.oneCell']) (Nat.le_trans Hb1.out.2.1 (by decide)) (fo_bytes2 Hb1.out.2.1) Hsz5.out ?_; intro A5 c5 wc hown hg hat; have Ho5 := hide hown; have Hg5 := hide hg; have Hlc := hide (HLo.out.below ((Hb4.out.trans (HA5.out.mono Hb4.out.size)).grown hg Hsz5.out (fun x e => (own_lowS Ho4.out x e).1))); have Hszc := hide (Nat.le_trans Hsz5.out hg.size); clear hown hg hat)
                      | (refine wpl_slice_l rfl 22 34 (.tmp 88) (.tmp 89) rfl Ax mx cx j 9 rfl (by rfl) Hjm.out Hc3.out (by kernel_rfl) (by kernel_rfl) infoFo ?_; intro A6 hl6; have Hl6 := hide (hl6 _ _ _ Hlc.out (by rw [rowO_len, Hm.out])); rw [show (rowO O).drop (j * 9) = rowO (O.drop j) from rowO_drop O j Hj.out] at Hl6; clear hl6)
                      | (at_builtin; refine wpl_app _ rfl foelems (.tmp 87) (.tmp 90) rfl wa.heap.size (.slice A5 (j + 1) c5) (j + 1) (rowO (O.take j) ++ [.int .i64 fx, .int .i64 fy, .int .i64 kd, .int .i64 ix, .int .i64 ct, .int .u64 bt, .int .u64 op, .int .i64 lp, .int .i64 ln]) rfl Ho5.out wa.heap.size A6 (mx - j) (cx - j) (rowO (O.drop j)) rfl (by rw [rowO_len, List.length_drop, Hm.out]) Hl6.out (fun u hu => by obtain ⟨x, _, hx⟩ := List.mem_flatMap.1 hu; exact fo_one x u hx) (Nat.le_trans Hb1.out.2.2 (by decide)) (fo_bytes2 Hb1.out.2.2) Hszc.out ?_; intro A7 c7 wd hown hg hat; have Ho7 : Hid (wd.ownsRow wa.heap.size 34 9 (.slice A7 (O.length + 1) c7) (O.length + 1) (rowO (O.take j) ++ [.int .i64 fx, .int .i64 fy, .int .i64 kd, .int .i64 ix, .int .i64 ct, .int .u64 bt, .int .u64 op, .int .i64 lp, .int .i64 ln] ++ rowO (O.drop j))) := hide (by rw [← Hsum.out]; exact hown); have Hg7 := hide hg; have HN := hide (HO2.out.more Hpf.out Hj.out HA1.out Hg4.out HA5.out (fun g e => (own_lowS Ho4.out g e).1) Hg5.out (fun g e => (own_lowS Ho5.out g e).1) Hg7.out Ho7.out); clear hown hg hat))
                    go_roundw
                    case rel => exact ⟨k + 1, Hlt.out, congrArg (Value.int .i64) E7.out, O.take j ++ [⟨fx, fy, kd, ix, ct, bt, op, lp, ln⟩] ++ O.drop j, by rw [Hsum.out]; exact HN⟩
                    case measure => first | exact measT Hlt.out | exact measT2 E7.out Hlt.out
              · have g2 : decide (o0 < bt) = false := decide_eq_false h2
                clear h2
                go_upto_region 8 with fail
                go_quiet (fail)
                have HO8 := hide (HO7.out.later (W' := w7.drewN nq) ⟨rfl, rfl, rfl, Nat.le_refl _, fun _ _ => rfl⟩)
                have HX8 : Hid (BoxO ⟨fx, fy, kd, ix, ct, bt, op, lp, ln⟩ q9 (w7.drewN nq)) := hide HX7.out
                clear HO7 HX7 x5 y7
                generalize w7.drewN nq = w8 at *
                rw [Hm.out] at HO8 Hc3
                have Hml : Hid (m ≤ 2000) := hide (by have := HO8.out.len; have := Hm.out; have := Hbig.out; have := Hlt.out; omega)
                clear g0 g0n g2
                obtain ⟨v7, hv7⟩ : ∃ v, Value.slice (some ⟨g, 0, none⟩) m c3 = v := ⟨_, rfl⟩
                rw [hv7]
                rw [hv7] at HO8
                obtain ⟨Ax, mx, cx, ev, Hc3, Hm, Hml⟩ : ∃ A m c, v7 = .slice A m c ∧ Hid (m ≤ c) ∧ Hid (O.length = m) ∧ Hid (m ≤ 2000) := ⟨(some ⟨g, 0, none⟩), m, c3, hv7.symm, Hc3, Hm, Hml⟩
                clear hv7
                subst ev
                go_wp2
                go_loopw [10] (fun i W => ∃ j : Nat, j ≤ mx ∧ i = .int .i64 (j : Int) ∧ Hid (Ot w p k O (.slice Ax mx cx) W) ∧ Hid (BoxO ⟨fx, fy, kd, ix, ct, bt, op, lp, ln⟩ q9 W)) (fun i _ => mx - (intOf i).toNat)
                case atStart => exact ⟨0, Nat.zero_le _, rfl, HO8, HX8⟩
                case round =>
                  clear HO8 HX8
                  obtain ⟨j, hj, rfl, HO, HX⟩ := hrel
                  by_cases hjm : j < mx
                  · have g3 : decide (j < mx) = true := decide_eq_true hjm
                    have g4 : decide ((j : Int) < (mx : Int)) = true := decide_eq_true (Int.ofNat_lt.2 hjm)
                    have hjl : j < O.length := by rw [Hm.out]; exact hjm
                    have bj : (j : Int) < (mx : Int) := Int.ofNat_lt.2 hjm
                    obtain ⟨ao, eao, hao, hco⟩ := (Lies.of_own HO.out.own).elem (f := Fo.cells) (m := 9) Fo.cells_len hjl (by decide)
                    cases eao
                    obtain ⟨k9, hk9⟩ : ∃ k9, k9 = 9 := ⟨_, rfl⟩
                    have l1 := fun n os => fo_ld hk9 (ns := n) (os := os) (World.news_of_block HX.out) HX.out.lt
                    have l2 := fun n os => fo_ld hk9 (f := O[j]) (ns := n) (os := os) hco (add_lt _ hao)
                    rw [← hk9] at l2
                    have e8 : wrap64 ((j : Int) + 1) = ((j + 1 : Nat) : Int) := by have := Hml.out; unfold wrap64; omega
                    have hc := fun n os => less_any ⟨fx, fy, kd, ix, ct, bt, op, lp, ln⟩ O[j] (Sort.grow (wr.drewN n) os)
                    obtain ⟨R, hR⟩ : ∃ R, lessO ⟨fx, fy, kd, ix, ct, bt, op, lp, ln⟩ O[j] = R := ⟨_, rfl⟩
                    rw [hR] at hc
                    clear hR hco hao
                    generalize hcs : Fo.cells O[j] = cs at l2 hc
                    unfold Fo.cells at l1 hc
                    dsimp only at l1 hc
                    have aE := Try.isAgg34
                    have zE : ∀ w, (Go.sizeOf 34).run Try.prog w = .ok k9 w := fun w => by rw [hk9]; kernel_rfl
                    clear hk9
                    have mixed : Try.prog.follows .mixedOrders = true := by kernel_rfl
                    go_upto_region 11 with fail
                    cases R with
                    | false =>
                      refine wp_region_quiet_grown (by assumption) (by kernel_rfl) ?_
                      repeat (go_big_quiet_step (first | (go_at_call 16; refine Calls.grown_of (hc _ _))))
                      refine wpQuiet_nil ?_
                      rintro _ ⟨⟨nq, osq⟩, rfl⟩
                      have hbq : Below wr.heap.size wr (Sort.grow (wr.drewN nq) osq) := ot_grown nq osq
                      have HO2 := hide (HO.out.later hbq)
                      have HX2 := hide (HX.out.below hbq HX.out.lt)
                      clear l1 l2 hc HO HX hbq
                      generalize Sort.grow (wr.drewN nq) osq = wa at *
                      go_wp2
                      go_roundw
                      case rel => exact ⟨j + 1, hjm, congrArg (Value.int .i64) e8, HO2, HX2⟩
                      case measure => first | exact measT hjm | exact measT2 e8 hjm
                    | true =>
                      refine wp_region_quiet_grown (by assumption) (by kernel_rfl) ?_
                      repeat (go_big_quiet_step (first | (go_at_call 16; refine Calls.grown_of (hc _ _))))
                      refine wpQuiet_nil ?_
                      rintro _ ⟨⟨nq, osq⟩, rfl⟩
                      have hbq : Below wr.heap.size wr (Sort.grow (wr.drewN nq) osq) := ot_grown nq osq
                      have HO2 := hide (HO.out.later hbq)
                      have HX2 := hide (HX.out.below hbq HX.out.lt)
                      clear l1 l2 hc HO HX hbq aE zE mixed
                      generalize Sort.grow (wr.drewN nq) osq = wa at *
                      have HLo := hide (Lies.of_own HO2.out.own)
                      have HA1 := hide ((Below.refl wa.heap.size wa).alloc (Nat.le_refl _) (.cells #[] 34))
                      have Hj := hide (show j ≤ O.length by rw [Hm.out]; exact hj)
                      have Htl : Hid ((O.take j).length = j) := hide (by rw [List.length_take, Nat.min_eq_left Hj.out])
                      have Hjm := hide (show j ≤ mx from hj)
                      have Hsum := hide (ot_sum hj Hm.out)
                      have Hb1 := hide (ot_nums hj Hml.out)
                      clear g3 g4 hcs hjm hjl bj e8 hj
                      go_wp2_with (first
                        | (refine wpl_slice_h rfl 22 34 (.tmp 79) (.tmp 80) rfl (some ao) mx cx j 9 rfl (by rfl) Hjm.out Hc3.out (by kernel_rfl) (by kernel_rfl) infoFo ?_)
                        | (at_builtin; refine wpl_app _ rfl foelems (.tmp 78) (.tmp 81) rfl wa.heap.size (.slice (some ⟨wa.heap.size, 0, none⟩) 0 0) 0 [] rfl (World.ownsRow_made wa #[] 0 (Nat.le_refl _) (Nat.zero_le _) rfl) wa.heap.size (some ao) j cx (rowO (O.take j)) rfl (by rw [rowO_len, Htl.out]) (lies_take (HLo.out.below HA1.out) j) (fun u hu => by obtain ⟨x, _, hx⟩ := List.mem_flatMap.1 hu; exact fo_one x u hx) (Nat.le_trans (Nat.le_of_eq (Nat.zero_add _)) (Nat.le_trans Hb1.out.1 (by decide))) (fo_bytes (Nat.le_trans (Nat.le_of_eq (Nat.zero_add _)) Hb1.out.1)) HA1.out.size ?_; intro A4 c4 wb hown hg hat; have Ho4 := hide (show wb.ownsRow wa.heap.size 34 9 (.slice A4 j c4) j (rowO (O.take j)) by simpa using hown); have Hg4 := hide hg; have Hb4 := hide (HA1.out.grown hg HA1.out.size (fun x e => by injection e with e; exact Nat.le_of_eq e)); have HXb := hide (HX2.out.below Hb4.out HX2.out.lt); have Hcb := hide (World.news_of_block HXb.out); unfold Fo.cells at Hcb; dsimp only at Hcb; have HA5 := hide ((Below.refl wb.heap.size wb).alloc (Nat.le_refl _) (.cells #[.int .i64 fx, .int .i64 fy, .int .i64 kd, .int .i64 ix, .int .i64 ct, .int .u64 bt, .int .u64 op, .int .i64 lp, .int .i64 ln] 34)); have Hsz5 := hide (Nat.le_trans Hb4.out.size HA5.out.size); clear hown hg hat)
                        | (with_reducible refine wpl_load_addr rfl 34 (.tmp 9) rfl ⟨q9, 0, none⟩ _ Hcb.out rfl _ Try.underlying34 rfl 9 infoFo rfl ?_)
                        | (at_builtin; refine wpl_app _ rfl foelems (.tmp 83) (.tmp 85) rfl wa.heap.size (.slice A4 j c4) j (rowO (O.take j)) rfl (own_keepT Ho4.out HA5.out) (wb.heap.size + 1) (some ⟨wb.heap.size, 0, none⟩) 1 1 [.int .i64 fx, .int .i64 fy, .int .i64 kd, .int .i64 ix, .int .i64 ct, .int .u64 bt, .int .u64 op, .int .i64 lp, .int .i64 ln] rfl (by rfl) (Lies.new wb #[.int .i64 fx, .int .i64 fy, .int .i64 kd, .int .i64 ix, .int .i64 ct, .int .u64 bt, .int .u64 op, .int .i64 lp, .int .i64 ln] 34 (0, 0) _ (Nat.lt_succ_self _)) (by simp [Value.oneCell']) (Nat.le_trans Hb1.out.2.1 (by decide)) (fo_bytes2 Hb1.out.2.1) Hsz5.out ?_; intro A5 c5 wc hown hg hat; have Ho5 := hide hown; have Hg5 := hide hg; have Hlc := hide (HLo.out.below ((Hb4.out.trans (HA5.out.mono Hb4.out.size)).grown hg Hsz5.out (fun x e => (own_lowS Ho4.out x e).1))); have Hszc := hide (Nat.le_trans Hsz5.out hg.size); clear hown hg hat)
                        | (refine wpl_slice_l rfl 22 34 (.tmp 88) (.tmp 89) rfl (some ao) mx cx j 9 rfl (by rfl) Hjm.out Hc3.out (by kernel_rfl) (by kernel_rfl) infoFo ?_; intro A6 hl6; have Hl6 := hide (hl6 _ _ _ Hlc.out (by rw [rowO_len, Hm.out])); rw [show (rowO O).drop (j * 9) = rowO (O.drop j) from rowO_drop O j Hj.out] at Hl6; clear hl6)
                        | (at_builtin; refine wpl_app _ rfl foelems (.tmp 87) (.tmp 90) rfl wa.heap.size (.slice A5 (j + 1) c5) (j + 1) (rowO (O.take j) ++ [.int .i64 fx, .int .i64 fy, .int .i64 kd, .int .i64 ix, .int .i64 ct, .int .u64 bt, .int .u64 op, .int .i64 lp, .int .i64 ln]) rfl Ho5.out wa.heap.size A6 (mx - j) (cx - j) (rowO (O.drop j)) rfl (by rw [rowO_len, List.length_drop, Hm.out]) Hl6.out (fun u hu => by obtain ⟨x, _, hx⟩ := List.mem_flatMap.1 hu; exact fo_one x u hx) (Nat.le_trans Hb1.out.2.2 (by decide)) (fo_bytes2 Hb1.out.2.2) Hszc.out ?_; intro A7 c7 wd hown hg hat; have Ho7 : Hid (wd.ownsRow wa.heap.size 34 9 (.slice A7 (O.length + 1) c7) (O.length + 1) (rowO (O.take j) ++ [.int .i64 fx, .int .i64 fy, .int .i64 kd, .int .i64 ix, .int .i64 ct, .int .u64 bt, .int .u64 op, .int .i64 lp, .int .i64 ln] ++ rowO (O.drop j))) := hide (by rw [← Hsum.out]; exact hown); have Hg7 := hide hg; have HN := hide (HO2.out.more Hpf.out Hj.out HA1.out Hg4.out HA5.out (fun g e => (own_lowS Ho4.out g e).1) Hg5.out (fun g e => (own_lowS Ho5.out g e).1) Hg7.out Ho7.out); clear hown hg hat))
                      go_roundw
                      case rel => exact ⟨k + 1, Hlt.out, congrArg (Value.int .i64) E7.out, O.take j ++ [⟨fx, fy, kd, ix, ct, bt, op, lp, ln⟩] ++ O.drop j, by rw [Hsum.out]; exact HN⟩
                      case measure => first | exact measT Hlt.out | exact measT2 E7.out Hlt.out
                  · have g3 : decide (j < mx) = false := decide_eq_false hjm
                    have g4 : decide ((j : Int) < (mx : Int)) = false := decide_eq_false (fun h => hjm (Int.ofNat_lt.1 h))
                    go_upto_region 11 with fail
                    go_quiet (fail)
                    have HO2 := hide (HO.out.later (W' := wr.drewN nq) ⟨rfl, rfl, rfl, Nat.le_refl _, fun _ _ => rfl⟩)
                    have HX2 : Hid (BoxO ⟨fx, fy, kd, ix, ct, bt, op, lp, ln⟩ q9 (wr.drewN nq)) := hide HX.out
                    clear HO HX
                    generalize wr.drewN nq = wa at *
                    have HLo := hide (Lies.of_own HO2.out.own)
                    have HA1 := hide ((Below.refl wa.heap.size wa).alloc (Nat.le_refl _) (.cells #[] 34))
                    have Hj := hide (show j ≤ O.length by rw [Hm.out]; exact hj)
                    have Htl : Hid ((O.take j).length = j) := hide (by rw [List.length_take, Nat.min_eq_left Hj.out])
                    have Hjm := hide (show j ≤ mx from hj)
                    have Hsum := hide (ot_sum hj Hm.out)
                    have Hb1 := hide (ot_nums hj Hml.out)
                    clear g3 g4 hjm hj
                    go_wp2_with (first
                      | (refine wpl_slice_h rfl 22 34 (.tmp 79) (.tmp 80) rfl Ax mx cx j 9 rfl (by rfl) Hjm.out Hc3.out (by kernel_rfl) (by kernel_rfl) infoFo ?_)
                      | (at_builtin; refine wpl_app _ rfl foelems (.tmp 78) (.tmp 81) rfl wa.heap.size (.slice (some ⟨wa.heap.size, 0, none⟩) 0 0) 0 [] rfl (World.ownsRow_made wa #[] 0 (Nat.le_refl _) (Nat.zero_le _) rfl) wa.heap.size Ax j cx (rowO (O.take j)) rfl (by rw [rowO_len, Htl.out]) (lies_take (HLo.out.below HA1.out) j) (fun u hu => by obtain ⟨x, _, hx⟩ := List.mem_flatMap.1 hu; exact fo_one x u hx) (Nat.le_trans (Nat.le_of_eq (Nat.zero_add _)) (Nat.le_trans Hb1.out.1 (by decide))) (fo_bytes (Nat.le_trans (Nat.le_of_eq (Nat.zero_add _)) Hb1.out.1)) HA1.out.size ?_; intro A4 c4 wb hown hg hat; have Ho4 := hide (show wb.ownsRow wa.heap.size 34 9 (.slice A4 j c4) j (rowO (O.take j)) by simpa using hown); have Hg4 := hide hg; have Hb4 := hide (HA1.out.grown hg HA1.out.size (fun x e => by injection e with e; exact Nat.le_of_eq e)); have HXb := hide (HX2.out.below Hb4.out HX2.out.lt); have Hcb := hide (World.news_of_block HXb.out); unfold Fo.cells at Hcb; dsimp only at Hcb; have HA5 := hide ((Below.refl wb.heap.size wb).alloc (Nat.le_refl _) (.cells #[.int .i64 fx, .int .i64 fy, .int .i64 kd, .int .i64 ix, .int .i64 ct, .int .u64 bt, .int .u64 op, .int .i64 lp, .int .i64 ln] 34)); have Hsz5 := hide (Nat.le_trans Hb4.out.size HA5.out.size); clear hown hg hat)
                      | (with_reducible refine wpl_load_addr rfl 34 (.tmp 9) rfl ⟨q9, 0, none⟩ _ Hcb.out rfl _ Try.underlying34 rfl 9 infoFo rfl ?_)
                      | (at_builtin; refine wpl_app _ rfl foelems (.tmp 83) (.tmp 85) rfl wa.heap.size (.slice A4 j c4) j (rowO (O.take j)) rfl (own_keepT Ho4.out HA5.out) (wb.heap.size + 1) (some ⟨wb.heap.size, 0, none⟩) 1 1 [.int .i64 fx, .int .i64 fy, .int .i64 kd, .int .i64 ix, .int .i64 ct, .int .u64 bt, .int .u64 op, .int .i64 lp, .int .i64 ln] rfl (by rfl) (Lies.new wb #[.int .i64 fx, .int .i64 fy, .int .i64 kd, .int .i64 ix, .int .i64 ct, .int .u64 bt, .int .u64 op, .int .i64 lp, .int .i64 ln] 34 (0, 0) _ (Nat.lt_succ_self _)) (by simp [Value.oneCell']) (Nat.le_trans Hb1.out.2.1 (by decide)) (fo_bytes2 Hb1.out.2.1) Hsz5.out ?_; intro A5 c5 wc hown hg hat; have Ho5 := hide hown; have Hg5 := hide hg; have Hlc := hide (HLo.out.below ((Hb4.out.trans (HA5.out.mono Hb4.out.size)).grown hg Hsz5.out (fun x e => (own_lowS Ho4.out x e).1))); have Hszc := hide (Nat.le_trans Hsz5.out hg.size); clear hown hg hat)
                      | (refine wpl_slice_l rfl 22 34 (.tmp 88) (.tmp 89) rfl Ax mx cx j 9 rfl (by rfl) Hjm.out Hc3.out (by kernel_rfl) (by kernel_rfl) infoFo ?_; intro A6 hl6; have Hl6 := hide (hl6 _ _ _ Hlc.out (by rw [rowO_len, Hm.out])); rw [show (rowO O).drop (j * 9) = rowO (O.drop j) from rowO_drop O j Hj.out] at Hl6; clear hl6)
                      | (at_builtin; refine wpl_app _ rfl foelems (.tmp 87) (.tmp 90) rfl wa.heap.size (.slice A5 (j + 1) c5) (j + 1) (rowO (O.take j) ++ [.int .i64 fx, .int .i64 fy, .int .i64 kd, .int .i64 ix, .int .i64 ct, .int .u64 bt, .int .u64 op, .int .i64 lp, .int .i64 ln]) rfl Ho5.out wa.heap.size A6 (mx - j) (cx - j) (rowO (O.drop j)) rfl (by rw [rowO_len, List.length_drop, Hm.out]) Hl6.out (fun u hu => by obtain ⟨x, _, hx⟩ := List.mem_flatMap.1 hu; exact fo_one x u hx) (Nat.le_trans Hb1.out.2.2 (by decide)) (fo_bytes2 Hb1.out.2.2) Hszc.out ?_; intro A7 c7 wd hown hg hat; have Ho7 : Hid (wd.ownsRow wa.heap.size 34 9 (.slice A7 (O.length + 1) c7) (O.length + 1) (rowO (O.take j) ++ [.int .i64 fx, .int .i64 fy, .int .i64 kd, .int .i64 ix, .int .i64 ct, .int .u64 bt, .int .u64 op, .int .i64 lp, .int .i64 ln] ++ rowO (O.drop j))) := hide (by rw [← Hsum.out]; exact hown); have Hg7 := hide hg; have HN := hide (HO2.out.more Hpf.out Hj.out HA1.out Hg4.out HA5.out (fun g e => (own_lowS Ho4.out g e).1) Hg5.out (fun g e => (own_lowS Ho5.out g e).1) Hg7.out Ho7.out); clear hown hg hat))
                    go_roundw
                    case rel => exact ⟨k + 1, Hlt.out, congrArg (Value.int .i64) E7.out, O.take j ++ [⟨fx, fy, kd, ix, ct, bt, op, lp, ln⟩] ++ O.drop j, by rw [Hsum.out]; exact HN⟩
                    case measure => first | exact measT Hlt.out | exact measT2 E7.out Hlt.out
      · have g1 : (lp == lpn) = false := beq_eq_false_iff_ne.2 hlp
        have g2 : (lp != lpn) = true := bne_iff_ne.2 hlp
        have HN := hide HA4.out.up
        clear hlp
        go_wp2
        go_roundw
        case rel => exact ⟨k + 1, Hlt.out, congrArg (Value.int .i64) E7.out, O, HN⟩
        case measure => first | exact measT Hlt.out | exact measT2 E7.out Hlt.out
    · obtain rfl : k = n := by omega
      obtain ⟨A3, c3, hv3, _, _⟩ := own_form HC.out.own
      subst hv3
      have HE := hide (And.intro (Lies.of_own HC.out.own) (And.intro (fun e he => (Hp.out e).1 (HC.out.mem e he)) (And.intro HC.out.len HC.out.below)))
      clear HC
      go_wp2
      go_ret
      exact ⟨A3, c3, O, rfl, HE.out⟩
end Go.Proofs.Ytjdaoenapmjoeaa
