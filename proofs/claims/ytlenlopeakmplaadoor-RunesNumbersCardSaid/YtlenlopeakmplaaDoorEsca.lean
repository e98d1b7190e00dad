/-
  CONTRACTS of package runes: Escape.
-/
import Derived.Test.YtlenlopeakmplaaDoorCut1
namespace Go.Proofs.YtlenlopeakmplaaDoor
open Go.RowKit

theorem builder_below {T e : TypeId} {B b : Nat} {bs : List Value} {W W' : World} (h : Lib.IsBuilderF T e B b bs W) (hb : Below W.heap.size W W') : Lib.IsBuilderF T e B b bs W' := by
  have one : ∀ p, Lib.BuilderAtF T e B b p bs W → Lib.BuilderAtF T e B b p bs W' := by
    intro p h
    have hlt := h.lt
    obtain ⟨hB, v, hv, hown, hne⟩ := h
    exact ⟨hB, v, (hb.block b hlt).trans hv, hown.kept (row := none) ⟨hb.os, hb.tape, hb.output, hb.size, fun k hk _ => hb.block k hk⟩ (Classical.em _), hne⟩
  exact h.elim (fun x => .inl (one _ x)) fun x => .inr (one _ x)
theorem cells_st (l : List UInt8) : Lib.strCells (st l) = Lib.byteCells l := by unfold Lib.strCells Lib.byteCells; rw [st_list]
theorem cells_app (a b : List UInt8) : Lib.byteCells (a ++ b) = Lib.byteCells a ++ Lib.byteCells b := by simp [Lib.byteCells]
theorem cells_len (a : List UInt8) : (Lib.byteCells a).length = a.length := by simp [Lib.byteCells]

theorem val_pos {l : List UInt8} (hz : sz l ≠ 0) : val l = (va l : Int) := by unfold val; rw [if_neg hz]
theorem esc_stray {l : List UInt8} (hl : l ≠ []) (hz : sz l = 0) : esc l = (92 :: 120 :: (two (bt l 0) ++ [46])) ++ esc (l.drop (wd l)) := by
  have hv : val l = -1 := by unfold val; rw [if_pos hz]
  have e0 : bt (l.take (wd l)) 0 = bt l 0 := bt_take _ _ _ (wd_pos l)
  rw [esc_cons hl]
  unfold escP
  rw [val_take hl, hv, if_pos (by decide), e0]
theorem esc_num {l : List UInt8} (hl : l ≠ []) (hz : sz l ≠ 0) (h : ¬ (33 ≤ va l ∧ va l ≤ 126 ∧ va l ≠ 92)) : esc l = (92 :: (two (va l) ++ [46])) ++ esc (l.drop (wd l)) := by
  rw [esc_cons hl]
  unfold escP
  rw [val_take hl, val_pos hz, if_neg (by omega), if_neg (by omega)]
  rfl
theorem esc_plain {l : List UInt8} (hl : l ≠ []) (hz : sz l ≠ 0) (h : 33 ≤ va l ∧ va l ≤ 126 ∧ va l ≠ 92) : esc l = Lib.encodeRune (va l : Int) ++ esc (l.drop (wd l)) := by
  rw [esc_cons hl]
  congr 1
  unfold escP
  rw [val_take hl, val_pos hz, if_neg (by omega), if_pos (by omega)]
  rcases piece_bytes hl with ⟨hw, hv, hb, ht⟩ | ⟨h', -⟩
  · unfold Lib.encodeRune
    rw [Lib.encodeRuneZ_one (by omega) (by omega), ht, hv]
    unfold bt
    simp
  · omega

set_option maxHeartbeats 4000000 in
set_option maxRecDepth 1000000 in
theorem escape_run (s : ByteArray) (w : World) (hR : Ready w) (hs : s.size ≤ 100000) :
    Calls Tryd.prog 18 #[.string s] w fun e w' => e = .returned (.string (st (esc s.data.toList))) ∧ Below w.heap.size w w' := by
  have hRs := hR.size
  have HLen := hide (show s.data.toList.length = s.size by rw [Array.length_toList]; rfl)
  have Hsb := hide (s_bt s)
  obtain ⟨E, hE⟩ : ∃ E, E = esc s.data.toList := ⟨_, rfl⟩
  have HEl := hide (show E.length ≤ 900000 by rw [hE]; have := esc_le s.data.toList; rw [HLen.out] at this; omega)
  rw [← hE]
  have HE := hide hE
  clear hE
  have HR := hide hR
  clear hR
  go_enter Tryd.func18, Tryd.ntmps18
  go_wp2
  go_loopw [] (fun wr => ∃ (pos : Nat) (acc : List UInt8), Lib.IsBuilderF 47 5 w.heap.size w.heap.size (Lib.byteCells acc) wr ∧ wr.heap[w.heap.size + 1]? = some (.stringIter s pos) ∧ Below w.heap.size w wr ∧ Hid (acc ++ esc (s.data.toList.drop pos) = E)) (fun wr => s.size - wr.iterPos (w.heap.size + 1))
  case atStart =>
    refine ⟨0, [], (Lib.IsBuilderF.of (Lib.fresh_isBuilder 47 5 w)).alloc _, ?_, ((Below.refl _ w).alloc (Nat.le_refl _) _).alloc (by simp) _, hide (by rw [HE.out, List.drop_zero]; rfl)⟩
    have := World.iter_heap (w.alloc (.cells #[.pointer none, .slice none 0 0] 47)) s 0
    simpa using this
  case round =>
    obtain ⟨pos, acc, hI, hit, hbw, HP⟩ := hrel
    have hsz : w.heap.size + 1 < wr.heap.size := (Array.getElem?_eq_some_iff.1 hit).1
    have hacc : acc.length ≤ 900000 := by
      have h := congrArg List.length HP.out
      rw [List.length_append] at h
      have := HEl.out
      omega
    by_cases hp : pos < s.size
    · have hnx := fun ty => nx wr (w.heap.size + 1) s pos ty hit hp
      obtain ⟨hne, hw1, hw2, -⟩ := step_facts s pos hp
      have hst := fun w' => stray_run s pos w' hp _ rfl
      have hvle := va_le (s.data.toList.drop pos)
      have hb256 := bt_lt (s.data.toList.drop pos) 0
      have Hix := hide (show (s[pos]'hp).toNat = bt (s.data.toList.drop pos) 0 by
        rw [Hsb.out pos hp]
        unfold bt
        rw [List.getD_eq_getElem?_getD, List.getD_eq_getElem?_getD, List.getElem?_drop, Nat.add_zero])
      have Hpl := hide (fun w' => plain_run (va (s.data.toList.drop pos) : Nat) w')
      have Hs0 := hide (fun h => esc_stray hne h)
      have Hs1 := hide (fun h h' => esc_plain hne h h')
      have Hs2 := hide (fun h h' => esc_num hne h h')
      have Hst0 := hide (stray_iff hne)
      rw [List.drop_drop] at Hs0 Hs1 Hs2
      obtain ⟨d, hd⟩ : ∃ d, d = wd (s.data.toList.drop pos) := ⟨_, rfl⟩
      obtain ⟨v, hv⟩ : ∃ v, v = va (s.data.toList.drop pos) := ⟨_, rfl⟩
      obtain ⟨z, hz⟩ : ∃ z, z = sz (s.data.toList.drop pos) := ⟨_, rfl⟩
      obtain ⟨b, hb⟩ : ∃ b, b = bt (s.data.toList.drop pos) 0 := ⟨_, rfl⟩
      rw [← hd] at hnx hw1 hw2 Hs0 Hs1 Hs2
      rw [← hv] at hnx hst hvle Hpl Hs1 Hs2 Hst0
      rw [← hz] at hst Hs0 Hs1 Hs2 Hst0
      rw [← hb] at hb256 Hix Hs0
      clear hd hv hz hb hne
      have hI2 := hI.iterAt hit (pos + d)
      have hit2 := Lib.iterAt_heap wr (w.heap.size + 1) s pos (pos + d) hit
      have hbw2 := Lib.below_iterAt hbw (k := w.heap.size + 1) (by omega) s (pos + d)
      have hsz2 : w.heap.size + 1 < (wr.iterAt (w.heap.size + 1) s (pos + d)).heap.size := by rw [Lib.iterAt_size]; omega
      generalize wr.iterAt (w.heap.size + 1) s (pos + d) = w2 at hnx hI2 hit2 hbw2 hsz2
      have hR2 := HR.out.below hbw2 hRs
      have hst2 := hst w2
      clear hst hI
      by_cases hz0 : z = 0
      · rw [decide_eq_true hz0] at hst2
        have hhex := hex_run b w2 (by omega) hR2.tz
        have htl := two_le (n := b) (by omega)
        have hix := Hix.out
        have Hnext := hide (Hs0.out hz0)
        obtain ⟨T, hT⟩ : ∃ T, T = st (two b) := ⟨_, rfl⟩
        have hTs : T.size ≤ 6 := by rw [hT, st_size]; exact htl
        rw [← hT] at hhex
        have HT := hide hT
        clear hT htl hz0 hR2
        have hcat1 : ¬ 9223372036854775807 < 2 + T.size := by omega
        have hcat2 : ¬ 9223372036854775807 < (({ data := #[92, 120] } : ByteArray) ++ T).size + 1 := by rw [ByteArray.size_append]; show ¬ 9223372036854775807 < 2 + T.size + 1; omega
        have hx : (({ data := #[92, 120] } : ByteArray) ++ T ++ ({ data := #[46] } : ByteArray)) = st (92 :: 120 :: (two b ++ [46])) := by
          rw [HT.out]
          show st [92, 120] ++ st _ ++ st [46] = _
          rw [st_app, st_app]; rfl
        have Hx := hide hx
        have hws := fun W h hB => Tryd.Builder_WriteString_k w.heap.size w.heap.size (Lib.byteCells acc) (({ data := #[92, 120] } : ByteArray) ++ T ++ ({ data := #[46] } : ByteArray)) W h (by rw [cells_len, ByteArray.size_append, ByteArray.size_append]; show acc.length + (2 + T.size + 1) ≤ _; omega) hB
        clear hx
        go_wp2_with (first | (go_at_call 25; (with_reducible refine hst2.mono ?_); rintro e w' ⟨rfl, rfl⟩) | (go_at_call 32; (with_reducible refine hhex.mono ?_); rintro e w3 ⟨rfl, hb3⟩; have hI3 := hide (builder_below hI2 hb3); have hit3 := hide ((hb3.block _ hsz2).trans hit2); have hbw3 := hide (hbw2.trans (hb3.mono (by omega))); have hsz3 := hb3.size; clear hb3) | (go_at_call 31; (with_reducible refine (hws w3 hI3.out (by omega)).mono ?_); rintro e w4 ⟨rfl, h4, b4, k4⟩; have H4 := hide (And.intro h4 (And.intro b4 (k4.iter hit3.out (by omega)))); clear h4 b4 k4))
        go_roundw
        case rel =>
          refine ⟨pos + d, acc ++ (92 :: 120 :: (two b ++ [46])), ?_, H4.out.2.2, hbw3.out.trans H4.out.2.1, hide ?_⟩
          · have h := H4.out.1
            rw [Hx.out, cells_st, ← cells_app] at h
            exact Or.inr h
          · have h := HP.out
            rw [Hnext.out] at h
            rw [← h]; simp
        case measure =>
          have h4 := H4.out.2.2
          simp only [World.iterPos, h4, hit]
          omega
      · rw [decide_eq_false hz0] at hst2
        obtain ⟨r, hr⟩ : ∃ r : Int, r = (v : Nat) := ⟨_, rfl⟩
        have hpl2 := Hpl.out w2
        rw [← hr] at hnx hst2 hpl2
        have Hr := hide hr
        by_cases hpl : 33 ≤ v ∧ v ≤ 126 ∧ v ≠ 92
        · have Hnext := hide (Hs1.out hz0 hpl)
          rw [decide_eq_true (by omega)] at hpl2
          rw [← hr] at Hnext
          have hr92 : ¬ r = 92 := by omega
          have hr1 : -2147483648 ≤ r := by omega
          have hr2 : r ≤ 2147483647 := by omega
          have hws := fun W h hB => Tryd.Builder_WriteRune_k w.heap.size w.heap.size (Lib.byteCells acc) r hr1 hr2 W h (by rw [cells_len]; omega) hB
          clear hpl hr hR2 hz0
          go_wp2_with (first | (go_at_call 25; (with_reducible refine hst2.mono ?_); rintro e w' ⟨rfl, rfl⟩) | (go_at_call 26; (with_reducible refine hpl2.mono ?_); rintro e w' ⟨rfl, rfl⟩) | (go_at_call 33; (with_reducible refine (hws _ hI2 (by omega)).mono ?_); rintro e w4 ⟨rfl, h4, b4, k4⟩; have H4 := hide (And.intro h4 (And.intro b4 (k4.iter hit2 (by omega)))); clear h4 b4 k4))
          go_roundw
          case rel =>
            refine ⟨pos + d, acc ++ Lib.encodeRune r, ?_, H4.out.2.2, hbw2.trans H4.out.2.1, hide ?_⟩
            · have h := H4.out.1
              rw [← Lib.byteCells_encodeRune, ← cells_app] at h
              exact Or.inr h
            · have h := HP.out
              rw [Hnext.out] at h
              rw [← h]; simp
          case measure =>
            have h4 := H4.out.2.2
            simp only [World.iterPos, h4, hit]
            omega
        · have Hnext := hide (Hs2.out hz0 hpl)
          have hhex := hex_run v w2 (by omega) hR2.tz
          have htl := two_le (n := v) (by omega)
          rw [← hr] at hhex
          obtain ⟨T, hT⟩ : ∃ T, T = st (two v) := ⟨_, rfl⟩
          have hTs : T.size ≤ 6 := by rw [hT, st_size]; exact htl
          rw [← hT] at hhex
          have HT := hide hT
          have hw64 : IntKind.u64.wrap r = r := IntWalk.u64_in _ (by omega)
          have hpcase : (decide (33 ≤ r ∧ r ≤ 126) = false) ∨ r = 92 := by
            by_cases h92 : r = 92
            · exact .inr h92
            · exact .inl (decide_eq_false (by omega))
          clear hT htl hz0 hR2 hpl hr
          have hcat1 : ¬ 9223372036854775807 < 1 + T.size := by omega
          have hcat2 : ¬ 9223372036854775807 < (({ data := #[92] } : ByteArray) ++ T).size + 1 := by rw [ByteArray.size_append]; show ¬ 9223372036854775807 < 1 + T.size + 1; omega
          have hx : (({ data := #[92] } : ByteArray) ++ T ++ ({ data := #[46] } : ByteArray)) = st (92 :: (two v ++ [46])) := by
            rw [HT.out]
            show st [92] ++ st _ ++ st [46] = _
            rw [st_app, st_app]; rfl
          have Hx := hide hx
          clear hx
          have hws := fun W h hB => Tryd.Builder_WriteString_k w.heap.size w.heap.size (Lib.byteCells acc) (({ data := #[92] } : ByteArray) ++ T ++ ({ data := #[46] } : ByteArray)) W h (by rw [cells_len, ByteArray.size_append, ByteArray.size_append]; show acc.length + (1 + T.size + 1) ≤ _; omega) hB
          have Hfin : ∀ w3 w4, Hid (Below w.heap.size w w3) → Hid (Lib.BuilderAtF 47 5 w.heap.size w.heap.size (.pointer (some ⟨w.heap.size, 0, none⟩)) (Lib.byteCells acc ++ Lib.strCells (({ data := #[92] } : ByteArray) ++ T ++ ({ data := #[46] } : ByteArray))) w4 ∧ Below w.heap.size w3 w4 ∧ w4.heap[w.heap.size + 1]? = some (.stringIter s (pos + d))) →
              ∃ (pos : Nat) (acc : List UInt8), Lib.IsBuilderF 47 5 w.heap.size w.heap.size (Lib.byteCells acc) w4 ∧ w4.heap[w.heap.size + 1]? = some (.stringIter s pos) ∧ Below w.heap.size w w4 ∧ Hid (acc ++ esc (s.data.toList.drop pos) = E) := by
            intro w3 w4 hbw3 H4
            refine ⟨pos + d, acc ++ (92 :: (two v ++ [46])), ?_, H4.out.2.2, hbw3.out.trans H4.out.2.1, hide ?_⟩
            · have h := H4.out.1
              rw [Hx.out, cells_st, ← cells_app] at h
              exact Or.inr h
            · have h := HP.out
              rw [Hnext.out] at h
              rw [← h]; simp
          have HF := hide Hfin
          clear Hfin
          rcases hpcase with hpc | hpc
          · rw [hpc] at hpl2
            clear hpc
            go_wp2_with (first | (go_at_call 25; (with_reducible refine hst2.mono ?_); rintro e w' ⟨rfl, rfl⟩) | (go_at_call 26; (with_reducible refine hpl2.mono ?_); rintro e w' ⟨rfl, rfl⟩) | (go_at_call 32; (with_reducible refine hhex.mono ?_); rintro e w3 ⟨rfl, hb3⟩; have hI3 := hide (builder_below hI2 hb3); have hit3 := hide ((hb3.block _ hsz2).trans hit2); have hbw3 := hide (hbw2.trans (hb3.mono (by omega))); have hsz3 := hb3.size; clear hb3) | (go_at_call 31; (with_reducible refine (hws w3 hI3.out (by omega)).mono ?_); rintro e w4 ⟨rfl, h4, b4, k4⟩; have H4 := hide (And.intro h4 (And.intro b4 (k4.iter hit3.out (by omega)))); clear h4 b4 k4))
            go_roundw
            case rel => exact HF.out w3 w4 hbw3 H4
            case measure =>
              have h4 := H4.out.2.2
              simp only [World.iterPos, h4, hit]
              omega
          · rw [hpc] at hpl2 hst2 hhex hnx
            rw [show decide ((33 : Int) ≤ 92 ∧ (92 : Int) ≤ 126) = true from rfl] at hpl2
            clear hw64
            subst hpc
            go_wp2_with (first | (go_at_call 25; (with_reducible refine hst2.mono ?_); rintro e w' ⟨rfl, rfl⟩) | (go_at_call 26; (with_reducible refine hpl2.mono ?_); rintro e w' ⟨rfl, rfl⟩) | (go_at_call 32; (with_reducible refine hhex.mono ?_); rintro e w3 ⟨rfl, hb3⟩; have hI3 := hide (builder_below hI2 hb3); have hit3 := hide ((hb3.block _ hsz2).trans hit2); have hbw3 := hide (hbw2.trans (hb3.mono (by omega))); have hsz3 := hb3.size; clear hb3) | (go_at_call 31; (with_reducible refine (hws w3 hI3.out (by omega)).mono ?_); rintro e w4 ⟨rfl, h4, b4, k4⟩; have H4 := hide (And.intro h4 (And.intro b4 (k4.iter hit3.out (by omega)))); clear h4 b4 k4))
            go_roundw
            case rel => exact HF.out w3 w4 hbw3 H4
            case measure =>
              have h4 := H4.out.2.2
              simp only [World.iterPos, h4, hit]
              omega
    · have hnx := fun ty => nx_end wr (w.heap.size + 1) s pos ty hit hp
      have hfin : acc = E := by
        have h := HP.out
        rw [List.drop_eq_nil_of_le (by rw [HLen.out]; exact Nat.not_lt.1 hp), esc_nil, List.append_nil] at h
        exact h
      subst hfin
      go_wp2_with (go_at_call 34; refine (Tryd.Builder_String_any_k w.heap.size w.heap.size acc _ hI (by omega)).mono ?_; rintro e W1 ⟨rfl, _, b1, _⟩)
      go_ret
      exact ⟨rfl, hbw.trans b1⟩

end Go.Proofs.YtlenlopeakmplaaDoor
