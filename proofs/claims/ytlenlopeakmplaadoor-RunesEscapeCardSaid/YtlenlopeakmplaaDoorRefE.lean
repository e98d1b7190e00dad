/-
  THE REFERENCE's Texts AND Escape, walked: two rows of texts that are the same; a text escaped.
-/
import Derived.Test.YtlenlopeakmplaaDoorRefQ
namespace Go.Proofs.YtlenlopeakmplaaDoor
open Go.RowKit

set_option maxRecDepth 100000 in
set_option maxHeartbeats 1000000 in
theorem texts_same (A1 A2 : Option Addr) (n c1 c2 B : Nat) (ls : List (List UInt8)) (w : World) (h1 : Lies w B A1 (strs ls)) (h2 : Lies w B A2 (strs ls)) (hn : n = ls.length) (hbig : n ≤ 1000000) :
    Calls Tryd.prog 14 #[.slice A1 n c1, .slice A2 n c2] w fun e w' => e = .returned (.bool true) ∧ Below w.heap.size w w' := by
  have Hn := hide hn
  have H1 := hide h1
  have H2 := hide h2
  clear hn h1 h2
  go_enter Tryd.func14, Tryd.ntmps14
  go_wp2
  go_loopw [5] (fun i wr => ∃ j : Nat, j ≤ n ∧ i = .int .i64 (j : Int) ∧ Below w.heap.size w wr ∧ Hid (Lies wr B A1 (strs ls) ∧ Lies wr B A2 (strs ls))) (fun i _ => n - (intOf i).toNat)
  case atStart => exact ⟨0, Nat.zero_le _, rfl, Below.refl _ _, hide ⟨H1.out, H2.out⟩⟩
  case round =>
    obtain ⟨j, hj, rfl, hb, Hw⟩ := hrel
    by_cases hlt : j < n
    · have h1 : (j : Int) < (n : Int) := by omega
      obtain ⟨a1, rfl, _, hc1⟩ := Hw.out.1.at_ (k := j) (by rw [strs_len]; have := Hn.out; omega)
      obtain ⟨a2, rfl, _, hc2⟩ := Hw.out.2.at_ (k := j) (by rw [strs_len]; have := Hn.out; omega)
      rw [strs_at _ _ (by have := Hn.out; omega)] at hc1 hc2
      obtain ⟨x, hx⟩ : ∃ x, x = st (ls[j]'(by have := Hn.out; omega)) := ⟨_, rfl⟩
      rw [← hx] at hc1 hc2
      clear hx
      go_wp2
      go_quiet (fail)
      go_wp2
      refine ⟨⟨j + 1, by omega, by go_num, bel_drewN hb _, hide ⟨Hw.out.1.drewN _, Hw.out.2.drewN _⟩⟩, by simp [intOf]; omega⟩
    · obtain rfl : j = n := by omega
      go_wp2
      go_ret
      exact ⟨rfl, hb⟩

set_option maxRecDepth 100000 in
set_option maxHeartbeats 2000000 in
theorem ref_escape (s : ByteArray) (w : World) (hs : s.size ≤ 10000) : Calls Tryd.prog 20 #[.string s] w fun e w' => e = .returned (.string (st (esc s.data.toList))) ∧ Below w.heap.size w w' := by
  have Hlen := hide (show s.data.toList.length = s.size by rw [Array.length_toList]; rfl)
  have Hparts := hide (ref_parts s w (by omega))
  obtain ⟨l, hl⟩ : ∃ l, l = s.data.toList := ⟨_, rfl⟩
  rw [← hl] at Hlen Hparts ⊢
  clear hl
  obtain ⟨R, hR⟩ : ∃ R, R = runes l := ⟨_, rfl⟩
  obtain ⟨E, hE⟩ : ∃ E, E = st (esc l) := ⟨_, rfl⟩
  have HE := hide (show esc l = R.flatMap escP by rw [hR]; rfl)
  have HEs := hide (show (R.flatMap escP).length ≤ 90000 by rw [← HE.out]; have := esc_le l; have := Hlen.out; omega)
  have HRl := hide (show R.length ≤ 10000 by rw [hR]; have := runes_length l; have := Hlen.out; omega)
  have HRp := hide (show ∀ p ∈ R, p ≠ [] ∧ p.length ≤ 4 by
    rw [hR]
    refine rune_ind (P := fun l => ∀ p ∈ runes l, p ≠ [] ∧ p.length ≤ 4) (by simp [runes_nil]) (fun l hl ih => ?_) l
    intro p hp
    rw [runes_cons hl, List.mem_cons] at hp
    rcases hp with rfl | hp
    · have h1 := wd_pos l
      have h2 := wd_len hl
      have h3 := wd_le l
      have h4 : (l.take (wd l)).length = wd l := by rw [List.length_take]; omega
      exact ⟨fun h => by rw [h] at h4; simp at h4; omega, by omega⟩
    · exact ih p hp)
  rw [← hE]
  have HE2 := hide hE
  have HR := hide hR
  rw [← hR] at Hparts
  clear hR hE
  go_enter Tryd.func20, Tryd.ntmps20
  go_wp2_with fail
  have hp := Hparts.out
  (with_reducible refine hp.mono ?_)
  rintro e w1 ⟨A, c, rfl, ho, hb⟩
  have Hl := hide (Lies.of_own ho)
  have Hb := hide hb
  clear ho hp hb
  obtain ⟨n, hn⟩ : ∃ n, n = R.length := ⟨_, rfl⟩
  rw [← hn] at HRl ⊢
  have Hn := hide hn
  have hn4 := HRl.out
  clear hn
  go_wp2
  go_loopw [3, 5] (fun o i wr => ∃ (j : Nat) (P : ByteArray), j ≤ n ∧ i = .int .i64 (j : Int) ∧ o = .string P ∧ Below w1.heap.size w1 wr ∧ Hid (Lies wr w1.heap.size A (strs R) ∧ P = st ((R.take j).flatMap escP))) (fun _ i _ => n - (intOf i).toNat)
  case atStart => exact ⟨0, _, Nat.zero_le _, rfl, rfl, Below.refl _ _, hide ⟨Hl.out, rfl⟩⟩
  case round =>
    obtain ⟨j, P, hj, rfl, rfl, hb, Hw⟩ := hrel
    by_cases hlt : j < n
    · have h1 : (j : Int) < (n : Int) := by omega
      have hjl : j < R.length := by have := Hn.out; omega
      obtain ⟨a, rfl, ha, hc⟩ := Hw.out.1.at_ (k := j) (by rw [strs_len]; exact hjl)
      have hadd : (a.add j).block < wr.heap.size := by
        have e : (a.add j).block = a.block := by unfold Addr.add; split <;> rfl
        rw [e]; exact Nat.lt_of_lt_of_le ha hb.size
      rw [strs_at _ _ hjl] at hc
      obtain ⟨p, hp⟩ : ∃ p, p = R[j]'hjl := ⟨_, rfl⟩
      rw [← hp] at hc
      have hpm := HRp.out p (by rw [hp]; exact List.getElem_mem _)
      have Hnext := hide (show (R.take (j + 1)).flatMap escP = (R.take j).flatMap escP ++ escP p by
        rw [List.take_add_one, List.getElem?_eq_getElem hjl, ← hp]; simp)
      have Hle := hide (show ((R.take (j + 1)).flatMap escP).length ≤ 90000 by
        have h3 := HEs.out
        have h2 : R.flatMap escP = (R.take (j + 1)).flatMap escP ++ (R.drop (j + 1)).flatMap escP := by rw [← List.flatMap_append, List.take_append_drop]
        rw [h2, List.length_append] at h3; omega)
      clear hp
      have hv := ref_value (st p) wr (by rw [st_size]; have := List.length_pos_iff.2 hpm.1; omega) (by rw [st_size]; omega)
      rw [st_list] at hv
      have hvle := val_le p
      have hp0 : (st p).size = p.length := st_size p
      have hx0 := s_bt (st p) 0
      rw [st_list] at hx0
      obtain ⟨S, hS⟩ : ∃ S, S = st p := ⟨_, rfl⟩
      rw [← hS] at hc hv hp0 hx0
      have HS := hide hS
      clear hS
      have hPs : P.size ≤ 90000 := by rw [Hw.out.2, st_size]; have := Hle.out; rw [Hnext.out, List.length_append] at this; omega
      have h2b := two_le (n := bt p 0) (by have := bt_lt p 0; omega)
      have h2v := two_le (n := (val p).toNat) (by omega)
      have Hneg := hide (show val p < 0 → escP p = [92, 120] ++ (two (bt p 0) ++ [46]) from fun h => by unfold escP; rw [if_pos h]; rfl)
      have Hpl := hide (show 32 < val p ∧ val p < 127 ∧ val p ≠ 92 → escP p = p from fun h => by unfold escP; rw [if_neg (by omega), if_pos h])
      have Hno := hide (show ¬ val p < 0 → ¬ (32 < val p ∧ val p < 127 ∧ val p ≠ 92) → escP p = [92] ++ (two (val p).toNat ++ [46]) from fun h h' => by unfold escP; rw [if_neg h, if_neg h']; rfl)
      obtain ⟨v, hvv⟩ : ∃ v, v = val p := ⟨_, rfl⟩
      rw [← hvv] at hv hvle h2v Hneg Hpl Hno
      clear hvv
      have ht1 := fun w' => ref_two (bt p 0) w' (by have := bt_lt p 0; omega)
      by_cases hneg : v < 0
      · have Hne := hide (Hneg.out hneg)
        obtain ⟨T, hT⟩ : ∃ T, T = st (two (bt p 0)) := ⟨_, rfl⟩
        have hTs : T.size ≤ 6 := by rw [hT, st_size]; exact h2b
        rw [← hT] at ht1
        have HT := hide hT
        clear hT h2b h2v
        have q0 : 0 < S.size := by rw [hp0]; exact List.length_pos_iff.2 hpm.1
        have hx0' := hx0 q0
        obtain ⟨b, hb0⟩ : ∃ b, b = bt p 0 := ⟨_, rfl⟩
        rw [← hb0] at ht1 hx0'
        have hw0 := w64b b (by rw [hb0]; exact bt_lt _ _)
        clear hx0 hb0
        have hcat1 : ¬ 9223372036854775807 < P.size + 2 := by omega
        have hcat2 : ¬ 9223372036854775807 < (P ++ ({ data := #[92, 120] } : ByteArray)).size + T.size := by rw [ByteArray.size_append]; show ¬ 9223372036854775807 < P.size + 2 + T.size; omega
        have hcat3 : ¬ 9223372036854775807 < (P ++ ({ data := #[92, 120] } : ByteArray) ++ T).size + 1 := by rw [ByteArray.size_append, ByteArray.size_append]; show ¬ 9223372036854775807 < P.size + 2 + T.size + 1; omega
        go_wp2_with fail
        (with_reducible refine hv.mono ?_)
        rintro e w2 ⟨rfl, hb2⟩
        have hc2 := (hb2.cell hadd).trans hc
        have Hb2 := hide hb2
        clear hv hb2 hc
        go_wp2_with fail
        (with_reducible refine (ht1 w2).mono ?_)
        rintro e w' ⟨rfl, rfl⟩
        go_wp2
        have hbb := hb.trans (Hb2.out.mono hb.size)
        refine ⟨⟨j + 1, _, by omega, by go_num, rfl, hbb, hide ⟨Hw.out.1.below (Hb2.out.mono hb.size), ?_⟩⟩, by simp [intOf]; omega⟩
        rw [Hnext.out, Hne.out, Hw.out.2, HT.out]
        show st _ ++ st [92, 120] ++ st _ ++ st [46] = _
        rw [st_app, st_app, st_app]; simp
      · by_cases hpl : 32 < v ∧ v < 127 ∧ v ≠ 92
        · have Hpp := hide (Hpl.out hpl)
          obtain ⟨k1, k2, k3⟩ := hpl
          have hcat : ¬ 9223372036854775807 < P.size + S.size := by have := hpm.2; omega
          go_wp2_with fail
          (with_reducible refine hv.mono ?_)
          rintro e w2 ⟨rfl, hb2⟩
          have hc2 := (hb2.cell hadd).trans hc
          have Hb2 := hide hb2
          clear hv hb2 hc
          go_wp2
          have hbb := hb.trans (Hb2.out.mono hb.size)
          refine ⟨⟨j + 1, _, by omega, by go_num, rfl, hbb, hide ⟨Hw.out.1.below (Hb2.out.mono hb.size), ?_⟩⟩, by simp [intOf]; omega⟩
          rw [Hnext.out, Hpp.out, Hw.out.2, HS.out, st_app]
        · have Hnn := hide (Hno.out hneg hpl)
          have ht2 := fun w' => ref_two v.toNat w' (by omega)
          rw [show ((v.toNat : Nat) : Int) = v by omega] at ht2
          obtain ⟨T, hT⟩ : ∃ T, T = st (two v.toNat) := ⟨_, rfl⟩
          have hTs : T.size ≤ 6 := by rw [hT, st_size]; exact h2v
          rw [← hT] at ht2
          have HT := hide hT
          clear hT h2b h2v ht1
          have hcat1 : ¬ 9223372036854775807 < P.size + 1 := by omega
          have hcat2 : ¬ 9223372036854775807 < (P ++ ({ data := #[92] } : ByteArray)).size + T.size := by rw [ByteArray.size_append]; show ¬ 9223372036854775807 < P.size + 1 + T.size; omega
          have hcat3 : ¬ 9223372036854775807 < (P ++ ({ data := #[92] } : ByteArray) ++ T).size + 1 := by rw [ByteArray.size_append, ByteArray.size_append]; show ¬ 9223372036854775807 < P.size + 1 + T.size + 1; omega
          have hcase : v ≤ 32 ∨ 127 ≤ v ∨ v = 92 := by omega
          clear hpl
          have Hnneg := hide hneg
          rcases hcase with k1 | k1 | k1
          · have k2 : ¬ (32 : Int) < v := by omega
            clear hneg
            have k0 : ¬ v < 0 := Hnneg.out
            go_wp2_with fail
            (with_reducible refine hv.mono ?_)
            rintro e w2 ⟨rfl, hb2⟩
            have Hb2 := hide hb2
            clear hv hb2 hc
            go_wp2_with fail
            (with_reducible refine (ht2 w2).mono ?_)
            rintro e w' ⟨rfl, rfl⟩
            go_wp2
            have hbb := hb.trans (Hb2.out.mono hb.size)
            refine ⟨⟨j + 1, _, by omega, by go_num, rfl, hbb, hide ⟨Hw.out.1.below (Hb2.out.mono hb.size), ?_⟩⟩, by simp [intOf]; omega⟩
            rw [Hnext.out, Hnn.out, Hw.out.2, HT.out]
            show st _ ++ st [92] ++ st _ ++ st [46] = _
            rw [st_app, st_app, st_app]; simp
          · have k2 : ¬ v < 127 := by omega
            have k3 : (32 : Int) < v := by omega
            go_wp2_with fail
            (with_reducible refine hv.mono ?_)
            rintro e w2 ⟨rfl, hb2⟩
            have Hb2 := hide hb2
            clear hv hb2 hc
            go_wp2_with fail
            (with_reducible refine (ht2 w2).mono ?_)
            rintro e w' ⟨rfl, rfl⟩
            go_wp2
            have hbb := hb.trans (Hb2.out.mono hb.size)
            refine ⟨⟨j + 1, _, by omega, by go_num, rfl, hbb, hide ⟨Hw.out.1.below (Hb2.out.mono hb.size), ?_⟩⟩, by simp [intOf]; omega⟩
            rw [Hnext.out, Hnn.out, Hw.out.2, HT.out]
            show st _ ++ st [92] ++ st _ ++ st [46] = _
            rw [st_app, st_app, st_app]; simp
          · subst k1
            go_wp2_with fail
            (with_reducible refine hv.mono ?_)
            rintro e w2 ⟨rfl, hb2⟩
            have Hb2 := hide hb2
            clear hv hb2 hc
            go_wp2_with fail
            (with_reducible refine (ht2 w2).mono ?_)
            rintro e w' ⟨rfl, rfl⟩
            go_wp2
            have hbb := hb.trans (Hb2.out.mono hb.size)
            refine ⟨⟨j + 1, _, by omega, by go_num, rfl, hbb, hide ⟨Hw.out.1.below (Hb2.out.mono hb.size), ?_⟩⟩, by simp [intOf]; omega⟩
            rw [Hnext.out, Hnn.out, Hw.out.2, HT.out]
            show st _ ++ st [92] ++ st _ ++ st [46] = _
            rw [st_app, st_app, st_app]; simp
    · obtain rfl : j = n := by omega
      have h3 := Hw.out.2
      rw [List.take_of_length_le (by have := Hn.out; omega), ← HE.out, ← HE2.out] at h3
      subst h3
      go_wp2
      go_ret
      exact ⟨rfl, Hb.out.trans (hb.mono Hb.out.size)⟩

end Go.Proofs.YtlenlopeakmplaaDoor
