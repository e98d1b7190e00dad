/-
  RunesEscape, walked.
-/
import Derived.Test.YtlenlopeakmplaaDoorAwaked
namespace Go.Proofs.YtlenlopeakmplaaDoor
open Go.RowKit

set_option maxHeartbeats 4000000 in
set_option maxRecDepth 1000000 in
theorem runesEscape_any (s : ByteArray) (w : World) (hR : Ready w) : Calls Tryd.prog 5 #[.string s] w fun e w' => e = .returned (.bool true) ∧ Below w.heap.size w w' := by
  have hRs := hR.size
  have haw : ∀ W, Below w.heap.size w W → Calls Tryd.prog 7 #[] W fun e W' => e = .returned (.bool true) ∧ Below w.heap.size w W' := fun W hW =>
    (awake_run W (hR.below hW hRs)).mono fun e W' ⟨he, hb⟩ => ⟨he, hW.trans (hb.mono hW.size)⟩
  by_cases hlen : s.size ≤ 300
  · have h1 : ¬ (300 : Int) < (s.size : Int) := by omega
    have hdl : s.data.toList.length = s.size := by rw [Array.length_toList]; rfl
    have hEs : ∀ W, Below w.heap.size w W → Calls Tryd.prog 18 #[.string s] W fun e W' => e = .returned (.string (st (esc s.data.toList))) ∧ Below w.heap.size w W' := fun W hW =>
      (escape_run s W (hR.below hW hRs) (by omega)).mono fun e W' ⟨he, hb⟩ => ⟨he, hW.trans (hb.mono hW.size)⟩
    have hBt : ∀ W, Below w.heap.size w W → Calls Tryd.prog 19 #[.string (st (esc s.data.toList))] W fun e W' => e = .returned (.tuple #[.string s, .int .i64 0]) ∧ Below w.heap.size w W' := fun W hW =>
      (back_run (st (esc s.data.toList)) W (hR.below hW hRs) (by rw [st_size]; have := esc_le s.data.toList; omega)).mono fun e W' ⟨he, hb⟩ => ⟨by
        rw [st_list, back_esc] at he
        rw [he]
        show Ending.returned (Value.tuple #[.string (st s.data.toList), .int .i64 0]) = _
        rw [← st_of], hW.trans (hb.mono hW.size)⟩
    have hRe : ∀ W, Below w.heap.size w W → Calls Tryd.prog 20 #[.string s] W fun e W' => e = .returned (.string (st (esc s.data.toList))) ∧ Below w.heap.size w W' := fun W hW =>
      (ref_escape s W (by omega)).mono fun e W' ⟨he, hb⟩ => ⟨he, hW.trans (hb.mono hW.size)⟩
    obtain ⟨X, hX⟩ : ∃ X, X = st (esc s.data.toList) := ⟨_, rfl⟩
    rw [← hX] at hEs hBt hRe
    clear hX
    have hXX : (X.toList == X.toList) = true := beq_self_eq_true _
    have hss : (s.toList == s.toList) = true := beq_self_eq_true _
    cases ho : backO s.data.toList with
    | some t =>
      have hte := back_some ho
      have htl : t.length ≤ 1200 := by
        have h := ho
        unfold backO at h
        split at h
        · rename_i t' hu
          split at h
          · injection h with h; subst h
            have := unesc_len _ _ _ hu
            omega
          · cases h
        · cases h
      have hBs : ∀ W, Below w.heap.size w W → Calls Tryd.prog 19 #[.string s] W fun e W' => e = .returned (.tuple #[.string (st t), .int .i64 0]) ∧ Below w.heap.size w W' := fun W hW =>
        (back_run s W (hR.below hW hRs) (by omega)).mono fun e W' ⟨he, hb⟩ => ⟨by rw [ho] at he; exact he, hW.trans (hb.mono hW.size)⟩
      have hRt : ∀ W, Below w.heap.size w W → Calls Tryd.prog 20 #[.string (st t)] W fun e W' => e = .returned (.string s) ∧ Below w.heap.size w W' := fun W hW =>
        (ref_escape (st t) W (by rw [st_size]; omega)).mono fun e W' ⟨he, hb⟩ => ⟨by rw [he, st_list, hte, ← st_of], hW.trans (hb.mono hW.size)⟩
      generalize st t = T at hBs hRt
      clear hdl hlen ho hte htl hR
      go_enter Tryd.func5, Tryd.ntmps5
      go_wp2_with (first
        | (go_at_call 18; (with_reducible refine (hEs w (Below.refl _ _)).mono ?_); rintro e w1 ⟨rfl, hb⟩; have B1 := hide hb; clear hb hEs)
        | (go_at_call 19; (with_reducible refine (hBt w1 B1.out).mono ?_); rintro e w2 ⟨rfl, hb⟩; have B2 := hide hb; clear hb hBt)
        | (go_at_call 20; (with_reducible refine (hRe w2 B2.out).mono ?_); rintro e w3 ⟨rfl, hb⟩; have B3 := hide hb; clear hb hRe)
        | (go_at_call 19; (with_reducible refine (hBs w3 B3.out).mono ?_); rintro e w4 ⟨rfl, hb⟩; have B4 := hide hb; clear hb hBs)
        | (go_at_call 7; (with_reducible refine (haw w4 B4.out).mono ?_); rintro e w5 ⟨rfl, hb⟩; have B5 := hide hb; clear hb haw)
        | (go_at_call 20; (with_reducible refine (hRt w5 B5.out).mono ?_); rintro e w6 ⟨rfl, hb⟩; have B6 := hide hb; clear hb hRt))
      go_ret
      exact ⟨rfl, B6.out⟩
    | none =>
      have hBs : ∀ W, Below w.heap.size w W → Calls Tryd.prog 19 #[.string s] W fun e W' => e = .returned (.tuple #[.string ⟨#[]⟩, .int .i64 6]) ∧ Below w.heap.size w W' := fun W hW =>
        (back_run s W (hR.below hW hRs) (by omega)).mono fun e W' ⟨he, hb⟩ => ⟨by rw [ho] at he; exact he, hW.trans (hb.mono hW.size)⟩
      clear hdl hlen ho hR
      go_enter Tryd.func5, Tryd.ntmps5
      go_wp2_with (first
        | (go_at_call 18; (with_reducible refine (hEs w (Below.refl _ _)).mono ?_); rintro e w1 ⟨rfl, hb⟩; have B1 := hide hb; clear hb hEs)
        | (go_at_call 19; (with_reducible refine (hBt w1 B1.out).mono ?_); rintro e w2 ⟨rfl, hb⟩; have B2 := hide hb; clear hb hBt)
        | (go_at_call 20; (with_reducible refine (hRe w2 B2.out).mono ?_); rintro e w3 ⟨rfl, hb⟩; have B3 := hide hb; clear hb hRe)
        | (go_at_call 19; (with_reducible refine (hBs w3 B3.out).mono ?_); rintro e w4 ⟨rfl, hb⟩; have B4 := hide hb; clear hb hBs)
        | (go_at_call 7; (with_reducible refine (haw w4 B4.out).mono ?_); rintro e w5 ⟨rfl, hb⟩; have B5 := hide hb; clear hb haw))
      go_ret
      exact ⟨rfl, B5.out⟩
  · have h1 : (300 : Int) < (s.size : Int) := by omega
    clear hR
    go_enter Tryd.func5, Tryd.ntmps5
    go_wp2_with (go_at_call 7; (with_reducible refine (haw w (Below.refl _ _)).mono ?_); rintro e w1 ⟨rfl, hb⟩; have B1 := hide hb; clear hb haw)
    go_ret
    exact ⟨rfl, B1.out⟩

end Go.Proofs.YtlenlopeakmplaaDoor
