/-
  RunesNumbers, walked.
-/
import Derived.Test.YtlenlopeakmplaaDoorAwaked
namespace Go.Proofs.YtlenlopeakmplaaDoor
open Go.RowKit

set_option maxHeartbeats 4000000 in
set_option maxRecDepth 1000000 in
theorem runesNumbers_any (n : Int) (s : ByteArray) (w : World) (hR : Ready w) (h0 : -9223372036854775808 ≤ n) (h1 : n ≤ 9223372036854775807) :
    Calls Tryd.prog 6 #[.int .i64 n, .string s] w fun e w' => e = .returned (.bool true) ∧ Below w.heap.size w w' := by
  have hRs := hR.size
  have haw : ∀ W, Below w.heap.size w W → Calls Tryd.prog 7 #[] W fun e W' => e = .returned (.bool true) ∧ Below w.heap.size w W' := fun W hW =>
    (awake_run W (hR.below hW hRs)).mono fun e W' ⟨he, hb⟩ => ⟨he, hW.trans (hb.mono hW.size)⟩
  by_cases hlen : s.size ≤ 60
  · have g0 : ¬ (60 : Int) < (s.size : Int) := by omega
    have hDg : ∀ W, Below w.heap.size w W → Calls Tryd.prog 21 #[.int .i64 n] W fun e W' => e = .returned (.string (st (Lib.itoa n))) ∧ Below w.heap.size w W' := fun W hW =>
      (digits_run n W (hR.below hW hRs) h0 h1).mono fun e W' ⟨he, hb⟩ => ⟨he, hW.trans (hb.mono hW.size)⟩
    have hNt : ∀ W, Below w.heap.size w W → Calls Tryd.prog 22 #[.string (st (Lib.itoa n))] W fun e W' => e = .returned (Numbers (numberO (Lib.itoa n))) ∧ Below w.heap.size w W' := fun W hW =>
      (number_run (st (Lib.itoa n)) W (hR.below hW hRs) (by rw [st_size]; have := Lib.itoa_length_le n h0 h1; omega)).mono fun e W' ⟨he, hb⟩ => ⟨by rw [st_list] at he; exact he, hW.trans (hb.mono hW.size)⟩
    have hRd : ∀ W, Below w.heap.size w W → Calls Tryd.prog 23 #[.int .i64 n] W fun e W' => e = .returned (.string (st (Lib.itoa n))) ∧ Below w.heap.size w W' := fun W hW =>
      (ref_digits _ n W (Nat.le_refl _) h0 h1).mono fun e W' ⟨he, hb⟩ => ⟨he, by rw [hb]; exact hW⟩
    have hNs : ∀ W, Below w.heap.size w W → Calls Tryd.prog 22 #[.string s] W fun e W' => e = .returned (Numbers (numberO s.data.toList)) ∧ Below w.heap.size w W' := fun W hW =>
      (number_run s W (hR.below hW hRs) (by omega)).mono fun e W' ⟨he, hb⟩ => ⟨he, hW.trans (hb.mono hW.size)⟩
    have hnear := fun a b => number_itoa n a b
    have hfar := number_far n
    obtain ⟨X, hX⟩ : ∃ X, X = st (Lib.itoa n) := ⟨_, rfl⟩
    rw [← hX] at hDg hNt hRd
    clear hX
    have hXX : (X.toList == X.toList) = true := beq_self_eq_true _
    have hss : (s.toList == s.toList) = true := beq_self_eq_true _
    have hparts : (-1099511627776 ≤ n ∧ n ≤ 1099511627776) ∨ n < -1099511627776 ∨ (-1099511627776 ≤ n ∧ 1099511627776 < n) := by omega
    clear h0 h1 hlen
    rcases hparts with ⟨n1, n2⟩ | n1 | ⟨n1, n2⟩
    · rw [show numberO (Lib.itoa n) = some n from hnear n1 n2] at hNt
      change ∀ W, Below w.heap.size w W → Calls _ _ _ W (fun e W' => e = .returned (.tuple #[.int .i64 n, .bool true]) ∧ Below w.heap.size w W') at hNt
      clear hnear hfar
      cases hm : numberO s.data.toList with
      | some m =>
        obtain ⟨⟨m1, m2⟩, hms⟩ := number_some hm
        rw [hm] at hNs
        change ∀ W, Below w.heap.size w W → Calls _ _ _ W (fun e W' => e = .returned (.tuple #[.int .i64 m, .bool true]) ∧ Below w.heap.size w W') at hNs
        have hRx : ∀ W, Below w.heap.size w W → Calls Tryd.prog 23 #[.int .i64 m] W fun e W' => e = .returned (.string s) ∧ Below w.heap.size w W' := fun W hW =>
          (ref_digits _ m W (Nat.le_refl _) (by omega) (by omega)).mono fun e W' ⟨he, hb⟩ => ⟨by rw [he, hms, ← st_of], by rw [hb]; exact hW⟩
        clear hms hm hR
        go_enter Tryd.func6, Tryd.ntmps6
        go_wp2_with (first
          | (go_at_call 21; (with_reducible refine (hDg w (Below.refl _ _)).mono ?_); rintro e w1 ⟨rfl, hb⟩; have B1 := hide hb; clear hb hDg)
          | (go_at_call 22; (with_reducible refine (hNt w1 B1.out).mono ?_); rintro e w2 ⟨rfl, hb⟩; have B2 := hide hb; clear hb hNt)
          | (go_at_call 23; (with_reducible refine (hRd w2 B2.out).mono ?_); rintro e w3 ⟨rfl, hb⟩; have B3 := hide hb; clear hb hRd)
          | (go_at_call 22; (with_reducible refine (hNs w3 B3.out).mono ?_); rintro e w4 ⟨rfl, hb⟩; have B4 := hide hb; clear hb hNs)
          | (go_at_call 7; (with_reducible refine (haw w4 B4.out).mono ?_); rintro e w5 ⟨rfl, hb⟩; have B5 := hide hb; clear hb haw)
          | (go_at_call 23; (with_reducible refine (hRx w5 B5.out).mono ?_); rintro e w6 ⟨rfl, hb⟩; have B6 := hide hb; clear hb hRx))
        go_ret
        exact ⟨rfl, B6.out⟩
      | none =>
        rw [hm] at hNs
        change ∀ W, Below w.heap.size w W → Calls _ _ _ W (fun e W' => e = .returned (.tuple #[.int .i64 0, .bool false]) ∧ Below w.heap.size w W') at hNs
        clear hm hR
        go_enter Tryd.func6, Tryd.ntmps6
        go_wp2_with (first
          | (go_at_call 21; (with_reducible refine (hDg w (Below.refl _ _)).mono ?_); rintro e w1 ⟨rfl, hb⟩; have B1 := hide hb; clear hb hDg)
          | (go_at_call 22; (with_reducible refine (hNt w1 B1.out).mono ?_); rintro e w2 ⟨rfl, hb⟩; have B2 := hide hb; clear hb hNt)
          | (go_at_call 23; (with_reducible refine (hRd w2 B2.out).mono ?_); rintro e w3 ⟨rfl, hb⟩; have B3 := hide hb; clear hb hRd)
          | (go_at_call 22; (with_reducible refine (hNs w3 B3.out).mono ?_); rintro e w4 ⟨rfl, hb⟩; have B4 := hide hb; clear hb hNs)
          | (go_at_call 7; (with_reducible refine (haw w4 B4.out).mono ?_); rintro e w5 ⟨rfl, hb⟩; have B5 := hide hb; clear hb haw))
        go_ret
        exact ⟨rfl, B5.out⟩
    · rw [show numberO (Lib.itoa n) = none from hfar (.inl n1)] at hNt
      change ∀ W, Below w.heap.size w W → Calls _ _ _ W (fun e W' => e = .returned (.tuple #[.int .i64 0, .bool false]) ∧ Below w.heap.size w W') at hNt
      clear hnear hfar
      have n1' : ¬ -1099511627776 ≤ n := by omega
      cases hm : numberO s.data.toList with
      | some m =>
        obtain ⟨⟨m1, m2⟩, hms⟩ := number_some hm
        rw [hm] at hNs
        change ∀ W, Below w.heap.size w W → Calls _ _ _ W (fun e W' => e = .returned (.tuple #[.int .i64 m, .bool true]) ∧ Below w.heap.size w W') at hNs
        have hRx : ∀ W, Below w.heap.size w W → Calls Tryd.prog 23 #[.int .i64 m] W fun e W' => e = .returned (.string s) ∧ Below w.heap.size w W' := fun W hW =>
          (ref_digits _ m W (Nat.le_refl _) (by omega) (by omega)).mono fun e W' ⟨he, hb⟩ => ⟨by rw [he, hms, ← st_of], by rw [hb]; exact hW⟩
        clear hms hm hR
        go_enter Tryd.func6, Tryd.ntmps6
        go_wp2_with (first
          | (go_at_call 21; (with_reducible refine (hDg w (Below.refl _ _)).mono ?_); rintro e w1 ⟨rfl, hb⟩; have B1 := hide hb; clear hb hDg)
          | (go_at_call 22; (with_reducible refine (hNt w1 B1.out).mono ?_); rintro e w2 ⟨rfl, hb⟩; have B2 := hide hb; clear hb hNt)
          | (go_at_call 23; (with_reducible refine (hRd w2 B2.out).mono ?_); rintro e w3 ⟨rfl, hb⟩; have B3 := hide hb; clear hb hRd)
          | (go_at_call 22; (with_reducible refine (hNs w3 B3.out).mono ?_); rintro e w4 ⟨rfl, hb⟩; have B4 := hide hb; clear hb hNs)
          | (go_at_call 7; (with_reducible refine (haw w4 B4.out).mono ?_); rintro e w5 ⟨rfl, hb⟩; have B5 := hide hb; clear hb haw)
          | (go_at_call 23; (with_reducible refine (hRx w5 B5.out).mono ?_); rintro e w6 ⟨rfl, hb⟩; have B6 := hide hb; clear hb hRx))
        go_ret
        exact ⟨rfl, B6.out⟩
      | none =>
        rw [hm] at hNs
        change ∀ W, Below w.heap.size w W → Calls _ _ _ W (fun e W' => e = .returned (.tuple #[.int .i64 0, .bool false]) ∧ Below w.heap.size w W') at hNs
        clear hm hR
        go_enter Tryd.func6, Tryd.ntmps6
        go_wp2_with (first
          | (go_at_call 21; (with_reducible refine (hDg w (Below.refl _ _)).mono ?_); rintro e w1 ⟨rfl, hb⟩; have B1 := hide hb; clear hb hDg)
          | (go_at_call 22; (with_reducible refine (hNt w1 B1.out).mono ?_); rintro e w2 ⟨rfl, hb⟩; have B2 := hide hb; clear hb hNt)
          | (go_at_call 23; (with_reducible refine (hRd w2 B2.out).mono ?_); rintro e w3 ⟨rfl, hb⟩; have B3 := hide hb; clear hb hRd)
          | (go_at_call 22; (with_reducible refine (hNs w3 B3.out).mono ?_); rintro e w4 ⟨rfl, hb⟩; have B4 := hide hb; clear hb hNs)
          | (go_at_call 7; (with_reducible refine (haw w4 B4.out).mono ?_); rintro e w5 ⟨rfl, hb⟩; have B5 := hide hb; clear hb haw))
        go_ret
        exact ⟨rfl, B5.out⟩
    · rw [show numberO (Lib.itoa n) = none from hfar (.inr n2)] at hNt
      change ∀ W, Below w.heap.size w W → Calls _ _ _ W (fun e W' => e = .returned (.tuple #[.int .i64 0, .bool false]) ∧ Below w.heap.size w W') at hNt
      clear hnear hfar
      have n2' : ¬ n ≤ 1099511627776 := by omega
      cases hm : numberO s.data.toList with
      | some m =>
        obtain ⟨⟨m1, m2⟩, hms⟩ := number_some hm
        rw [hm] at hNs
        change ∀ W, Below w.heap.size w W → Calls _ _ _ W (fun e W' => e = .returned (.tuple #[.int .i64 m, .bool true]) ∧ Below w.heap.size w W') at hNs
        have hRx : ∀ W, Below w.heap.size w W → Calls Tryd.prog 23 #[.int .i64 m] W fun e W' => e = .returned (.string s) ∧ Below w.heap.size w W' := fun W hW =>
          (ref_digits _ m W (Nat.le_refl _) (by omega) (by omega)).mono fun e W' ⟨he, hb⟩ => ⟨by rw [he, hms, ← st_of], by rw [hb]; exact hW⟩
        clear hms hm hR
        go_enter Tryd.func6, Tryd.ntmps6
        go_wp2_with (first
          | (go_at_call 21; (with_reducible refine (hDg w (Below.refl _ _)).mono ?_); rintro e w1 ⟨rfl, hb⟩; have B1 := hide hb; clear hb hDg)
          | (go_at_call 22; (with_reducible refine (hNt w1 B1.out).mono ?_); rintro e w2 ⟨rfl, hb⟩; have B2 := hide hb; clear hb hNt)
          | (go_at_call 23; (with_reducible refine (hRd w2 B2.out).mono ?_); rintro e w3 ⟨rfl, hb⟩; have B3 := hide hb; clear hb hRd)
          | (go_at_call 22; (with_reducible refine (hNs w3 B3.out).mono ?_); rintro e w4 ⟨rfl, hb⟩; have B4 := hide hb; clear hb hNs)
          | (go_at_call 7; (with_reducible refine (haw w4 B4.out).mono ?_); rintro e w5 ⟨rfl, hb⟩; have B5 := hide hb; clear hb haw)
          | (go_at_call 23; (with_reducible refine (hRx w5 B5.out).mono ?_); rintro e w6 ⟨rfl, hb⟩; have B6 := hide hb; clear hb hRx))
        go_ret
        exact ⟨rfl, B6.out⟩
      | none =>
        rw [hm] at hNs
        change ∀ W, Below w.heap.size w W → Calls _ _ _ W (fun e W' => e = .returned (.tuple #[.int .i64 0, .bool false]) ∧ Below w.heap.size w W') at hNs
        clear hm hR
        go_enter Tryd.func6, Tryd.ntmps6
        go_wp2_with (first
          | (go_at_call 21; (with_reducible refine (hDg w (Below.refl _ _)).mono ?_); rintro e w1 ⟨rfl, hb⟩; have B1 := hide hb; clear hb hDg)
          | (go_at_call 22; (with_reducible refine (hNt w1 B1.out).mono ?_); rintro e w2 ⟨rfl, hb⟩; have B2 := hide hb; clear hb hNt)
          | (go_at_call 23; (with_reducible refine (hRd w2 B2.out).mono ?_); rintro e w3 ⟨rfl, hb⟩; have B3 := hide hb; clear hb hRd)
          | (go_at_call 22; (with_reducible refine (hNs w3 B3.out).mono ?_); rintro e w4 ⟨rfl, hb⟩; have B4 := hide hb; clear hb hNs)
          | (go_at_call 7; (with_reducible refine (haw w4 B4.out).mono ?_); rintro e w5 ⟨rfl, hb⟩; have B5 := hide hb; clear hb haw))
        go_ret
        exact ⟨rfl, B5.out⟩
  · have g0 : (60 : Int) < (s.size : Int) := by omega
    clear hR
    go_enter Tryd.func6, Tryd.ntmps6
    go_wp2_with (go_at_call 7; (with_reducible refine (haw w (Below.refl _ _)).mono ?_); rintro e w1 ⟨rfl, hb⟩; have B1 := hide hb; clear hb haw)
    go_ret
    exact ⟨rfl, B1.out⟩

end Go.Proofs.YtlenlopeakmplaaDoor
