/-
  THE REFERENCE's Hex, two AND Digits, walked: digits from 0 to f, and decimal ones.
-/
import Derived.Test.YtlenlopeakmplaaDoorEscM
import Derived.Test.YtlenlopeakmplaaDoorNumM
import Derived.Test.YtlenlopeakmplaaDoorProg
import Derived.Lib.ItoaLen
namespace Go.Proofs.YtlenlopeakmplaaDoor
open Go.RowKit

/-- A text of these bytes. -/
def st (l : List UInt8) : ByteArray := ⟨l.toArray⟩
theorem st_of (s : ByteArray) : s = st s.data.toList := by unfold st; cases s; simp
theorem st_list (l : List UInt8) : (st l).data.toList = l := by simp [st]
theorem st_size (l : List UInt8) : (st l).size = l.length := by simp [st, ByteArray.size]
theorem st_app (a b : List UInt8) : st a ++ st b = st (a ++ b) := by
  have h : (st a ++ st b).data = (st (a ++ b)).data := by simp [st]
  cases hx : st a ++ st b; rw [hx] at h; cases hy : st (a ++ b); rw [hy] at h; simp at h; rw [h]

theorem hex_one : ∀ n : Fin 16, ({ data := #[48, 49, 50, 51, 52, 53, 54, 55, 56, 57, 97, 98, 99, 100, 101, 102] } : ByteArray).extract n.val (n.val + 1) = st [dig n.val] := by decide +kernel
theorem dec_one : ∀ n : Fin 10, ({ data := #[48, 49, 50, 51, 52, 53, 54, 55, 56, 57] } : ByteArray).extract n.val (n.val + 1) = st [UInt8.ofNat (48 + n.val)] := by decide +kernel
theorem ret_str {a b : ByteArray} (h : a = b) : Ending.returned (.string a) = .returned (.string b) := by rw [h]

set_option maxRecDepth 100000 in
theorem ref_hex (n : Nat) : ∀ (w : World), n < 4294967296 → Calls Tryd.prog 48 #[.int .i64 n] w fun e w' => e = .returned (.string (st (hexD n))) ∧ w' = w := by
  induction n using Nat.strongRecOn with
  | ind n ih =>
    intro w hn
    by_cases h16 : n < 16
    · go_enter Tryd.func48, Tryd.ntmps48
      go_wp2
      go_ret
      exact ⟨ret_str ((hex_one ⟨n, h16⟩).trans (by rw [hexD_small h16])), rfl⟩
    · have hres : st (hexD n) = st (hexD (n / 16)) ++ st (hexD (n % 16)) := by rw [st_app, hexD_big h16, hexD_small (n := n % 16) (by omega)]
      rw [hres]
      have ih1 := ih (n / 16) (by omega) w (by omega)
      have ih2 := ih (n % 16) (by omega) w (by omega)
      rw [show ((n / 16 : Nat) : Int) = (n : Int) / 16 from rfl] at ih1
      rw [show ((n % 16 : Nat) : Int) = (n : Int) % 16 from rfl] at ih2
      have hs : ¬ 9223372036854775807 < (st (hexD (n / 16))).size + (st (hexD (n % 16))).size := by
        have h1 := hexD_le 7 (n / 16) (by omega)
        have h2 := hexD_le 7 (n % 16) (by omega)
        rw [st_size, st_size]; omega
      generalize st (hexD (n / 16)) = x at ih1 hs ⊢
      generalize st (hexD (n % 16)) = y at ih2 hs ⊢
      go_enter Tryd.func48, Tryd.ntmps48
      go_wp2_with fail
      (with_reducible refine ih1.mono ?_)
      rintro e w' ⟨rfl, rfl⟩
      go_wp2_with fail
      (with_reducible refine ih2.mono ?_)
      rintro e w' ⟨rfl, rfl⟩
      go_wp2
      go_ret
      exact ⟨rfl, rfl⟩

theorem ref_two (n : Nat) (w : World) (hn : n < 4294967296) : Calls Tryd.prog 36 #[.int .i64 n] w fun e w' => e = .returned (.string (st (two n))) ∧ w' = w := by
  have ih1 := ref_hex n w hn
  unfold two
  by_cases h16 : n < 16
  · rw [if_pos h16]
    have hres : st (48 :: hexD n) = st [48] ++ st (hexD n) := by rw [st_app]; rfl
    rw [hres]
    have hs : ¬ 9223372036854775807 < 1 + (st (hexD n)).size := by
      have h1 := hexD_le 7 n (by omega)
      rw [st_size]; omega
    generalize st (hexD n) = x at ih1 hs ⊢
    go_enter Tryd.func36, Tryd.ntmps36
    go_wp2_with fail
    (with_reducible refine ih1.mono ?_)
    rintro e w' ⟨rfl, rfl⟩
    go_wp2
    go_ret
    exact ⟨rfl, rfl⟩
  · rw [if_neg h16]
    generalize st (hexD n) = x at ih1 ⊢
    go_enter Tryd.func36, Tryd.ntmps36
    go_wp2_with fail
    (with_reducible refine ih1.mono ?_)
    rintro e w' ⟨rfl, rfl⟩
    go_wp2
    go_ret
    exact ⟨rfl, rfl⟩

theorem itoa_le (n : Int) (h0 : -9223372036854775808 ≤ n) (h1 : n ≤ 9223372036854775807) : (st (Lib.itoa n)).size ≤ 21 := by
  rw [st_size]; exact Lib.itoa_length_le n h0 h1

set_option maxRecDepth 100000 in
theorem ref_digits (k : Nat) : ∀ (n : Int) (w : World), n.natAbs + (if n < 0 then 1 else 0) ≤ k → -9223372036854775808 ≤ n → n ≤ 9223372036854775807 →
    Calls Tryd.prog 23 #[.int .i64 n] w fun e w' => e = .returned (.string (st (Lib.itoa n))) ∧ w' = w := by
  induction k using Nat.strongRecOn with
  | ind k ih =>
    intro n w hk hlo hhi
    by_cases hneg : n < 0
    · rw [if_pos hneg] at hk
      by_cases hsm : -10 < n
      · have ih1 := ih (-n).natAbs (by omega) (-n) w (by rw [if_neg (by omega)]; omega) (by omega) (by omega)
        have hres : st (Lib.itoa n) = st [45] ++ st (Lib.itoa (-n)) := by rw [st_app, itoa_neg_small hneg]; rfl
        rw [hres]
        have hs := itoa_le (-n) (by omega) (by omega)
        generalize st (Lib.itoa (-n)) = x at ih1 hs ⊢
        have hs : ¬ 9223372036854775807 < 1 + x.size := by omega
        have hw : wrap64 (-n) = -n := by unfold wrap64; omega
        go_enter Tryd.func23, Tryd.ntmps23
        go_wp2_with fail
        (with_reducible refine ih1.mono ?_)
        rintro e w' ⟨rfl, rfl⟩
        go_wp2
        go_ret
        exact ⟨rfl, rfl⟩
      · have hb : n ≤ -10 := by omega
        have d1 : Int.tdiv n 10 = -((-n) / 10) := by rw [← Int.tdiv_eq_ediv_of_nonneg (show 0 ≤ -n by omega), Int.neg_tdiv]; simp
        have d2 : Int.tmod n 10 = -((-n) % 10) := by rw [← Int.tmod_eq_emod_of_nonneg (show 0 ≤ -n by omega), Int.neg_tmod]; simp
        have ih1 := ih (k - 1) (by omega) (Int.tdiv n 10) w (by rw [d1]; split <;> omega) (by rw [d1]; omega) (by rw [d1]; omega)
        have ih2 := ih (k - 1) (by omega) (-(Int.tmod n 10)) w (by rw [d2]; split <;> omega) (by rw [d2]; omega) (by rw [d2]; omega)
        have hres : st (Lib.itoa n) = st (Lib.itoa (Int.tdiv n 10)) ++ st (Lib.itoa (-(Int.tmod n 10))) := by rw [st_app, itoa_neg_big hb]
        rw [hres]
        have hs1 := itoa_le (Int.tdiv n 10) (by rw [d1]; omega) (by rw [d1]; omega)
        have hs2 := itoa_le (-(Int.tmod n 10)) (by rw [d2]; omega) (by rw [d2]; omega)
        generalize st (Lib.itoa (Int.tdiv n 10)) = x at ih1 hs1 ⊢
        generalize st (Lib.itoa (-(Int.tmod n 10))) = y at ih2 hs2 ⊢
        have hs : ¬ 9223372036854775807 < x.size + y.size := by omega
        have hw : wrap64 (-(Int.tmod n 10)) = -(Int.tmod n 10) := by rw [d2]; unfold wrap64; omega
        have hw1 : wrap64 (Int.tdiv n 10) = Int.tdiv n 10 := by rw [d1]; unfold wrap64; omega
        clear hs1 hs2 d1 d2
        go_enter Tryd.func23, Tryd.ntmps23
        go_wp2_with fail
        (with_reducible refine ih1.mono ?_)
        rintro e w' ⟨rfl, rfl⟩
        go_wp2_with fail
        (with_reducible refine ih2.mono ?_)
        rintro e w' ⟨rfl, rfl⟩
        go_wp2
        go_ret
        exact ⟨rfl, rfl⟩
    · rw [if_neg hneg] at hk
      by_cases hsm : n < 10
      · obtain ⟨u, rfl⟩ := Int.eq_ofNat_of_zero_le (show 0 ≤ n by omega)
        go_enter Tryd.func23, Tryd.ntmps23
        go_wp2
        go_ret
        exact ⟨ret_str ((dec_one ⟨u, by omega⟩).trans (by rw [itoa_small (by omega) hsm]; simp)), rfl⟩
      · have d1 : Int.tdiv n 10 = n / 10 := Int.tdiv_eq_ediv_of_nonneg (by omega)
        have d2 : Int.tmod n 10 = n % 10 := Int.tmod_eq_emod_of_nonneg (by omega)
        have ih1 := ih (k - 1) (by omega) (n / 10) w (by split <;> omega) (by omega) (by omega)
        have ih2 := ih (k - 1) (by omega) (n % 10) w (by split <;> omega) (by omega) (by omega)
        have hres : st (Lib.itoa n) = st (Lib.itoa (n / 10)) ++ st (Lib.itoa (n % 10)) := by rw [st_app, itoa_big (by omega), d1, d2]
        rw [hres]
        have hs1 := itoa_le (n / 10) (by omega) (by omega)
        have hs2 := itoa_le (n % 10) (by omega) (by omega)
        generalize st (Lib.itoa (n / 10)) = x at ih1 hs1 ⊢
        generalize st (Lib.itoa (n % 10)) = y at ih2 hs2 ⊢
        have hs : ¬ 9223372036854775807 < x.size + y.size := by omega
        go_enter Tryd.func23, Tryd.ntmps23
        go_wp2_with fail
        (with_reducible refine ih1.mono ?_)
        rintro e w' ⟨rfl, rfl⟩
        go_wp2_with fail
        (with_reducible refine ih2.mono ?_)
        rintro e w' ⟨rfl, rfl⟩
        go_wp2
        go_ret
        exact ⟨rfl, rfl⟩

end Go.Proofs.YtlenlopeakmplaaDoor
