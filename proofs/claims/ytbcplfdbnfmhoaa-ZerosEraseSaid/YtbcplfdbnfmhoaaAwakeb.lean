/-
  'few' and 'awake' of layer 2.
-/
import Derived.Test.YtbcplfdbnfmhoaaOnes
import Derived.Test.YtbcplfdbnfmhoaaRef2
namespace Go.Proofs.Ytbcplfdbnfmhoaa
open Go.RowKit

/-- few: are all the slices of a row at most 60 long? -/
theorem few2_any (a : Addr) (n c : Nat) (L : Nat → Nat) (w : World) (r : Bool) (hr : r = decide (∀ j, j < n → L j ≤ 60)) (hbig : n ≤ 1000) (h : ∀ j, j < n → ∃ A' c', w.cell? (a.add j) = some (.slice A' (L j) c')) :
    Calls Try.prog 7 #[.slice (some a) n c] w fun e w' => e = .returned (.bool r) ∧ w = w' := by
  have Hr := hide hr
  have Hh := hide h
  clear hr h
  go_enter Try.func7, Try.ntmps7
  go_wp2
  go_loop [3] (fun i => ∃ j : Nat, j ≤ n ∧ i = .int .i64 (j : Int) ∧ Hid (∀ k, k < j → L k ≤ 60)) (fun i => n - (intOf i).toNat)
  case atStart => exact ⟨0, Nat.zero_le _, rfl, hide (fun k hk => by omega)⟩
  case round =>
    obtain ⟨j, hj, rfl, hal⟩ := hrel
    by_cases hlt : j < n
    · have h1 : (j : Int) < (n : Int) := by omega
      obtain ⟨A', c', hc⟩ := Hh.out j hlt
      obtain ⟨q, hq⟩ : ∃ q, q = L j := ⟨_, rfl⟩
      rw [← hq] at hc
      have Hq := hide hq
      clear hq
      by_cases h60 : q ≤ 60
      · have h2 : ¬ (60 : Int) < (q : Int) := by omega
        go_wp2
        go_round
        case rel =>
          refine ⟨j + 1, by omega, by go_num, hide (fun k hk => ?_)⟩
          rcases Nat.lt_or_ge k j with h4 | h4
          · exact hal.out k h4
          · obtain rfl : k = j := by omega
            rw [← Hq.out]; exact h60
        case measure => simp [intOf]; omega
      · have h2 : (60 : Int) < (q : Int) := by omega
        go_wp2
        go_ret
        exact ⟨ret_bool (by rw [Hr.out]; exact (decide_eq_false (fun hh => h60 (by rw [Hq.out]; exact hh j hlt))).symm), rfl⟩
    · obtain rfl : j = n := by omega
      go_wp2
      go_ret
      exact ⟨ret_bool (by rw [Hr.out]; exact (decide_eq_true hal.out).symm), rfl⟩

/-- A new block of bytes, as something that lies. -/
theorem Lies.fresh (w : World) (l : List UInt8) (t : TypeId) (fr : Nat × Nat) (cs : Array Value) (hcs : cs.toList = bys l) (g B : Nat) (hg : g = w.heap.size) (hB : g < B) : Lies (w.alloc (.cells cs t fr)) B (some ⟨g, 0, none⟩) (bys l) := by
  subst hg; rw [← hcs]; exact Lies.new w cs t fr _ hB

set_option maxHeartbeats 400000 in
theorem awake2_any (w : World) : Calls Try.prog 8 #[] w fun e w' => e = .returned (.bool true) ∧ Below w.heap.size w w' := by
  go_enter Try.func8, Try.ntmps8
  go_wp2_with fail
  refine (count_any _ 2 2 (w.heap.size + 1) [240, 255] _ (Lies.fresh w [240, 255] 5 (0, 0) #[.int .u8 240, .int .u8 255] rfl w.heap.size _ rfl (by omega)) rfl (by omega)).mono ?_
  rintro e w1 ⟨rfl, hw1⟩
  rw [show ((zc [240, 255] (8 * ([240, 255] : List UInt8).length) : Nat) : Int) = 4 by decide]
  have Hb1 := hide (show Below w.heap.size w w1 by rw [← hw1]; exact (Below.refl _ w).alloc (Nat.le_refl _) _)
  clear hw1
  go_wp2_with fail
  refine (ones_any 3 _).mono ?_
  rw [show (min (max (3 : Int) 0) 1048576).toNat = 3 by decide]
  rintro e w2 ⟨A2, c2, rfl, hl2, hb2⟩
  have Hl2 := hide hl2
  have Hb2 := hide (Hb1.out.trans (hb2.mono Hb1.out.size))
  clear hl2 hb2 Hb1
  go_wp2_with fail
  refine (blank_any A2 3 c2 _ (List.replicate 3 255) _ Hl2.out rfl (by omega)).mono ?_
  rintro e w3 ⟨rfl, rfl⟩
  rw [show (zc (List.replicate 3 255) (8 * (List.replicate 3 (255 : UInt8)).length) == 0) = true by decide]
  clear Hl2
  go_wp2_with fail
  have fp := program_any (some ⟨w2.heap.size, 0, none⟩) (some ⟨w2.heap.size + 1, 0, none⟩) (some ⟨w2.heap.size + 2, 0, none⟩) 1 1 1 1 1 1 (w2.heap.size + 3) [255] [0] [15] (((w2.alloc (.cells #[.int .u8 255] 5)).alloc (.cells #[.int .u8 0] 5)).alloc (.cells #[.int .u8 15] 5))
    ((((Lies.fresh w2 [255] 5 (0, 0) _ rfl w2.heap.size (w2.heap.size + 1) rfl (by omega)).alloc (by simp) _).alloc (by simp) _).up (by omega)) rfl (by omega)
    (((Lies.fresh _ [0] 5 (0, 0) _ rfl (w2.heap.size + 1) (w2.heap.size + 2) (by simp) (by omega)).alloc (by simp) _).up (by omega)) rfl (by omega) (Lies.fresh _ [15] 5 (0, 0) _ rfl (w2.heap.size + 2) _ (by simp) (by omega)) rfl (by simp)
  (with_reducible refine fp.mono ?_)
  clear fp
  rw [show progL [255] [0] [15] = [240] by decide]
  rintro e w4 ⟨A4, c4, rfl, ho4, hb4⟩
  have hs4 : (convert 22 9 (.slice A4 1 c4)).run Try.prog w4 = .ok (.string ⟨#[240]⟩) w4 := own_str (l := [240]) ho4 rfl
  have Hb4 := hide (Hb2.out.trans (((((Below.refl w2.heap.size w2).alloc (Nat.le_refl _) (.cells #[.int .u8 255] 5)).alloc (by simp only [World.size_alloc]; omega) (.cells #[.int .u8 0] 5)).alloc (by simp only [World.size_alloc]; omega) (.cells #[.int .u8 15] 5)).trans (hb4.mono (by simp only [World.size_alloc]; omega)) |>.mono Hb2.out.size))
  clear ho4 hb4 Hb2
  go_wp2_with fail
  have fp := erase_any (some ⟨w4.heap.size, 0, none⟩) (some ⟨w4.heap.size + 1, 0, none⟩) 1 1 1 1 (w4.heap.size + 2) [0] [3] ((w4.alloc (.cells #[.int .u8 0] 5)).alloc (.cells #[.int .u8 3] 5))
    (((Lies.fresh w4 [0] 5 (0, 0) _ rfl w4.heap.size (w4.heap.size + 1) rfl (by omega)).alloc (by simp) _).up (by omega)) rfl (by omega) (Lies.fresh _ [3] 5 (0, 0) _ rfl (w4.heap.size + 1) _ (by simp) (by omega)) rfl (by simp)
  (with_reducible refine fp.mono ?_)
  clear fp
  rw [show erasL [0] [3] = [3] by decide]
  rintro e w5 ⟨A5, c5, rfl, ho5, hb5⟩
  have hs5 : (convert 22 9 (.slice A5 1 c5)).run Try.prog w5 = .ok (.string ⟨#[3]⟩) w5 := own_str (l := [3]) ho5 rfl
  have Hb5 := hide (Hb4.out.trans ((((Below.refl w4.heap.size w4).alloc (Nat.le_refl _) (.cells #[.int .u8 0] 5)).alloc (by simp only [World.size_alloc]; omega) (.cells #[.int .u8 3] 5)).trans (hb5.mono (by simp only [World.size_alloc]; omega)) |>.mono Hb4.out.size))
  clear ho5 hb5 Hb4 hs4
  go_wp2_with fail
  have fm := mask_any (some ⟨w5.heap.size, 0, none⟩) 2 2 (w5.heap.size + 1) [1, 2] 3 _ (Lies.fresh w5 [1, 2] 5 (0, 0) #[.int .u8 1, .int .u8 2] rfl w5.heap.size _ rfl (by omega)) rfl
  rw [show ((3 : Nat) : Int) = 3 from rfl] at fm
  (with_reducible refine fm.mono ?_)
  clear fm
  rintro e w6 ⟨rfl, hw6⟩
  rw [show (((maskB [1, 2] 3).toNat : Nat) : Int) = 2 by decide]
  have Hb6 := hide (show Below w.heap.size w w6 by rw [← hw6]; exact Hb5.out.alloc Hb5.out.size _)
  clear hw6 Hb5 hs5
  go_wp2_with fail
  have fp := covers_any (some ⟨w6.heap.size, 0, none⟩) (some ⟨w6.heap.size + 1, 0, none⟩) 1 1 1 1 (w6.heap.size + 2) [7] [5] ((w6.alloc (.cells #[.int .u8 7] 5)).alloc (.cells #[.int .u8 5] 5))
    (((Lies.fresh w6 [7] 5 (0, 0) _ rfl w6.heap.size (w6.heap.size + 1) rfl (by omega)).alloc (by simp) _).up (by omega)) rfl (by omega) (Lies.fresh _ [5] 5 (0, 0) _ rfl (w6.heap.size + 1) _ (by simp) (by omega)) rfl (by omega)
  (with_reducible refine fp.mono ?_)
  clear fp
  rintro e w7 ⟨rfl, q, hw7⟩
  rw [show covB [7] [5] = true by decide]
  have Hb7 := hide (show Below w.heap.size w w7 by rw [hw7]; exact bel_drewN ((Hb6.out.alloc Hb6.out.size _).alloc (by simp; have := Hb6.out.size; omega) _) q)
  clear hw7 Hb6
  go_wp2_with fail
  have fp := covers_any (some ⟨w7.heap.size, 0, none⟩) (some ⟨w7.heap.size + 1, 0, none⟩) 1 1 1 1 (w7.heap.size + 2) [5] [7] ((w7.alloc (.cells #[.int .u8 5] 5)).alloc (.cells #[.int .u8 7] 5))
    (((Lies.fresh w7 [5] 5 (0, 0) _ rfl w7.heap.size (w7.heap.size + 1) rfl (by omega)).alloc (by simp) _).up (by omega)) rfl (by omega) (Lies.fresh _ [7] 5 (0, 0) _ rfl (w7.heap.size + 1) _ (by simp) (by omega)) rfl (by omega)
  (with_reducible refine fp.mono ?_)
  clear fp
  rintro e w8 ⟨rfl, q2, hw8⟩
  rw [show covB [5] [7] = false by decide]
  have Hb8 := hide (show Below w.heap.size w w8 by rw [hw8]; exact bel_drewN ((Hb7.out.alloc Hb7.out.size _).alloc (by simp; have := Hb7.out.size; omega) _) q2)
  clear hw8 Hb7
  go_wp2
  go_ret
  exact ⟨rfl, Hb8.out⟩

end Go.Proofs.Ytbcplfdbnfmhoaa
