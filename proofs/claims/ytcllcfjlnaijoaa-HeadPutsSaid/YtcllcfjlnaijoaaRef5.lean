/-
  CONTRACTS of the statements' own package wagtailref05: Put, Get.
-/
import Derived.Test.YtcllcfjlnaijoaaHead2
namespace Go.Proofs.Ytcllcfjlnaijoaa
open Go.RowKit

theorem own_keep {w w' : World} {B k n : Nat} {e : TypeId} {v : Value} {xs : List Value} (h : w.ownsRow B e k v n xs) (hb : Below w.heap.size w w') : w'.ownsRow B e k v n xs :=
  h.kept (row := none) (grown_below hb) (by cases hv : v.ownBlock <;> simp)

theorem lit_row (w : World) (x : Nat) (hx : x < 256) : (w.alloc (.cells #[.int .u8 (x : Int)] 5)).ownsRow w.heap.size 5 1 (.slice (some ⟨w.heap.size, 0, none⟩) 1 1) 1 (bys [UInt8.ofNat x]) := by
  have h := World.ownsRow_lit (size := 1) w #[.int .u8 (x : Int)] 1 (e := 5) (Nat.le_refl w.heap.size) (by decide) rfl
  have e : bys [UInt8.ofNat x] = [.int .u8 (x : Int)] := by simp [bys]; omega
  rw [e]
  exact h


set_option maxHeartbeats 1000000 in
theorem put5_small (m n : Nat) (w : World) (hm : m < 8) (hn : n < 24) :
    Calls Try.prog 8 #[.int .i64 (m : Int), .int .u64 (n : Int)] w fun e w' => ∃ A' c', e = .returned (.slice A' 1 c') ∧
      w'.ownsRow w.heap.size 5 1 (.slice A' 1 c') 1 (bys ([UInt8.ofNat (32 * m + n)])) ∧ Below w.heap.size w w' := by
  have h1 : (n : Int) ≤ 23 := by omega
  have e1 : IntKind.i64.wrap (32 * (m : Int)) = 32 * (m : Int) := IntWalk.i64_in _ (by omega)
  have e2 : IntKind.i64.wrap (n : Int) = (n : Int) := IntWalk.i64_in _ (by omega)
  have e3 : IntKind.i64.wrap (32 * (m : Int) + (n : Int)) = 32 * (m : Int) + (n : Int) := IntWalk.i64_in _ (by omega)
  obtain ⟨f, hf, hf2⟩ : ∃ f, f = 32 * m + n ∧ f < 256 := ⟨_, rfl, by omega⟩
  have e4 : IntKind.u8.wrap (32 * (m : Int) + (n : Int)) = (f : Int) := by rw [hf]; simp [IntKind.wrap, IntKind.bits, IntKind.signed]; omega
  rw [← hf]
  clear hf
  go_enter Try.func8, Try.ntmps8
  go_wp2
  go_ret
  exact ⟨_, _, rfl, lit_row w f hf2, (Below.refl _ _).alloc (Nat.le_refl _) _⟩

set_option maxHeartbeats 1000000 in
theorem put5_one (m n : Nat) (w : World) (hm : m < 8) (hn : 24 ≤ n) (hn2 : n ≤ 255) :
    Calls Try.prog 8 #[.int .i64 (m : Int), .int .u64 (n : Int)] w fun e w' => ∃ A' c', e = .returned (.slice A' 2 c') ∧
      w'.ownsRow w.heap.size 5 1 (.slice A' 2 c') 2 (bys (UInt8.ofNat (32 * m + 24) :: beB 1 n)) ∧ Below w.heap.size w w' := by
  have h0 : ¬ (n : Int) ≤ 23 := by omega
  have h9 : (n : Int) ≤ 255 := by omega
  have e1 : IntKind.i64.wrap (32 * (m : Int)) = 32 * (m : Int) := IntWalk.i64_in _ (by omega)
  have e3 : IntKind.i64.wrap (32 * (m : Int) + 24) = 32 * (m : Int) + 24 := IntWalk.i64_in _ (by omega)
  obtain ⟨f, hf, hf2⟩ : ∃ f, f = 32 * m + 24 ∧ f < 256 := ⟨_, rfl, by omega⟩
  have e4 : IntKind.u8.wrap (32 * (m : Int) + 24) = (f : Int) := by rw [hf]; simp [IntKind.wrap, IntKind.bits, IntKind.signed]; omega
  rw [← hf]
  have Hn2 := hide hn2
  have Hrow := hide (lit_row w f hf2)
  have hb0 := (Below.refl w.heap.size w).alloc (Nat.le_refl _) (.cells #[.int .u8 (f : Int)] 5)
  have hz0 := hb0.size
  have Hb0 := hide hb0
  have Hbt := hide (bytes_nat 1 (n : Int) (w.alloc (.cells #[.int .u8 (f : Int)] 5)) (by omega) (by omega) (by omega))
  clear hf hn hn2 hb0
  go_enter Try.func8, Try.ntmps8
  go_wp2_with fail
  have fp := Hbt.out
  rw [show ((1 : Nat) : Int) = 1 from rfl] at fp
  (with_reducible refine fp.mono ?_)
  clear fp Hbt
  rintro e w1 ⟨A1, c1, rfl, ho1, hb1⟩
  have Hrow1 := hide (own_keep Hrow.out hb1)
  have Ho1 := hide (Lies.of_own ho1)
  have Hb1 := hide (Hb0.out.trans (hb1.mono hz0))
  have hz1 := Hb1.out.size
  clear ho1 hb1 Hrow Hb0
  go_wp2_with (at_builtin; refine wpl_app _ rfl u8elems (.tmp 21) (.tmp 23) rfl w.heap.size (.slice (some ⟨w.heap.size, 0, none⟩) 1 1) 1 (bys [UInt8.ofNat f]) rfl Hrow1.out w1.heap.size A1 1 c1 _ rfl (by rw [bys_len, beB_len]) Ho1.out (bys_one _) (by unfold maxLen; omega) (by omega) (by omega) ?_; intro A2 c2 w2 hown2 hg2 hat2; have Ho2 := hide hown2; have Hb2 := hide (Hb1.out.grown hg2 (by omega) (fun g hg => (Hrow1.out.lt g hg).1)); clear hown2 hg2 hat2)
  go_ret
  refine ⟨A2, c2, rfl, ?_, Hb2.out⟩
  have := Ho2.out
  rw [← bys_app] at this
  exact this

set_option maxHeartbeats 1000000 in
theorem put5_two (m n : Nat) (w : World) (hm : m < 8) (hn : 256 ≤ n) (hn2 : n ≤ 65535) :
    Calls Try.prog 8 #[.int .i64 (m : Int), .int .u64 (n : Int)] w fun e w' => ∃ A' c', e = .returned (.slice A' 3 c') ∧
      w'.ownsRow w.heap.size 5 1 (.slice A' 3 c') 3 (bys (UInt8.ofNat (32 * m + 25) :: beB 2 n)) ∧ Below w.heap.size w w' := by
  have h0 : ¬ (n : Int) ≤ 23 := by omega
  have h1 : ¬ (n : Int) ≤ 255 := by omega
  have h9 : (n : Int) ≤ 65535 := by omega
  have e1 : IntKind.i64.wrap (32 * (m : Int)) = 32 * (m : Int) := IntWalk.i64_in _ (by omega)
  have e3 : IntKind.i64.wrap (32 * (m : Int) + 25) = 32 * (m : Int) + 25 := IntWalk.i64_in _ (by omega)
  obtain ⟨f, hf, hf2⟩ : ∃ f, f = 32 * m + 25 ∧ f < 256 := ⟨_, rfl, by omega⟩
  have e4 : IntKind.u8.wrap (32 * (m : Int) + 25) = (f : Int) := by rw [hf]; simp [IntKind.wrap, IntKind.bits, IntKind.signed]; omega
  rw [← hf]
  have Hn2 := hide hn2
  have Hrow := hide (lit_row w f hf2)
  have hb0 := (Below.refl w.heap.size w).alloc (Nat.le_refl _) (.cells #[.int .u8 (f : Int)] 5)
  have hz0 := hb0.size
  have Hb0 := hide hb0
  have Hbt := hide (bytes_nat 2 (n : Int) (w.alloc (.cells #[.int .u8 (f : Int)] 5)) (by omega) (by omega) (by omega))
  clear hf hn hn2 hb0
  go_enter Try.func8, Try.ntmps8
  go_wp2_with fail
  have fp := Hbt.out
  rw [show ((2 : Nat) : Int) = 2 from rfl] at fp
  (with_reducible refine fp.mono ?_)
  clear fp Hbt
  rintro e w1 ⟨A1, c1, rfl, ho1, hb1⟩
  have Hrow1 := hide (own_keep Hrow.out hb1)
  have Ho1 := hide (Lies.of_own ho1)
  have Hb1 := hide (Hb0.out.trans (hb1.mono hz0))
  have hz1 := Hb1.out.size
  clear ho1 hb1 Hrow Hb0
  go_wp2_with (at_builtin; refine wpl_app _ rfl u8elems (.tmp 30) (.tmp 32) rfl w.heap.size (.slice (some ⟨w.heap.size, 0, none⟩) 1 1) 1 (bys [UInt8.ofNat f]) rfl Hrow1.out w1.heap.size A1 2 c1 _ rfl (by rw [bys_len, beB_len]) Ho1.out (bys_one _) (by unfold maxLen; omega) (by omega) (by omega) ?_; intro A2 c2 w2 hown2 hg2 hat2; have Ho2 := hide hown2; have Hb2 := hide (Hb1.out.grown hg2 (by omega) (fun g hg => (Hrow1.out.lt g hg).1)); clear hown2 hg2 hat2)
  go_ret
  refine ⟨A2, c2, rfl, ?_, Hb2.out⟩
  have := Ho2.out
  rw [← bys_app] at this
  exact this

set_option maxHeartbeats 1000000 in
theorem put5_four (m n : Nat) (w : World) (hm : m < 8) (hn : 65536 ≤ n) (hn2 : n ≤ 4294967295) :
    Calls Try.prog 8 #[.int .i64 (m : Int), .int .u64 (n : Int)] w fun e w' => ∃ A' c', e = .returned (.slice A' 5 c') ∧
      w'.ownsRow w.heap.size 5 1 (.slice A' 5 c') 5 (bys (UInt8.ofNat (32 * m + 26) :: beB 4 n)) ∧ Below w.heap.size w w' := by
  have h0 : ¬ (n : Int) ≤ 23 := by omega
  have h1 : ¬ (n : Int) ≤ 255 := by omega
  have h2 : ¬ (n : Int) ≤ 65535 := by omega
  have h9 : (n : Int) ≤ 4294967295 := by omega
  have e1 : IntKind.i64.wrap (32 * (m : Int)) = 32 * (m : Int) := IntWalk.i64_in _ (by omega)
  have e3 : IntKind.i64.wrap (32 * (m : Int) + 26) = 32 * (m : Int) + 26 := IntWalk.i64_in _ (by omega)
  obtain ⟨f, hf, hf2⟩ : ∃ f, f = 32 * m + 26 ∧ f < 256 := ⟨_, rfl, by omega⟩
  have e4 : IntKind.u8.wrap (32 * (m : Int) + 26) = (f : Int) := by rw [hf]; simp [IntKind.wrap, IntKind.bits, IntKind.signed]; omega
  rw [← hf]
  have Hn2 := hide hn2
  have Hrow := hide (lit_row w f hf2)
  have hb0 := (Below.refl w.heap.size w).alloc (Nat.le_refl _) (.cells #[.int .u8 (f : Int)] 5)
  have hz0 := hb0.size
  have Hb0 := hide hb0
  have Hbt := hide (bytes_nat 4 (n : Int) (w.alloc (.cells #[.int .u8 (f : Int)] 5)) (by omega) (by omega) (by omega))
  clear hf hn hn2 hb0
  go_enter Try.func8, Try.ntmps8
  go_wp2_with fail
  have fp := Hbt.out
  rw [show ((4 : Nat) : Int) = 4 from rfl] at fp
  (with_reducible refine fp.mono ?_)
  clear fp Hbt
  rintro e w1 ⟨A1, c1, rfl, ho1, hb1⟩
  have Hrow1 := hide (own_keep Hrow.out hb1)
  have Ho1 := hide (Lies.of_own ho1)
  have Hb1 := hide (Hb0.out.trans (hb1.mono hz0))
  have hz1 := Hb1.out.size
  clear ho1 hb1 Hrow Hb0
  go_wp2_with (at_builtin; refine wpl_app _ rfl u8elems (.tmp 39) (.tmp 41) rfl w.heap.size (.slice (some ⟨w.heap.size, 0, none⟩) 1 1) 1 (bys [UInt8.ofNat f]) rfl Hrow1.out w1.heap.size A1 4 c1 _ rfl (by rw [bys_len, beB_len]) Ho1.out (bys_one _) (by unfold maxLen; omega) (by omega) (by omega) ?_; intro A2 c2 w2 hown2 hg2 hat2; have Ho2 := hide hown2; have Hb2 := hide (Hb1.out.grown hg2 (by omega) (fun g hg => (Hrow1.out.lt g hg).1)); clear hown2 hg2 hat2)
  go_ret
  refine ⟨A2, c2, rfl, ?_, Hb2.out⟩
  have := Ho2.out
  rw [← bys_app] at this
  exact this

set_option maxHeartbeats 1000000 in
theorem put5_eight (m n : Nat) (w : World) (hm : m < 8) (hn : 4294967296 ≤ n) (hn2 : n ≤ 18446744073709551615) :
    Calls Try.prog 8 #[.int .i64 (m : Int), .int .u64 (n : Int)] w fun e w' => ∃ A' c', e = .returned (.slice A' 9 c') ∧
      w'.ownsRow w.heap.size 5 1 (.slice A' 9 c') 9 (bys (UInt8.ofNat (32 * m + 27) :: beB 8 n)) ∧ Below w.heap.size w w' := by
  have h0 : ¬ (n : Int) ≤ 23 := by omega
  have h1 : ¬ (n : Int) ≤ 255 := by omega
  have h2 : ¬ (n : Int) ≤ 65535 := by omega
  have h3 : ¬ (n : Int) ≤ 4294967295 := by omega
  have e1 : IntKind.i64.wrap (32 * (m : Int)) = 32 * (m : Int) := IntWalk.i64_in _ (by omega)
  have e3 : IntKind.i64.wrap (32 * (m : Int) + 27) = 32 * (m : Int) + 27 := IntWalk.i64_in _ (by omega)
  obtain ⟨f, hf, hf2⟩ : ∃ f, f = 32 * m + 27 ∧ f < 256 := ⟨_, rfl, by omega⟩
  have e4 : IntKind.u8.wrap (32 * (m : Int) + 27) = (f : Int) := by rw [hf]; simp [IntKind.wrap, IntKind.bits, IntKind.signed]; omega
  rw [← hf]
  have Hn2 := hide hn2
  have Hrow := hide (lit_row w f hf2)
  have hb0 := (Below.refl w.heap.size w).alloc (Nat.le_refl _) (.cells #[.int .u8 (f : Int)] 5)
  have hz0 := hb0.size
  have Hb0 := hide hb0
  have Hbt := hide (bytes_nat 8 (n : Int) (w.alloc (.cells #[.int .u8 (f : Int)] 5)) (by omega) (by omega) (by omega))
  clear hf hn hn2 hb0
  go_enter Try.func8, Try.ntmps8
  go_wp2_with fail
  have fp := Hbt.out
  rw [show ((8 : Nat) : Int) = 8 from rfl] at fp
  (with_reducible refine fp.mono ?_)
  clear fp Hbt
  rintro e w1 ⟨A1, c1, rfl, ho1, hb1⟩
  have Hrow1 := hide (own_keep Hrow.out hb1)
  have Ho1 := hide (Lies.of_own ho1)
  have Hb1 := hide (Hb0.out.trans (hb1.mono hz0))
  have hz1 := Hb1.out.size
  clear ho1 hb1 Hrow Hb0
  go_wp2_with (at_builtin; refine wpl_app _ rfl u8elems (.tmp 46) (.tmp 48) rfl w.heap.size (.slice (some ⟨w.heap.size, 0, none⟩) 1 1) 1 (bys [UInt8.ofNat f]) rfl Hrow1.out w1.heap.size A1 8 c1 _ rfl (by rw [bys_len, beB_len]) Ho1.out (bys_one _) (by unfold maxLen; omega) (by omega) (by omega) ?_; intro A2 c2 w2 hown2 hg2 hat2; have Ho2 := hide hown2; have Hb2 := hide (Hb1.out.grown hg2 (by omega) (fun g hg => (Hrow1.out.lt g hg).1)); clear hown2 hg2 hat2)
  go_ret
  refine ⟨A2, c2, rfl, ?_, Hb2.out⟩
  have := Ho2.out
  rw [← bys_app] at this
  exact this

theorem put5_any (m n : Nat) (w : World) (hm : m < 8) (hn : n < 18446744073709551616) :
    Calls Try.prog 8 #[.int .i64 (m : Int), .int .u64 (n : Int)] w fun e w' => ∃ A' c', e = .returned (.slice A' (sizeN n) c') ∧
      w'.ownsRow w.heap.size 5 1 (.slice A' (sizeN n) c') (sizeN n) (bys (headB m n)) ∧ Below w.heap.size w w' := by
  rcases (by omega : n < 24 ∨ 24 ≤ n ∧ n ≤ 255 ∨ 256 ≤ n ∧ n ≤ 65535 ∨ 65536 ≤ n ∧ n ≤ 4294967295 ∨ 4294967296 ≤ n ∧ n ≤ 18446744073709551615) with h | h | h | h | h
  · have e1 : lowN n = n := lowN_small h
    have := put5_small m n w hm h
    rw [show sizeN n = 1 by unfold sizeN; rw [e1, beh_small n h], show headB m n = [UInt8.ofNat (32 * m + n)] by unfold headB; rw [e1, beh_small n h]; rfl]
    exact this
  · have e1 : lowN n = 24 := by unfold lowN; rw [if_neg (by omega), if_pos (by omega)]
    have := put5_one m n w hm h.1 h.2
    rw [show sizeN n = 2 by unfold sizeN; rw [e1, beh_24], show headB m n = UInt8.ofNat (32 * m + 24) :: beB 1 n by unfold headB; rw [e1, beh_24]]
    exact this
  · have e1 : lowN n = 25 := by unfold lowN; rw [if_neg (by omega), if_neg (by omega), if_pos (by omega)]
    have := put5_two m n w hm h.1 h.2
    rw [show sizeN n = 3 by unfold sizeN; rw [e1, beh_25], show headB m n = UInt8.ofNat (32 * m + 25) :: beB 2 n by unfold headB; rw [e1, beh_25]]
    exact this
  · have e1 : lowN n = 26 := by unfold lowN; rw [if_neg (by omega), if_neg (by omega), if_neg (by omega), if_pos (by omega)]
    have := put5_four m n w hm h.1 h.2
    rw [show sizeN n = 5 by unfold sizeN; rw [e1, beh_26], show headB m n = UInt8.ofNat (32 * m + 26) :: beB 4 n by unfold headB; rw [e1, beh_26]]
    exact this
  · have e1 : lowN n = 27 := by unfold lowN; rw [if_neg (by omega), if_neg (by omega), if_neg (by omega), if_neg (by omega)]
    have := put5_eight m n w hm h.1 h.2
    rw [show sizeN n = 9 by unfold sizeN; rw [e1, beh_27], show headB m n = UInt8.ofNat (32 * m + 27) :: beB 8 n by unfold headB; rw [e1, beh_27]]
    exact this


set_option maxHeartbeats 2000000 in
theorem get5_any (A : Option Addr) (n c B : Nat) (l : List UInt8) (w : World) (h : Lies w B A (bys l)) (hn : n = l.length) (hbig : n ≤ 1000000) (hB : B ≤ w.heap.size) :
    Calls Try.prog 11 #[.slice A n c] w fun e w' => e = .returned (getV (getH l)) ∧ Below w.heap.size w w' := by
  rcases l with _ | ⟨b, r⟩
  · obtain rfl : n = 0 := hn
    go_enter Try.func11, Try.ntmps11
    go_wp2
    (try simp only [Exit.inBlock, Exit.then]); refine bodyPost_ret (results_tmp4 rfl _ _ _) rfl ?_
    exact ⟨rfl, Below.refl _ _⟩
  · have hx := b.toNat_lt
    have hn0 : 0 < n := by rw [hn]; simp
    obtain ⟨ad, rfl, _, hc⟩ := h.byte (k := 0) (by simp)
    rw [show ((b :: r).getD 0 0).toNat = b.toNat from rfl, show ad.add 0 = ad from rfl] at hc
    have Hg : Hid (getH (b :: r) = if 27 < b.toNat % 32 then (0, 0, 0, 6) else if n < 1 + beh (b.toNat % 32) then (0, 0, 0, 5) else
      if 1 + beh (b.toNat % 32) ≠ sizeN (if b.toNat % 32 < 24 then b.toNat % 32 else numAt (b :: r) 1 (beh (b.toNat % 32))) then (0, 0, 0, 6)
        else (b.toNat / 32, (if b.toNat % 32 < 24 then b.toNat % 32 else numAt (b :: r) 1 (beh (b.toNat % 32))), 1 + beh (b.toNat % 32), 0)) := by rw [hn]; rfl
    have Hnl := hide (numAt_lt (b :: r) 1)
    have Hget := hide (fun W a hW => number_any (some ad) n c B (b :: r) 1 a W hW hn (by omega) (by omega) (by omega))
    have Hl := hide h
    clear hn h
    generalize getH (b :: r) = G at *
    generalize numAt (b :: r) 1 = num at *
    generalize b :: r = l at *
    generalize b.toNat = x at *
    have hn1 : ¬ (n : Int) < 1 := by omega
    have hn2 : (0 : Int) < (n : Int) := by omega
    have hq : x % 32 < 32 := by omega
    have hd : x / 32 < 8 := by omega
    have e1 : (x : Int) % 32 = ((x % 32 : Nat) : Int) := by omega
    have e5 : (x : Int) / 32 = ((x / 32 : Nat) : Int) := by omega
    generalize x % 32 = q at *
    generalize x / 32 = d at *
    have e0 : IntKind.i64.wrap (x : Int) = (x : Int) := IntWalk.i64_in _ (by omega)
    have e2 : IntKind.u64.wrap (q : Int) = (q : Int) := u64_wrap_small _ (by omega)
    have hb8 := fun h => beh_le q h
    have hps := beh_pos q
    have hsmall := beh_small q
    by_cases h27 : 27 < q
    · have h27' : (27 : Int) < (q : Int) := by omega
      rw [if_pos h27] at Hg
      go_enter Try.func11, Try.ntmps11
      go_wp2
      (try simp only [Exit.inBlock, Exit.then]); refine bodyPost_ret (results_tmp4 rfl _ _ _) rfl ?_
      exact ⟨by rw [Hg.out]; rfl, Below.refl _ _⟩
    · have h27' : ¬ (27 : Int) < (q : Int) := by omega
      rw [if_neg h27] at Hg
      by_cases h24 : q < 24
      · have h24' : (q : Int) < 24 := by omega
        have hsz : sizeN q = 1 := by unfold sizeN; rw [lowN_small h24, hsmall h24]
        rw [hsmall h24, if_neg (by omega), if_pos h24, hsz, if_neg (by omega)] at Hg
        clear hsz
        go_enter Try.func11, Try.ntmps11
        go_wp2
        (try simp only [Exit.inBlock, Exit.then]); refine bodyPost_ret (results_tmp4 rfl _ _ _) rfl ?_
        exact ⟨by rw [Hg.out]; rfl, Below.refl _ _⟩
      · have h24' : ¬ (q : Int) < 24 := by omega
        rw [if_neg h24] at Hg
        have Hq : Hid ((q = 24 ∧ beh q = 1) ∨ (q = 25 ∧ beh q = 2) ∨ (q = 26 ∧ beh q = 4) ∨ (q = 27 ∧ beh q = 8)) := by
          have : q = 24 ∨ q = 25 ∨ q = 26 ∨ q = 27 := by omega
          rcases this with rfl | rfl | rfl | rfl <;> simp [Hid, beh]
        have Hy8 := hide (hb8 (by omega))
        have Hy0 := hide (hps (by omega))
        have Hnly := hide (Hnl.out (beh q))
        clear hsmall hps hb8 Hnl
        generalize beh q = y at *
        have Hb := hide ((Below.refl w.heap.size w).alloc (Nat.le_refl _) (.cells #[.int .i64 1, .int .i64 2, .int .i64 4, .int .i64 8] 3))
        have hz1 := Hb.out.size
        have hcell : (#[.int .i64 1, .int .i64 2, .int .i64 4, .int .i64 8] : Array Value)[q - 24]? = some (.int .i64 (y : Int)) := by
          rcases Hq.out with ⟨rfl, rfl⟩ | ⟨rfl, rfl⟩ | ⟨rfl, rfl⟩ | ⟨rfl, rfl⟩ <;> rfl
        have e3 : (q : Int) - 24 = ((q - 24 : Nat) : Int) := by omega
        have e4 : IntKind.i64.wrap ((q - 24 : Nat) : Int) = ((q - 24 : Nat) : Int) := IntWalk.i64_in _ (by omega)
        have e6 : ((q - 24 : Nat) : Int) < 4 := by omega
        have e7 : ((q - 24 : Nat) : Int).toNat = q - 24 := by omega
        have e8 : IntKind.i64.wrap (1 + (y : Int)) = 1 + (y : Int) := IntWalk.i64_in _ (by have := Hy8.out; omega)
        generalize q - 24 = k at *
        have HL := hide (Hl.out.below (Hb.out.mono hB))
        by_cases hlen : n < 1 + y
        · have hlen' : (n : Int) ≤ (y : Int) := by omega
          rw [if_pos hlen] at Hg
          go_enter Try.func11, Try.ntmps11
          go_wp2
          (try simp only [Exit.inBlock, Exit.then]); refine bodyPost_ret (results_tmp4 rfl _ _ _) rfl ?_
          exact ⟨by rw [Hg.out]; rfl, Hb.out⟩
        · have hlen' : ¬ (n : Int) ≤ (y : Int) := by omega
          rw [if_neg hlen] at Hg
          go_enter Try.func11, Try.ntmps11
          go_wp2_with fail
          have fp := Hget.out _ (y : Int) HL.out
          rw [if_pos (by omega), show (min (y : Int) 8).toNat = y by have := Hy8.out; omega] at fp
          (with_reducible refine fp.mono ?_)
          clear fp
          rintro e w2 ⟨rfl, rfl⟩
          generalize num y = v at *
          have hv : v < 18446744073709551616 := by
            have h1 : 256 ^ y ≤ 256 ^ 8 := Nat.pow_le_pow_right (by decide) Hy8.out
            have h2 : (256 : Nat) ^ 8 = 18446744073709551616 := by decide
            have := Hnly.out
            omega
          have Hv := hide hv
          clear hv
          go_wp2_with fail
          have fp := put5_any 0 v (w.alloc (.cells #[.int .i64 1, .int .i64 2, .int .i64 4, .int .i64 8] 3)) (by omega) Hv.out
          rw [show ((0 : Nat) : Int) = 0 from rfl] at fp
          (with_reducible refine fp.mono ?_)
          clear fp
          rintro e w2 ⟨A2, c2, rfl, ho2, hb2⟩
          have Hb2 := hide (Hb.out.trans (hb2.mono hz1))
          clear ho2 hb2
          have hzl := sizeN_le v
          generalize sizeN v = z at *
          by_cases hz : 1 + y = z
          · have hz' : ((z : Int) != (1 + (y : Int))) = false := by subst hz; simp
            go_wp2
            (try simp only [Exit.inBlock, Exit.then]); refine bodyPost_ret (results_tmp4 rfl _ _ _) rfl ?_
            exact ⟨by rw [Hg.out, if_neg (by omega)]; rfl, Hb2.out⟩
          · have hz' : ((z : Int) != (1 + (y : Int))) = true := by simp; omega
            go_wp2
            (try simp only [Exit.inBlock, Exit.then]); refine bodyPost_ret (results_tmp4 rfl _ _ _) rfl ?_
            exact ⟨by rw [Hg.out, if_pos (by omega)]; rfl, Hb2.out⟩

end Go.Proofs.Ytcllcfjlnaijoaa
