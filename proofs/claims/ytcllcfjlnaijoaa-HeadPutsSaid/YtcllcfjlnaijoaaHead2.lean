/-
  CONTRACTS of package head, second part: Put, Get.
-/
import Derived.Test.YtcllcfjlnaijoaaHead
import Derived.Deep.QuietTactic
import Derived.BigQuiet
namespace Go.Proofs.Ytcllcfjlnaijoaa
open Go.RowKit

theorem results_tmp4 {fn : Func} {t u v x : Tmp} (h : fn.results = #[.tmp t, .tmp u, .tmp v, .tmp x]) (tmps : Array Value) (P : Program) (w : World) :
    (results fn tmps).run P w = .ok (.tuple #[tmps.getD t undef, tmps.getD u undef, tmps.getD v undef, tmps.getD x undef]) w := by
  simp [results, h]

theorem hputs_bad (m x : Int) (w : World) (h : m < 0 ∨ 7 < m) : Calls Try.prog 7 #[.int .i64 m, .int .u64 x] w fun e w' => e = .returned (.tuple #[.slice none 0 0, .int .i64 2]) ∧ w = w' := by
  by_cases h0 : m < 0
  · go_enter Try.func7, Try.ntmps7
    go_wp2
    go_ret2
    exact ⟨rfl, rfl⟩
  · have h7 : 7 < m := by omega
    go_enter Try.func7, Try.ntmps7
    go_wp2
    go_ret2
    exact ⟨rfl, rfl⟩

theorem hputs_any (m n : Nat) (w : World) (hm : m < 8) (hn : n < 18446744073709551616) :
    Calls Try.prog 7 #[.int .i64 (m : Int), .int .u64 (n : Int)] w fun e w' => ∃ A' c', e = .returned (.tuple #[.slice A' (sizeN n) c', .int .i64 0]) ∧
      w'.ownsRow w.heap.size 5 1 (.slice A' (sizeN n) c') (sizeN n) (bys (headB m n)) ∧ Below w.heap.size w w' := by
  have hl := lowN_le n
  have h8 := beh_le _ hl
  obtain ⟨f, hf⟩ : ∃ f, f = 32 * m + lowN n := ⟨_, rfl⟩
  have HB := hide (show rowB [1, f, beh (lowN n), n] = headB m n by
    simp only [rowB, List.append_nil, Nat.min_eq_left h8, headB, hf]
    simp [beB])
  have HL := hide (headB_len m n)
  have f1 := lowest_any n w hn
  generalize headB m n = hd at *
  generalize sizeN n = s at *
  generalize lowN n = q at *
  have Hn := hide hn
  have h0 : ¬ (m : Int) < 0 := by omega
  have h7 : ¬ (7 : Int) < (m : Int) := by omega
  have e1 : IntKind.u64.wrap (m : Int) = (m : Int) := u64_wrap_small m (by omega)
  have e2 : IntKind.u64.wrap ((m : Int) * 32) = (m : Int) * 32 := by rw [show (m : Int) * 32 = ((m * 32 : Nat) : Int) by omega, u64_wrap_small _ (by omega)]
  have e3 : bits .or .u64 ((m : Int) * 32) (q : Int) = (f : Int) := by
    rw [show (m : Int) * 32 = ((m * 32 : Nat) : Int) by omega, u64_or_nat _ _ (by omega) (by omega), nat_join 5 (m * 32) q (by omega) (by omega)]
    congr 1; omega
  clear hn hf
  go_enter Try.func7, Try.ntmps7
  go_wp2_with fail
  (with_reducible refine f1.mono ?_)
  clear f1
  rintro e w1 ⟨rfl, hb1⟩
  have Hb1 := hide hb1
  have hsz := hb1.size
  clear hb1
  go_wp2_with fail
  (with_reducible refine (behind_any q _ hl).mono ?_)
  rintro e w2 ⟨rfl, rfl⟩
  have e4 : IntKind.u64.wrap ((beh q : Nat) : Int) = ((beh q : Nat) : Int) := u64_wrap_small _ (by omega)
  generalize beh q = y at *
  go_wp2_with fail
  have fp := row_any (some ⟨w1.heap.size, 0, none⟩) 4 4 (w1.heap.size + 1) [1, f, y, n] _ (Lies.new w1 #[.int .u64 1, .int .u64 f, .int .u64 y, .int .u64 n] 22 (0, 0) _ (by omega)) rfl (by simp) (by omega)
  rw [HB.out] at fp
  (with_reducible refine fp.mono ?_)
  clear fp
  rintro e w3 ⟨A3, m3, c3, rfl, ho3, hb3⟩
  have hm3 : m3 = s := by have := ho3.1; rw [bys_len, HL.out] at this; omega
  subst hm3
  have Ho3 := hide (own_up ho3 (show w.heap.size ≤ _ by simp; omega))
  have Hb3 := hide ((Hb1.out.alloc hsz _).trans (hb3.mono (by simp; omega)))
  clear ho3 hb3
  go_wp2
  go_ret2
  exact ⟨A3, c3, rfl, Ho3.out, Hb3.out⟩

/-- What Get answers, as a value. -/
def getV (r : Nat × Nat × Nat × Nat) : Value := .tuple #[.int .i64 (r.1 : Int), .int .u64 (r.2.1 : Int), .int .i64 (r.2.2.1 : Int), .int .i64 (r.2.2.2 : Int)]

theorem u8_low5 (x : Nat) (h : x < 256) : bits .and .u8 (x : Int) 31 = ((x % 32 : Nat) : Int) := by
  have e : x &&& 31 = x % 32 := Nat.and_two_pow_sub_one_eq_mod x 5
  have h2 := u8_and_nat x 31 h (by omega)
  rw [e] at h2
  exact h2

set_option maxHeartbeats 1000000 in
theorem hgets_any (A : Option Addr) (n c B : Nat) (l : List UInt8) (w : World) (h : Lies w B A (bys l)) (hn : n = l.length) (hbig : n ≤ 1000000) (hB : B ≤ w.heap.size) :
    Calls Try.prog 9 #[.slice A n c] w fun e w' => e = .returned (getV (getH l)) ∧ Below w.heap.size w w' := by
  rcases l with _ | ⟨b, r⟩
  · obtain rfl : n = 0 := hn
    go_enter Try.func9, Try.ntmps9
    go_wp2
    (try simp only [Exit.inBlock, Exit.then]); refine bodyPost_ret (results_tmp4 rfl _ _ _) rfl ?_
    exact ⟨rfl, Below.refl _ _⟩
  · have hx := b.toNat_lt
    have hn0 : 0 < n := by rw [hn]; simp
    obtain ⟨ad, rfl, _, hc⟩ := h.byte (k := 0) (by simp)
    rw [show ((b :: r).getD 0 0).toNat = b.toNat from rfl, show ad.add 0 = ad from rfl] at hc
    have Hg : Hid (getH (b :: r) = if 27 < b.toNat % 32 then (0, 0, 0, 6) else if n < 1 + beh (b.toNat % 32) then (0, 0, 0, 5) else
      if 1 + beh (b.toNat % 32) ≠ sizeN (if b.toNat % 32 < 24 then b.toNat % 32 else numAt (b :: r) 1 (beh (b.toNat % 32))) then (0, 0, 0, 6)
        else (b.toNat / 32, (if b.toNat % 32 < 24 then b.toNat % 32 else numAt (b :: r) 1 (beh (b.toNat % 32))), 1 + beh (b.toNat % 32), 0)) := by rw [hn]; rfl
    have Hnl := hide (numAt_lt (b :: r) 1)
    have Hget := hide (fun W a hW => get_any (some ad) n c B (b :: r) 1 a W hW hn (by omega) (by omega) (by omega))
    have Hl := hide h
    clear hn h
    generalize getH (b :: r) = G at *
    generalize numAt (b :: r) 1 = num at *
    generalize b :: r = l at *
    generalize b.toNat = x at *
    have hn1 : ¬ (n : Int) = 0 := by omega
    have hn2 : (0 : Int) < (n : Int) := by omega
    have e1 := u8_low5 x hx
    have hq : x % 32 < 32 := by omega
    have hd : x / 32 < 8 := by omega
    have e5 : (x : Int) / 32 = ((x / 32 : Nat) : Int) := by omega
    generalize x % 32 = q at *
    generalize x / 32 = d at *
    have e2 : IntKind.u64.wrap (q : Int) = (q : Int) := u64_wrap_small _ (by omega)
    have e3 : IntKind.i64.wrap (d : Int) = (d : Int) := IntWalk.i64_in _ (by omega)
    have e4 : IntKind.u8.wrap (d : Int) = (d : Int) := by simp [IntKind.wrap, IntKind.bits, IntKind.signed]; omega
    go_enter Try.func9, Try.ntmps9
    go_wp2_with fail
    go_quiet (fail)
    by_cases h27 : 27 < q
    · have h27' : (27 : Int) < (q : Int) := by omega
      go_wp2
      (try simp only [Exit.inBlock, Exit.then]); refine bodyPost_ret (results_tmp4 rfl _ _ _) rfl ?_
      exact ⟨by rw [Hg.out, if_pos h27]; rfl, bel_drewN (Below.refl _ _) _⟩
    · have h27' : ¬ (27 : Int) < (q : Int) := by omega
      have hb8 := beh_le q (by omega)
      have hsm := beh_small q
      have hps := beh_pos q
      go_wp2_with fail
      (with_reducible refine (behind_any q _ (by omega)).mono ?_)
      rintro e w2 ⟨rfl, rfl⟩
      rw [if_neg h27] at Hg
      have Hnly := hide (Hnl.out (beh q))
      clear Hnl
      generalize beh q = y at *
      have e6 : IntKind.i64.wrap (1 + (y : Int)) = 1 + (y : Int) := IntWalk.i64_in _ (by omega)
      by_cases hlen : n < 1 + y
      · have hlen' : (n : Int) < 1 + (y : Int) := by omega
        go_wp2
        (try simp only [Exit.inBlock, Exit.then]); refine bodyPost_ret (results_tmp4 rfl _ _ _) rfl ?_
        exact ⟨by rw [Hg.out, if_pos hlen]; rfl, bel_drewN (Below.refl _ _) _⟩
      · have hlen' : ¬ (n : Int) < 1 + (y : Int) := by omega
        rw [if_neg hlen] at Hg
        by_cases h24 : q < 24
        · obtain rfl : y = 0 := hsm h24
          have hone : ¬ (1 : Int) < 1 + ((0 : Nat) : Int) := by omega
          simp only [if_pos h24] at Hg
          go_wp2_with fail
          (with_reducible refine (size_any q _ (by omega)).mono ?_)
          rintro e w2 ⟨rfl, hb2⟩
          have Hb2 := hide (((Below.refl w.heap.size w).trans (bel_drewN (Below.refl _ _) _)).trans hb2)
          clear hb2
          generalize sizeN q = z at *
          by_cases hz : 1 + 0 = z
          · have hz' : ((1 : Int) != (z : Int)) = false := by subst hz; simp
            go_wp2
            (try simp only [Exit.inBlock, Exit.then]); refine bodyPost_ret (results_tmp4 rfl _ _ _) rfl ?_
            exact ⟨by rw [Hg.out, if_neg (by omega)]; rfl, Hb2.out⟩
          · have hz' : ((1 : Int) != (z : Int)) = true := by simp; omega
            go_wp2
            (try simp only [Exit.inBlock, Exit.then]); refine bodyPost_ret (results_tmp4 rfl _ _ _) rfl ?_
            exact ⟨by rw [Hg.out, if_pos (by omega)]; rfl, Hb2.out⟩
        · have hy := hps (by omega)
          have hone : (1 : Int) < 1 + (y : Int) := by omega
          have e7 : IntKind.i64.wrap (1 + (y : Int) - 1) = (y : Int) := by rw [show 1 + (y : Int) - 1 = (y : Int) by omega]; exact IntWalk.i64_in _ (by omega)
          simp only [if_neg h24] at Hg
          go_wp2_with fail
          have fp := Hget.out (w.drewN nq) y (Hl.out.drewN nq)
          rw [show (min (max (y : Int) 0) 8).toNat = y by omega] at fp
          (with_reducible refine fp.mono ?_)
          clear fp
          rintro e w2 ⟨rfl, rfl⟩
          generalize num y = v at *
          have hv : v < 18446744073709551616 := by
            have h1 : 256 ^ y ≤ 256 ^ 8 := Nat.pow_le_pow_right (by decide) hb8
            have h2 : (256 : Nat) ^ 8 = 18446744073709551616 := by decide
            have := Hnly.out
            omega
          have Hv := hide hv
          clear hv
          go_wp2_with fail
          (with_reducible refine (size_any v _ Hv.out).mono ?_)
          rintro e w2 ⟨rfl, hb2⟩
          have Hb2 := hide (((Below.refl w.heap.size w).trans (bel_drewN (Below.refl _ _) _)).trans hb2)
          clear hb2
          generalize sizeN v = z at *
          by_cases hz : 1 + y = z
          · have hz' : ((1 + (y : Int)) != (z : Int)) = false := by subst hz; simp
            go_wp2
            (try simp only [Exit.inBlock, Exit.then]); refine bodyPost_ret (results_tmp4 rfl _ _ _) rfl ?_
            exact ⟨by rw [Hg.out, if_neg (by omega)]; rfl, Hb2.out⟩
          · have hz' : ((1 + (y : Int)) != (z : Int)) = true := by simp; omega
            go_wp2
            (try simp only [Exit.inBlock, Exit.then]); refine bodyPost_ret (results_tmp4 rfl _ _ _) rfl ?_
            exact ⟨by rw [Hg.out, if_pos (by omega)]; rfl, Hb2.out⟩
end Go.Proofs.Ytcllcfjlnaijoaa
