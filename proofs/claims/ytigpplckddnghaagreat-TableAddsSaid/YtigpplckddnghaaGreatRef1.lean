/-
  CONTRACTS of the statements' own Bytes, Number (wagtailref01).
-/
import Derived.Test.YtigpplckddnghaaGreatBytes
import Derived.Test.YtigpplckddnghaaGreatNum
namespace Go.Proofs.YtigpplckddnghaaGreat
open Go.RowKit
set_option maxRecDepth 8000

set_option maxHeartbeats 400000 in
theorem r1bytes_any (a x : Int) (w : World) (hx0 : 0 ≤ x) (hx1 : x < 18446744073709551616) :
    Calls Tryz.prog 83 #[.int .i64 a, .int .u64 x] w fun e w' => ∃ A' c', e = .returned (.slice A' (min a 8).toNat c') ∧
      w'.ownsRow w.heap.size 5 1 (.slice A' (min a 8).toNat c') (min a 8).toNat (bys (beB (min a 8).toNat x.toNat)) ∧ Below w.heap.size w w' := by
  obtain ⟨k, hk⟩ : ∃ k, k = (min a 8).toNat := ⟨_, rfl⟩
  rw [← hk]
  have Hk := hide hk
  clear hk
  go_enter Tryz.func83, Tryz.ntmps83
  go_wp2
  go_loopw [1, 5, 6] (fun n o i wr => ∃ j d : Nat, j ≤ k ∧ i = .int .i64 (j : Int) ∧ n = .int .u64 (d : Int) ∧ d = x.toNat / 256 ^ j ∧ ∃ A c, o = .slice A j c ∧
      wr.ownsRow w.heap.size 5 1 (.slice A j c) j (bys (beB j x.toNat)) ∧ Below w.heap.size w wr) (fun _ _ i _ => (8 - intOf i).toNat)
  case atStart => exact ⟨0, x.toNat, Nat.zero_le _, rfl, by go_num, by simp, none, 0, rfl, World.ownsRow_nil _ _ _ _, Below.refl _ _⟩
  case round =>
    obtain ⟨j, d, hj, rfl, rfl, hd, A, c, rfl, ho, hb⟩ := hrel
    have Ho := hide ho
    have Hd := hide hd
    clear ho hd
    have hk8 : k ≤ 8 := by have := Hk.out; omega
    by_cases hlt : j < k
    · have h1 : (j : Int) < a := by have := Hk.out; omega
      have h2 : (j : Int) < 8 := by omega
      have hsz := hb.size
      have hd0 : 0 ≤ (d : Int) := by omega
      go_wp2_with (at_builtin; refine wpl_app _ rfl u8elems (.tmp 19) (.tmp 20) rfl w.heap.size (.slice (some ⟨wr.heap.size, 0, none⟩) 1 1) 1 _ rfl (World.ownsRow_lit wr _ 1 hsz (by decide) rfl) wr.heap.size A j c _ rfl (by rw [bys_len, beB_len]; omega) ((Lies.of_own Ho.out).alloc (Nat.le_refl _) _) (bys_one _) (by unfold maxLen; omega) (by omega) (by simp; omega) ?_; intro A1 c1 w1 hown1 hg1 hat1; have Ho1 := hide hown1; have Hb1 := hide hg1; clear hown1 hg1 hat1)
      have hdx : d < 18446744073709551616 := by rw [Hd.out]; exact Nat.lt_of_le_of_lt (Nat.div_le_self _ _) (by omega)
      have hb1 : Below w.heap.size w w1 := (hb.alloc hsz _).grown Hb1.out (by simp; omega) (fun g hg => by simp [Value.ownBlock] at hg; omega)
      have e2 : (d : Int) % 256 = ((UInt8.ofNat d).toNat : Int) := by rw [← u8_wrap_nat]; simp [IntKind.wrap, IntKind.bits, IntKind.signed]
      refine ⟨⟨j + 1, d / 256, by omega, by go_num, ?_, by rw [Hd.out, Nat.div_div_eq_div_mul, Nat.pow_succ], A1, c1, by rw [Nat.add_comm], ?_, hb1⟩, by simp [intOf]; omega⟩
      · simp [IntKind.wrap, IntKind.bits, IntKind.signed]; omega
      · have h3 := Ho1.out
        rw [e2, Nat.add_comm 1 j] at h3
        rw [beB, ← Hd.out]
        exact h3
    · have hjk : j = k := by omega
      subst hjk
      by_cases ha : (j : Int) < a
      · have h8 : ¬ (j : Int) < 8 := by have := Hk.out; omega
        go_wp2
        go_ret
        exact ⟨A, c, rfl, Ho.out, hb⟩
      · go_wp2
        go_ret
        exact ⟨A, c, rfl, Ho.out, hb⟩

theorem bytes_nat (k : Nat) (x : Int) (w : World) (hk : k ≤ 8) (hx0 : 0 ≤ x) (hx1 : x < 18446744073709551616) :
    Calls Tryz.prog 83 #[.int .i64 (k : Int), .int .u64 x] w fun e w' => ∃ A' c', e = .returned (.slice A' k c') ∧ w'.ownsRow w.heap.size 5 1 (.slice A' k c') k (bys (beB k x.toNat)) ∧ Below w.heap.size w w' := by
  have := r1bytes_any k x w hx0 hx1
  rwa [show (min (k : Int) 8).toNat = k by omega] at this

theorem bytes_8 (x : Int) (w : World) (hx0 : 0 ≤ x) (hx1 : x < 18446744073709551616) :
    Calls Tryz.prog 83 #[.int .i64 8, .int .u64 x] w fun e w' => ∃ A' c', e = .returned (.slice A' 8 c') ∧ w'.ownsRow w.heap.size 5 1 (.slice A' 8 c') 8 (bys (beB 8 x.toNat)) ∧ Below w.heap.size w w' :=
  r1bytes_any 8 x w hx0 hx1

/-- Number: of bytes that lie somewhere; it looks from a place within, or at the end. -/
theorem number_any (A : Option Addr) (n c B : Nat) (l : List UInt8) (p a : Int) (w : World) (h : Lies w B A (bys l)) (hn : n = l.length) (hbig : n ≤ 140737488350000) (hp0 : -9223372036854775808 ≤ p) (hp1 : p ≤ 9223372036854775807) :
    Calls Tryz.prog 114 #[.slice A n c, .int .i64 p, .int .i64 a] w fun e w' => e = .returned (.int .u64 ((if 0 ≤ p ∧ p ≤ n then numAt l p (min a 8).toNat else 0 : Nat) : Int)) ∧ w = w' := by
  obtain ⟨k, hk⟩ : ∃ k, k = (min a 8).toNat := ⟨_, rfl⟩
  rw [← hk]
  have Hk := hide hk
  have Hn := hide hn
  have Hl := hide h
  clear hk hn h
  by_cases hin : 0 ≤ p ∧ p ≤ n
  · rw [if_pos hin]
    obtain ⟨q, rfl⟩ := Int.eq_ofNat_of_zero_le hin.1
    have hq : q ≤ n := by omega
    go_enter Tryz.func114, Tryz.ntmps114
    go_wp2
    go_loop [7, 8] (fun s i => ∃ j d : Nat, j ≤ k ∧ i = .int .i64 (j : Int) ∧ s = .int .u64 (d : Int) ∧ d = numAt l q j) (fun _ i => (8 - intOf i).toNat)
    case atStart => exact ⟨0, 0, Nat.zero_le _, rfl, rfl, rfl⟩
    case round =>
      obtain ⟨j, d, hj, rfl, rfl, hd⟩ := hrel
      have Hd := hide hd
      clear hd
      have hk8 : k ≤ 8 := by have := Hk.out; omega
      by_cases hlt : j < k
      · have h1 : (j : Int) < a := by have := Hk.out; omega
        have h2 : (j : Int) < 8 := by omega
        have hd56 : Hid (d < 72057594037927936) := by have := numAt_lt56 l q j (by omega); rw [← Hd.out] at this; exact this
        by_cases hb : q + j < n
        · obtain ⟨ad, rfl, _, hc⟩ := Hl.out.byte (k := q + j) (by have := Hn.out; omega)
          have hlt' : (q : Int) + (j : Int) < n := by omega
          have hbt := byteAt_lt l ((q : Int) + (j : Int))
          have e1 : byteAt l ((q : Int) + (j : Int)) = (l.getD (q + j) 0).toNat := by rw [show (q : Int) + (j : Int) = ((q + j : Nat) : Int) by omega, byteAt_nat]
          rw [e1] at hbt
          have He := hide e1
          clear e1
          generalize hbv : (l.getD (q + j) 0).toNat = bv at *
          clear hbv
          go_wp2
          refine ⟨⟨j + 1, d * 256 + bv, by omega, by go_num, ?_, by rw [numAt, ← Hd.out, He.out]⟩, by simp [intOf]; omega⟩
          rw [u64_more _ _ hd56.out hbt]
        · have hlt' : ¬ (q : Int) + (j : Int) < n := by omega
          have e1 : byteAt l ((q : Int) + (j : Int)) = 0 := by
            rw [show (q : Int) + (j : Int) = ((q + j : Nat) : Int) by omega, byteAt_nat, List.getD_eq_getElem?_getD, List.getElem?_eq_none (by have := Hn.out; omega)]; rfl
          have He := hide e1
          clear e1
          go_wp2
          refine ⟨⟨j + 1, d * 256, by omega, by go_num, ?_, by rw [numAt, ← Hd.out, He.out, Nat.add_zero]⟩, by simp [intOf]; omega⟩
          rw [u64_more0 _ hd56.out]
      · have hjk : j = k := by omega
        subst hjk
        by_cases ha : (j : Int) < a
        · have h8 : ¬ (j : Int) < 8 := by have := Hk.out; omega
          go_wp2
          go_ret
          exact ⟨by rw [← Hd.out]; rfl, rfl⟩
        · go_wp2
          go_ret
          exact ⟨by rw [← Hd.out]; rfl, rfl⟩
  · rw [if_neg hin]
    have hin' : ¬ (0 ≤ p ∧ p ≤ (n : Int)) := hin
    go_enter Tryz.func114, Tryz.ntmps114
    go_wp2
    go_loop [7, 8] (fun s i => ∃ j : Nat, j ≤ k ∧ i = .int .i64 (j : Int) ∧ s = .int .u64 0) (fun _ i => (8 - intOf i).toNat)
    case atStart => exact ⟨0, Nat.zero_le _, rfl, rfl⟩
    case round =>
      obtain ⟨j, hj, rfl, rfl⟩ := hrel
      have hk8 : k ≤ 8 := by have := Hk.out; omega
      by_cases hlt : j < k
      · have h1 : (j : Int) < a := by have := Hk.out; omega
        have h2 : (j : Int) < 8 := by omega
        by_cases hp : 0 ≤ p
        all_goals
          first
          | have hp2 : ¬ p ≤ (n : Int) := by omega
          | skip
          go_wp2
          refine ⟨⟨j + 1, by omega, by go_num, rfl⟩, by simp [intOf]; omega⟩
      · have hjk : j = k := by omega
        subst hjk
        by_cases ha : (j : Int) < a
        · have h8 : ¬ (j : Int) < 8 := by have := Hk.out; omega
          go_wp2
          go_ret
          exact ⟨rfl, rfl⟩
        · go_wp2
          go_ret
          exact ⟨rfl, rfl⟩

end Go.Proofs.YtigpplckddnghaaGreat
