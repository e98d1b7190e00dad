/-
  CONTRACT of wagtailref02.Covers.
-/
import Derived.Test.YtppecnimpnlipaaBit1
namespace Go.Proofs.Ytppecnimpnlipaa
open Go.RowKit

theorem covers2_any (A A2 : Option Addr) (n c n2 c2 B : Nat) (a b : List UInt8) (w : World) (h : Lies w B A (bys a)) (hn : n = a.length) (hbig : n ≤ 1000000000000) (h2 : Lies w B A2 (bys b)) (hn2 : n2 = b.length) (hbig2 : n2 ≤ 1000000000000) :
    Calls Try.prog 35 #[.slice A n c, .slice A2 n2 c2] w fun e w' => e = .returned (.bool (covB a b)) ∧ w = w' := by
  by_cases hl : n = n2
  · subst hl
    have Hn := hide hn
    have Hl := hide h
    have Hn2 := hide hn2
    have Hl2 := hide h2
    clear hn h hn2 h2
    go_enter Try.func35, Try.ntmps35
    go_wp2
    go_loop [5] (fun i => ∃ k : Nat, k ≤ 8 * n ∧ i = .int .i64 (k : Int) ∧ Hid (∀ j, j < k → bitAt b j ≤ bitAt a j)) (fun i => 8 * n - (intOf i).toNat)
    case atStart => exact ⟨0, Nat.zero_le _, rfl, hide (fun j hj => by omega)⟩
    case round =>
      obtain ⟨k, hk, rfl, hal⟩ := hrel
      by_cases hlt : k < 8 * n
      · have h1 : (k : Int) < 8 * (n : Int) := by omega
        go_wp2_with fail
        refine (bit_any A n c B a k _ Hl.out Hn.out hbig hlt).mono ?_
        rintro e w2 ⟨rfl, rfl⟩
        have ha := bitAt_two a k
        have hb := bitAt_two b k
        obtain ⟨x, hx⟩ : ∃ x, x = bitAt a k := ⟨_, rfl⟩
        obtain ⟨y, hy⟩ : ∃ y, y = bitAt b k := ⟨_, rfl⟩
        rw [← hx] at ha ⊢
        rw [← hy] at hb
        have Hx := hide hx
        have Hy := hide hy
        clear hx hy
        go_wp2_with fail
        refine (bit_any A2 n c2 B b k _ Hl2.out Hn2.out hbig2 hlt).mono ?_
        rintro e w2 ⟨he, rfl⟩
        rw [← Hy.out] at he
        subst he
        by_cases hxy : x < y
        · have h2 : (x : Int) < (y : Int) := by omega
          go_wp2
          go_ret
          have hno : covB a b = false := by
            rw [← Bool.not_eq_true, covB_iff]
            intro hh
            have := hh.2 k (by have := Hn2.out; omega)
            have := Hx.out; have := Hy.out; omega
          rw [hno]
          exact ⟨rfl, rfl⟩
        · have h2 : ¬ (x : Int) < (y : Int) := by omega
          go_wp2
          go_round
          case rel =>
            refine ⟨k + 1, by omega, by go_num, hide (fun j hj => ?_)⟩
            rcases Nat.lt_or_ge j k with h4 | h4
            · exact hal.out j h4
            · obtain rfl : j = k := by omega
              have := Hx.out; have := Hy.out; omega
          case measure => simp [intOf]; omega
      · obtain rfl : k = 8 * n := by omega
        go_wp2
        go_ret
        have hyes : covB a b = true := by
          rw [covB_iff]
          exact ⟨by have := Hn.out; have := Hn2.out; omega, fun i hi => hal.out i (by have := Hn2.out; omega)⟩
        rw [hyes]
        exact ⟨rfl, rfl⟩
  · have hno : covB a b = false := by
      rw [← Bool.not_eq_true, covB_iff]
      intro hh
      omega
    have hl' : ¬ (n : Int) = (n2 : Int) := by omega
    rw [hno]
    clear hn hn2 hno hl h h2
    go_enter Try.func35, Try.ntmps35
    go_wp2
    go_ret
    exact ⟨rfl, rfl⟩

end Go.Proofs.Ytppecnimpnlipaa
