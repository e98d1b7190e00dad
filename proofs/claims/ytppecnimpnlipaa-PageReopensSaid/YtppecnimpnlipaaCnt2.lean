/-
  CONTRACT of wagtailref02.Count.
-/
import Derived.Test.YtppecnimpnlipaaBit1
namespace Go.Proofs.Ytppecnimpnlipaa
open Go.RowKit

theorem count2_any (A : Option Addr) (n c B : Nat) (l : List UInt8) (w : World) (h : Lies w B A (bys l)) (hn : n = l.length) (hbig : n ≤ 1000000000000) :
    Calls Try.prog 39 #[.slice A n c] w fun e w' => e = .returned (.int .i64 (zc l (8 * l.length) : Nat)) ∧ w = w' := by
  rw [← hn]
  have Hn := hide hn
  have Hl := hide h
  clear hn h
  go_enter Try.func39, Try.ntmps39
  go_wp2
  go_loop [3, 4] (fun s i => ∃ k : Nat, k ≤ 8 * n ∧ i = .int .i64 (k : Int) ∧ s = .int .i64 (zc l k : Nat)) (fun _ i => 8 * n - (intOf i).toNat)
  case atStart => exact ⟨0, Nat.zero_le _, rfl, rfl⟩
  case round =>
    obtain ⟨k, hk, rfl, rfl⟩ := hrel
    have hz := zc_le l k
    have hzs : zc l (k + 1) = zc l k + (1 - bitAt l k) := rfl
    have Hzs := hide hzs
    clear hzs
    by_cases hlt : k < 8 * n
    · have h1 : (k : Int) < 8 * (n : Int) := by omega
      go_wp2_with fail
      refine (bit_any A n c B l k _ Hl.out Hn.out hbig hlt).mono ?_
      rintro e w2 ⟨rfl, rfl⟩
      rcases bitAt_two l k with hb | hb
      all_goals
        rw [hb]
        have Hb := hide hb
        clear hb
        go_wp2
        go_round
        case rel => exact ⟨k + 1, by omega, by go_num, by rw [Hzs.out, Hb.out]; first | rfl | go_num⟩
        case measure => simp [intOf]; omega
    · obtain rfl : k = 8 * n := by omega
      go_wp2
      go_ret
      exact ⟨rfl, rfl⟩

end Go.Proofs.Ytppecnimpnlipaa
