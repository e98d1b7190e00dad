/-
  CONTRACT of wagtailref02.Bit.
-/
import Derived.Test.YtppecnimpnlipaaClone
import Derived.Test.YtppecnimpnlipaaBits
import Derived.Deep.QuietTactic
import Derived.BigQuiet
namespace Go.Proofs.Ytppecnimpnlipaa
open Go.RowKit

theorem bit_any (A : Option Addr) (n c B : Nat) (l : List UInt8) (i : Nat) (w : World) (h : Lies w B A (bys l)) (hn : n = l.length) (hbig : n ≤ 1000000000000) (hi : i < 8 * n) :
    Calls Try.prog 67 #[.slice A n c, .int .i64 (i : Int)] w fun e w' => e = .returned (.int .i64 (bitAt l i : Nat)) ∧ w = w' := by
  obtain ⟨q, r, hq, hr, hqn, hr8⟩ : ∃ q r : Nat, q = i / 8 ∧ r = i % 8 ∧ q < n ∧ r < 8 := ⟨i / 8, i % 8, rfl, rfl, by omega, by omega⟩
  have e1 : (i : Int) / 8 = (q : Int) := by omega
  have e2 : (i : Int) % 8 = (r : Int) := by omega
  have e3 : bitAt l i = (l.getD q 0).toNat / 2 ^ r % 2 := by unfold bitAt bitN; rw [← hq, ← hr]
  rw [e3]
  clear e3
  obtain ⟨z, hz⟩ : ∃ z, z = (l.getD q 0).toNat / 2 ^ r % 2 := ⟨_, rfl⟩
  rw [← hz]
  obtain ⟨a, rfl, _, hc⟩ := h.byte (k := q) (by omega)
  have hb := (l.getD q 0).toNat_lt
  generalize (l.getD q 0).toNat = x at *
  have Hz := hide hz
  clear h hn hq hr hz
  have hi' : i < 8000000000000 := by omega
  clear hi
  go_enter Try.func67, Try.ntmps67
  go_wp2
  clear hc e1
  go_loop [5, 6] (fun s i => ∃ k : Nat, k ≤ r ∧ i = .int .i64 (k : Int) ∧ s = .int .i64 ((x / 2 ^ k : Nat) : Int)) (fun _ i => r - (intOf i).toNat)
  case atStart => exact ⟨0, Nat.zero_le _, rfl, by simp⟩
  case round =>
    obtain ⟨k, hk, rfl, rfl⟩ := hrel
    obtain ⟨y, hy⟩ : ∃ y, y = x / 2 ^ k := ⟨_, rfl⟩
    have hy8 : y < 256 := by rw [hy]; exact Nat.lt_of_le_of_lt (Nat.div_le_self _ _) hb
    rw [← hy]
    have Hy := hide hy
    clear hy
    by_cases hlt : k < r
    · have h1 : (k : Int) < (r : Int) := by omega
      go_wp2
      go_round
      case rel => exact ⟨k + 1, by omega, by go_num, by rw [Nat.pow_succ, ← Nat.div_div_eq_div_mul, ← Hy.out]; first | rfl | go_num⟩
      case measure => simp [intOf]; omega
    · obtain rfl : k = r := by omega
      go_wp2
      go_ret
      exact ⟨ret_int (by rw [Hz.out, ← Hy.out]; omega), rfl⟩

end Go.Proofs.Ytppecnimpnlipaa
