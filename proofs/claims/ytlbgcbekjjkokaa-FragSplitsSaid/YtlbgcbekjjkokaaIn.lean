/-
  CONTRACTS: the reference's In (wagtailref12).
-/
import Derived.Test.YtlbgcbekjjkokaaBuck
namespace Go.Proofs.Ytlbgcbekjjkokaa
open Go.RowKit

/-- Is a byte's place in a fragment? -/
def Bn.has (b : Bn) (k : Nat) : Bool := decide (b.p.off ≤ k ∧ k - b.p.off < b.pay.data.size)
theorem in_any (b : Bn) (k : Nat) (w : World) (hk : k < 18446744073709551616) (hd : b.pay.data.size < 18446744073709551616) : Calls Try.prog 26 #[b.val, .int .u64 (k : Int)] w fun e w' => e = .returned (.bool (b.has k)) ∧ Below w.heap.size w w' := by
  have Hb := hide (fun o => (Below.refl w.heap.size w).alloc (Nat.le_refl _) o)
  unfold Bn.has
  rcases b with ⟨⟨fl, crc, ⟨d0, d1, d2, d3⟩, ⟨s0, s1, s2, s3⟩, ⟨r0, r1, r2, r3⟩, time, seq, life, off, tot⟩, A, n, c, bs, ⟨ty, num, fl2, crc2, data⟩⟩
  simp only [Bn.val, Bn.cells]
  simp only at hd
  by_cases h1 : off ≤ k
  · have h1' : (off : Int) ≤ (k : Int) := by omega
    have e1 : IntKind.u64.wrap ((k : Int) - (off : Int)) = ((k - off : Nat) : Int) := by rw [IntKind.wrap_u64]; omega
    have e2 : IntKind.u64.wrap (data.size : Int) = (data.size : Int) := by rw [IntKind.wrap_u64]; omega
    by_cases h2 : k - off < data.size
    · rw [decide_eq_true (show off ≤ k ∧ k - off < data.size from ⟨h1, h2⟩)]
      have h2' : ((k - off : Nat) : Int) < (data.size : Int) := by omega
      generalize k - off = q at *
      clear hd hk h1 h2
      go_enter Try.func26, Try.ntmps26
      go_wp2
      go_ret
      exact ⟨rfl, Hb.out _⟩
    · rw [decide_eq_false (show ¬ (off ≤ k ∧ k - off < data.size) from fun h => h2 h.2)]
      have h2' : ¬ ((k - off : Nat) : Int) < (data.size : Int) := by omega
      generalize k - off = q at *
      clear hd hk h1 h2
      go_enter Try.func26, Try.ntmps26
      go_wp2
      go_ret
      exact ⟨rfl, Hb.out _⟩
  · rw [decide_eq_false (show ¬ (off ≤ k ∧ k - off < data.size) from fun h => h1 h.1)]
    have h1' : ¬ (off : Int) ≤ (k : Int) := by omega
    clear hd hk h1
    go_enter Try.func26, Try.ntmps26
    go_wp2
    go_ret
    exact ⟨rfl, Hb.out _⟩

end Go.Proofs.Ytlbgcbekjjkokaa
