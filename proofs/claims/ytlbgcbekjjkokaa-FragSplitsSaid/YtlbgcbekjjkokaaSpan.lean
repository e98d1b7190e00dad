/-
  CONTRACTS: frag.span.
-/
import Derived.Test.YtlbgcbekjjkokaaBuck
namespace Go.Proofs.Ytlbgcbekjjkokaa
open Go.RowKit

def Bn.from_ (b : Bn) (t : Nat) : Nat := min b.p.off t
def Bn.end_ (b : Bn) (t : Nat) : Nat := b.from_ t + min b.pay.data.size (t - b.from_ t)

set_option maxRecDepth 100000 in
set_option maxHeartbeats 1000000 in
theorem span_any (b : Bn) (t : Nat) (w : World) (ht : t < 18446744073709551616) (hd : b.pay.data.size ≤ 1000000) (ho : b.p.off < 18446744073709551616) :
    Calls Try.prog 28 #[b.val, .int .u64 (t : Int)] w fun e w' => e = .returned (.tuple #[.int .u64 (b.from_ t : Int), .int .u64 (b.end_ t : Int)]) ∧ Below w.heap.size w w' := by
  have HB := hide (fun o => (Below.refl w.heap.size w).alloc (Nat.le_refl _) o)
  obtain ⟨f, hf⟩ : ∃ f, f = b.from_ t := ⟨_, rfl⟩
  obtain ⟨r, hr⟩ : ∃ r, r = min b.pay.data.size (t - f) := ⟨_, rfl⟩
  have he : b.end_ t = f + r := by unfold Bn.end_; rw [← hf, ← hr]
  rw [← hf, he]
  have hft : f ≤ t := by rw [hf]; unfold Bn.from_; omega
  have hrt : r ≤ t - f := by rw [hr]; omega
  have e1 : min (b.p.off : Int) (t : Int) = (f : Int) := by rw [hf]; unfold Bn.from_; omega
  have e2 : IntKind.u64.wrap (b.pay.data.size : Int) = (b.pay.data.size : Int) := by rw [IntKind.wrap_u64]; omega
  have e3 : IntKind.u64.wrap ((t : Int) - (f : Int)) = ((t - f : Nat) : Int) := by rw [IntKind.wrap_u64]; omega
  have e4 : min (b.pay.data.size : Int) ((t - f : Nat) : Int) = (r : Int) := by rw [hr]; omega
  have e5 : IntKind.u64.wrap ((f : Int) + (r : Int)) = ((f + r : Nat) : Int) := by rw [IntKind.wrap_u64]; omega
  clear hf hr he hft hrt ht hd ho
  rcases b with ⟨⟨fl, crc, ⟨d0, d1, d2, d3⟩, ⟨s0, s1, s2, s3⟩, ⟨r0, r1, r2, r3⟩, time, seq, life, off, tot⟩, A, n, c, bs, ⟨ty, num, fl2, crc2, data⟩⟩
  simp only [Bn.val, Bn.cells] at *
  generalize t - f = q at *
  generalize f + r = z at *
  go_enter Try.func28, Try.ntmps28
  go_upto_region 2 with fail
  go_quiet (fail)
  go_wp2
  go_ret2
  exact ⟨rfl, bel_drewN (HB.out _) _⟩

end Go.Proofs.Ytlbgcbekjjkokaa
