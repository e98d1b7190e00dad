/-
  CONTRACTS, first blocks, first part: Fragment, beyond, Whole, called, None, numbered.
-/
import Derived.Test.YtlbgcbekjjkokaaBunD
namespace Go.Proofs.Ytlbgcbekjjkokaa
open Go.RowKit

theorem fragment_any (p : Pr) (w : World) (hf : p.fl < 18446744073709551616) : Calls Try.prog 17 #[p.val] w fun e w' => e = .returned (.bool (decide (p.fl % 2 = 1))) ∧ Below w.heap.size w w' := by
  have hb := and_one p.fl hf
  rcases p with ⟨fl, crc, ⟨d0, d1, d2, d3⟩, ⟨s0, s1, s2, s3⟩, ⟨r0, r1, r2, r3⟩, time, seq, life, off, tot⟩
  simp only at hb
  simp only [Pr.val, Pr.cells]
  obtain ⟨r, hr⟩ : ∃ r, r = fl % 2 := ⟨_, rfl⟩
  have hr2 : r < 2 := by omega
  rw [← hr] at hb ⊢
  have h1 : (((r : Nat) : Int) != 0) = decide (r = 1) := by
    rcases (show r = 0 ∨ r = 1 by omega) with h | h <;> subst h <;> rfl
  clear hr
  go_enter Try.func17, Try.ntmps17
  go_wp2
  go_ret
  exact ⟨rfl, (Below.refl _ w).alloc (Nat.le_refl _) _⟩

theorem beyond_any (b : Bn) (w : World) (hd : b.pay.data.size < 18446744073709551616) (ho : b.p.off ≤ b.p.tot) (ht : b.p.tot < 18446744073709551616) :
    Calls Try.prog 18 #[b.val] w fun e w' => e = .returned (.bool (decide (b.p.tot - b.p.off < b.pay.data.size))) ∧ Below w.heap.size w w' := by
  rcases b with ⟨⟨fl, crc, ⟨d0, d1, d2, d3⟩, ⟨s0, s1, s2, s3⟩, ⟨r0, r1, r2, r3⟩, time, seq, life, off, tot⟩, A, n, c, bs, ⟨ty, num, fl2, crc2, data⟩⟩
  simp only [Bn.val, Bn.cells]
  simp only at hd ho ht
  have e1 : IntKind.u64.wrap ((tot : Int) - (off : Int)) = ((tot - off : Nat) : Int) := by rw [IntKind.wrap_u64]; omega
  have e2 : IntKind.u64.wrap (data.size : Int) = (data.size : Int) := by rw [IntKind.wrap_u64]; omega
  have e3 : decide (((tot - off : Nat) : Int) < (data.size : Int)) = decide (tot - off < data.size) := by simp only [Int.ofNat_lt]
  generalize tot - off = z at *
  clear hd ho ht
  go_enter Try.func18, Try.ntmps18
  go_wp2
  go_ret
  exact ⟨by first | rfl | exact ret_bool e3, (Below.refl _ w).alloc (Nat.le_refl _) _⟩

theorem called_any (s : ByteArray) (w : World) : Calls Try.prog 70 #[.string s] w fun e w' => e = .returned (Nm.val ⟨1, s, 0, 0⟩) ∧ Below w.heap.size w w' := by
  simp only [Nm.val, Nm.cells]
  go_enter Try.func70, Try.ntmps70
  go_wp2_with (with_reducible refine wpl_store_last w rfl 24 (.tmp 2) (.tmp 4) rfl 24 _ _ rfl rfl 4 info24 (by with_unfolding_all rfl) (by with_unfolding_all rfl) (by with_unfolding_all rfl) ?_)
  refine end_cell rfl w.heap.size _ _ _ (heap_alloc_last w _) rfl Try.underlying24 rfl 4 info24 (by rfl) ?_
  exact ⟨rfl, (Below.refl _ w).alloc (Nat.le_refl _) _⟩

theorem none_any (w : World) : Calls Try.prog 56 #[] w fun e w' => e = .returned (Nm.val ⟨1, ⟨#[]⟩, 0, 0⟩) ∧ Below w.heap.size w w' := by
  have fp := fun W => called_any ⟨#[]⟩ W
  simp only [Nm.val, Nm.cells, Int.natCast_zero] at fp ⊢
  go_enter Try.func56, Try.ntmps56
  go_wp2_with fail
  (with_reducible refine (fp _).mono ?_)
  rintro e w' ⟨rfl, hb⟩
  have hg := (hb.block w.heap.size (by simp)).trans (heap_alloc_last w _)
  have hb2 := (((Below.refl w.heap.size w).alloc (Nat.le_refl _) _).trans (hb.mono (by simp)))
  have Hb := hide hb2
  clear hb hb2 fp
  go_wp2_with (with_reducible refine wpl_store_at rfl 24 (.tmp 0) (.tmp 1) rfl w.heap.size 24 _ _ hg rfl rfl 4 info24 (by with_unfolding_all rfl) (by with_unfolding_all rfl) (by with_unfolding_all rfl) ?_)
  refine end_cell rfl w.heap.size _ _ _ (setRow_heap w' w.heap.size _ _ _ _ hg) rfl Try.underlying24 rfl 4 info24 (by rfl) ?_
  exact ⟨rfl, below_setRow Hb.out (Nat.le_refl _) _⟩

theorem numbered_any (n s : Nat) (w : World) : Calls Try.prog 72 #[.int .u64 (n : Int), .int .u64 (s : Int)] w fun e w' => e = .returned (Nm.val ⟨2, ⟨#[]⟩, n, s⟩) ∧ Below w.heap.size w w' := by
  simp only [Nm.val, Nm.cells]
  go_enter Try.func72, Try.ntmps72
  go_wp2_with (with_reducible refine wpl_store_last w rfl 24 (.tmp 3) (.tmp 6) rfl 24 _ _ rfl rfl 4 info24 (by with_unfolding_all rfl) (by with_unfolding_all rfl) (by with_unfolding_all rfl) ?_)
  refine end_cell rfl w.heap.size _ _ _ (heap_alloc_last w _) rfl Try.underlying24 rfl 4 info24 (by rfl) ?_
  exact ⟨rfl, (Below.refl _ w).alloc (Nat.le_refl _) _⟩

theorem whole_any (p : Pr) (w : World) (hf : p.fl < 18446744073709551616) : Calls Try.prog 40 #[p.val] w fun e w' => e = .returned (Pr.val { p with fl := p.fl - p.fl % 2, off := 0, tot := 0}) ∧ Below w.heap.size w w' := by
  have hb := andNot_one p.fl hf
  rcases p with ⟨fl, crc, ⟨d0, d1, d2, d3⟩, ⟨s0, s1, s2, s3⟩, ⟨r0, r1, r2, r3⟩, time, seq, life, off, tot⟩
  simp only [Pr.val, Pr.cells, Int.natCast_zero]
  simp only at hb
  go_enter Try.func40, Try.ntmps40
  have fr := fun A Z => heap_alloc2_old w (.cells A 28) (.cells Z 28)
  have fz := fun A Z => heap_alloc2_new w (.cells A 28) (.cells Z 28)
  have HB := hide (fun A Z => ((Below.refl w.heap.size w).alloc (Nat.le_refl _) (.cells A 28)).alloc (by simp) (.cells Z 28))
  have Fr := hide fr
  have Fz := hide fz
  clear fr fz
  go_wp2_with (first
    | (with_reducible refine wpl_store_field rfl 22 (.tmp 6) (.tmp 5) rfl w.heap.size 0 rfl _ rfl 28 _ (Fr.out _ _) (by simp) rfl rfl info_u64 ?_)
    | (with_reducible refine wpl_store_field rfl 22 (.tmp 7) _ rfl w.heap.size 17 rfl _ rfl 28 _ (setRow_heap _ _ _ _ _ _ (Fr.out _ _)) (by simp) rfl rfl info_u64 ?_)
    | (with_reducible refine wpl_store_field rfl 22 (.tmp 8) _ rfl w.heap.size 18 rfl _ rfl 28 _ (setRow_heap _ _ _ _ _ _ (setRow_heap _ _ _ _ _ _ (Fr.out _ _))) (by simp) rfl rfl info_u64 ?_)
    | (with_reducible refine wpl_load_at rfl 28 (.tmp 1) rfl w.heap.size 28 _ _ (setRow_heap _ _ _ _ _ _ (setRow_heap _ _ _ _ _ _ (setRow_heap _ _ _ _ _ _ (Fr.out _ _)))) rfl Try.underlying28 rfl 19 info28 (by with_unfolding_all rfl) ?_)
    | (with_reducible refine wpl_store_at rfl 28 (.tmp 2) (.tmp 9) rfl (w.heap.size + 1) 28 _ _ ((setRow_other _ _ _ _ (by omega)).trans ((setRow_other _ _ _ _ (by omega)).trans ((setRow_other _ _ _ _ (by omega)).trans (Fz.out _ _)))) rfl rfl 19 info28 (by with_unfolding_all rfl) (by with_unfolding_all rfl) (by with_unfolding_all rfl) ?_))
  refine end_cell rfl (w.heap.size + 1) _ _ _ (setRow_heap _ _ _ _ _ _ ((setRow_other _ _ _ _ (by omega)).trans ((setRow_other _ _ _ _ (by omega)).trans ((setRow_other _ _ _ _ (by omega)).trans (Fz.out _ _))))) rfl Try.underlying28 rfl 19 info28 (by rfl) ?_
  exact ⟨rfl, below_setRow (below_setRow (below_setRow (below_setRow (HB.out _ _) (by omega) _) (by omega) _) (by omega) _) (by omega) _⟩

end Go.Proofs.Ytlbgcbekjjkokaa
