/-
  CONTRACTS of package primary: shared, Same.
-/
import Derived.Test.YtlbgcbekjjkokaaOwn
import Derived.Test.YtlbgcbekjjkokaaFlow
namespace Go.Proofs.Ytlbgcbekjjkokaa
open Go.RowKit

def Nm.zero : Nm := ⟨0, ⟨#[]⟩, 0, 0⟩
def Pr.shared (p : Pr) : Pr := { fl := p.fl % 2, crc := 0, dst := Nm.zero, src := p.src, rep := Nm.zero, time := p.time, seq := p.seq, life := 0, off := 0, tot := p.tot }
def Pr.sameB (a b : Pr) : Bool := a.shared.eqB b.shared
theorem Pr.sameB_iff (a b : Pr) : a.sameB b = true ↔ a.fl % 2 = b.fl % 2 ∧ a.src = b.src ∧ a.time = b.time ∧ a.seq = b.seq ∧ a.tot = b.tot := by
  unfold Pr.sameB
  rw [Pr.eqB_iff]
  unfold Pr.shared
  simp only [Pr.mk.injEq, true_and, and_true]

set_option maxRecDepth 100000 in
set_option maxHeartbeats 1000000 in
theorem shared_any (p : Pr) (w : World) (hf : p.fl < 18446744073709551616) : Calls Try.prog 50 #[p.val] w fun e w' => e = .returned p.shared.val ∧ Below w.heap.size w w' := by
  have hb := and_one p.fl hf
  rcases p with ⟨fl, crc, ⟨d0, d1, d2, d3⟩, ⟨s0, s1, s2, s3⟩, ⟨r0, r1, r2, r3⟩, time, seq, life, off, tot⟩
  simp only [Pr.val, Pr.cells, Pr.shared, Nm.zero, Int.natCast_zero]
  simp only at hb
  have HB := hide (fun A Z => ((Below.refl w.heap.size w).alloc (Nat.le_refl _) (.cells A 28)).alloc (by simp) (.cells Z 28))
  have Fz := hide (fun A Z => heap_alloc2_new w (.cells A 28) (.cells Z 28))
  have hz : ∀ A, (w.alloc (.cells A 28)).heap.size = w.heap.size + 1 := fun A => by simp
  have Hz := hide hz
  clear hf hz
  go_enter Try.func50, Try.ntmps50
  go_wp2_with (with_reducible refine wpl_store_at rfl 28 (.tmp 2) (.tmp 12) rfl (w.heap.size + 1) 28 _ _ (Fz.out _ _) rfl rfl 19 info28 (by with_unfolding_all rfl) (by with_unfolding_all rfl) (by with_unfolding_all rfl) ?_)
  refine end_cell rfl (w.heap.size + 1) _ _ _ (setRow_heap _ _ _ _ _ _ (Fz.out _ _)) rfl Try.underlying28 rfl 19 info28 (by rfl) ?_
  exact ⟨rfl, below_setRow (HB.out _ _) (by omega) _⟩

set_option maxRecDepth 100000 in
set_option maxHeartbeats 1000000 in
theorem same_any (a b : Pr) (w : World) (ha : a.fl < 18446744073709551616) (hb : b.fl < 18446744073709551616) : Calls Try.prog 38 #[a.val, b.val] w fun e w' => e = .returned (.bool (a.sameB b)) ∧ Below w.heap.size w w' := by
  have FA := hide (fun W => shared_any a W ha)
  have FB := hide (fun W => shared_any b W hb)
  have Q := hide (fun W => eq28 a.shared b.shared W)
  have hm : Try.prog.eqGuardType Try.prog.depth 28 = false := by kernel_rfl
  have G9 := hide (fun W => run_eqGuard_agg (P := Try.prog) W .eql 28 (.tmp 6) (.tmp 8) a.shared.cells.toArray b.shared.cells.toArray hm)
  have hs1 : (w.alloc (.cells a.cells.toArray 28)).heap.size = w.heap.size + 1 := by simp
  have hs2 : ((w.alloc (.cells a.cells.toArray 28)).alloc (.cells b.cells.toArray 28)).heap.size = w.heap.size + 2 := by simp
  have RA := hide (fun W (hb : Below ((w.alloc (.cells a.cells.toArray 28)).alloc (.cells b.cells.toArray 28)).heap.size ((w.alloc (.cells a.cells.toArray 28)).alloc (.cells b.cells.toArray 28)) W) =>
    range_below (range_alloc (range_new w a.cells 28 (0, 0)) (by omega) _) hb (by omega))
  have RB := hide (fun W (hb : Below ((w.alloc (.cells a.cells.toArray 28)).alloc (.cells b.cells.toArray 28)).heap.size ((w.alloc (.cells a.cells.toArray 28)).alloc (.cells b.cells.toArray 28)) W) =>
    (show W.rangeAt (w.heap.size + 1) 0 b.cells from by have := range_below (range_new (w.alloc (.cells a.cells.toArray 28)) b.cells 28 (0, 0)) hb (by omega); rwa [hs1] at this))
  have Hb1 := hide (((Below.refl w.heap.size w).alloc (Nat.le_refl _) (.cells a.cells.toArray 28)).alloc (by omega) (.cells b.cells.toArray 28))
  unfold Pr.sameB
  simp only [Pr.val] at FA FB Q ⊢
  clear ha hb hs1 hs2 hm
  go_enter Try.func38, Try.ntmps38
  go_upto_region 1 with fail
  refine wp_region_flow (by kernel_rfl) (fun d => if d = 4 then is (.bool (a.shared.eqB b.shared)) else List.getD [is (.agg a.cells.toArray), is (.agg a.shared.cells.toArray), is (.agg b.cells.toArray), is (.agg b.shared.cells.toArray), is (.bool (a.shared.eqB b.shared))] (d - 5) (fun _ _ => True)) 4 (by kernel_rfl) (by kernel_rfl) ?_ ?_
  · refine And.intro ?_ (And.intro ?_ (And.intro ?_ (And.intro ?_ (And.intro ?_ (And.intro ?_ trivial)))))
    · intro a9 w9 hb h
      have e2 : a9.tmps.getD 2 undef = .pointer (some ⟨w.heap.size, 0, none⟩) := sb h 2 (by kernel_rfl) (by kernel_rfl) rfl
      exact .val (want0 rfl) rfl (exec_load_mid 28 (.tmp 2) rfl (w.heap.size) 0 (by simp [Act.eval, e2]) _ _ (RA.out w9 hb) Try.underlying28 rfl info28) (Keeps.is rfl)
    · intro a9 w9 hb h
      have e5 := (sw h 5 (by kernel_rfl) (by kernel_rfl)).eq
      exact .called (want0 rfl) rfl (by simp [Act.eval, e5, go_sem]) (belowF (FA.out w9))
    · intro a9 w9 hb h
      have e3 : a9.tmps.getD 3 undef = .pointer (some ⟨w.heap.size + 1, 0, none⟩) := sb h 3 (by kernel_rfl) (by kernel_rfl) rfl
      exact .val (want0 rfl) rfl (exec_load_mid 28 (.tmp 3) rfl (w.heap.size + 1) 0 (by simp [Act.eval, e3]) _ _ (RB.out w9 hb) Try.underlying28 rfl info28) (Keeps.is rfl)
    · intro a9 w9 hb h
      have e7 := (sw h 7 (by kernel_rfl) (by kernel_rfl)).eq
      exact .called (want0 rfl) rfl (by simp [Act.eval, e7, go_sem]) (belowF (FB.out w9))
    · intro a9 w9 hb h
      have e6 := (sw h 6 (by kernel_rfl) (by kernel_rfl)).eq
      have e8 := (sw h 8 (by kernel_rfl) (by kernel_rfl)).eq
      exact .val (want0 rfl) rfl (by simp [Act.eval, e6, e8, Q.out, G9.out, go_sem]) (Keeps.is rfl)
    · intro a9 w9 hb h
      have e9 := (sw h 9 (by kernel_rfl) (by kernel_rfl)).eq
      exact .val (want0 rfl) rfl (by simp [Act.eval, e9, go_sem]) (Keeps.is rfl)
  · intro a9 w2 hd hb hv
    have er := hv.eq
    clear hv
    simp only [Exit.then]
    go_wp2
    exact ⟨hd, _, results_tmp rfl _ _ _, by rw [er], Hb1.out.trans (hb.mono Hb1.out.size)⟩

end Go.Proofs.Ytlbgcbekjjkokaa
