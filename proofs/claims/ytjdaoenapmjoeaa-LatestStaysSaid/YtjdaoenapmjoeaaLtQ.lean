/-
  LAYER 19, THE REFERENCE: Same, of copies that are the same.
-/
import Derived.Test.YtjdaoenapmjoeaaLtH
import Derived.Test.YtjdaoenapmjoeaaLtO
namespace Go.Proofs.Ytjdaoenapmjoeaa
open Go.RowKit
set_option maxRecDepth 8000

theorem pl_len (q : Int × Int) : ([Value.int .i64 q.1, .int .i64 q.2]).length = 2 := rfl
set_option maxHeartbeats 4000000 in
theorem same19_same (A1 A2 : Option Addr) (n c1 c2 B : Nat) (lp kd : Int) (l : List (Int × Int)) (w : World) (h1 : Lies w B A1 (pairCells l)) (h2 : Lies w B A2 (pairCells l)) (hn : n = l.length) (hbig : n ≤ 1000000) (hBw : B ≤ w.heap.size) :
    Calls Try.prog 10 #[.agg #[.int .i64 lp, .int .i64 kd, .slice A1 n c1], .agg #[.int .i64 lp, .int .i64 kd, .slice A2 n c2]] w fun e w' => e = .returned (.bool true) ∧ Below w.heap.size w w' := by
  have hx : (w.alloc (.cells #[.int .i64 lp, .int .i64 kd, .slice A1 n c1] 42)).heap[w.heap.size]? = some (.cells #[.int .i64 lp, .int .i64 kd, .slice A1 n c1] 42 (0, 0)) := heap_alloc_new w _
  have hy := heap_alloc_new (w.alloc (.cells #[.int .i64 lp, .int .i64 kd, .slice A1 n c1] 42)) (.cells #[.int .i64 lp, .int .i64 kd, .slice A2 n c2] 42)
  have hx2 := (Below.heap_alloc (w.alloc (.cells #[.int .i64 lp, .int .i64 kd, .slice A1 n c1] 42)) (.cells #[.int .i64 lp, .int .i64 kd, .slice A2 n c2] 42) w.heap.size (by simp)).trans hx
  rw [show (w.alloc (.cells #[.int .i64 lp, .int .i64 kd, .slice A1 n c1] 42)).heap.size = w.heap.size + 1 by simp] at hy
  have b1 := (Below.refl w.heap.size w).alloc (Nat.le_refl _) (.cells #[.int .i64 lp, .int .i64 kd, .slice A1 n c1] 42)
  have b2 := b1.alloc b1.size (.cells #[.int .i64 lp, .int .i64 kd, .slice A2 n c2] 42)
  have HB2 := hide b2
  have X := hide (And.intro (box3 hx2) (And.intro (box3 hy) (And.intro (Array.getElem?_eq_some_iff.1 hx2).1 (Array.getElem?_eq_some_iff.1 hy).1)))
  have H1 := hide h1
  have H2 := hide h2
  have Hn := hide hn
  have Hbig := hide hbig
  have HBw := hide hBw
  clear h1 h2 hn hx hy hx2 b1 b2 hbig hBw
  go_enter Try.func10, Try.ntmps10
  go_upto_region 1 with fail
  generalize (w.alloc (.cells #[.int .i64 lp, .int .i64 kd, .slice A1 n c1] 42)).alloc (.cells #[.int .i64 lp, .int .i64 kd, .slice A2 n c2] 42) = w2 at *
  obtain ⟨⟨x0, x1, x2, _, _, _⟩, ⟨y0, y1, y2, _, _, _⟩, _, _⟩ := X.out
  have g1 : (lp == lp) = true := beq_self_eq_true lp
  have g2 : (kd == kd) = true := beq_self_eq_true kd
  go_wp2
  clear x0 x1 x2 y0 y1 y2 g1 g2
  go_loopw [5] (fun i wr => ∃ j : Nat, j ≤ n ∧ i = .int .i64 (j : Int) ∧ Hid (Below w.heap.size w wr) ∧ Hid (Below w2.heap.size w2 wr)) (fun i _ => n - (intOf i).toNat)
  case atStart => exact ⟨0, Nat.zero_le _, rfl, HB2, hide (Below.refl _ _)⟩
  case round =>
    obtain ⟨j, hj, rfl, HW, HW2⟩ := hrel
    obtain ⟨⟨x0, x1, x2, _, _, _⟩, ⟨y0, y1, y2, _, _, _⟩, hs1, hs2⟩ := X.out
    have X2 : wr.cell? ⟨w.heap.size, 2, none⟩ = _ := (HW2.out.cell (p := ⟨w.heap.size, 2, none⟩) hs1).trans x2
    have Y2 : wr.cell? ⟨w.heap.size + 1, 2, none⟩ = _ := (HW2.out.cell (p := ⟨w.heap.size + 1, 2, none⟩) hs2).trans y2
    clear x0 x1 x2 y0 y1 y2 hs1 hs2
    by_cases hlt : j < n
    · have hlt' : (j : Int) < (n : Int) := by omega
      have hjl : j < l.length := by rw [← Hn.out]; exact hlt
      obtain ⟨a, rfl, _, ca⟩ := (H1.out.below (HW.out.mono HBw.out)).elem (f := fun q : Int × Int => [Value.int .i64 q.1, .int .i64 q.2]) pl_len hjl (by decide)
      obtain ⟨b, rfl, _, cb⟩ := (H2.out.below (HW.out.mono HBw.out)).elem (f := fun q : Int × Int => [Value.int .i64 q.1, .int .i64 q.2]) pl_len hjl (by decide)
      have e7 : wrap64 ((j : Int) + 1) = ((j + 1 : Nat) : Int) := by have := Hbig.out; unfold wrap64; omega
      generalize l[j] = f at *
      clear hjl
      rcases f with ⟨fx, fy⟩
      have a0 : wr.cell? (a.add (j * 2)) = _ := ca 0 _ rfl
      have a1 : wr.cell? ⟨(a.add (j * 2)).block, (a.add (j * 2)).off + 1, none⟩ = _ := fo_at (ca 1 _ rfl)
      have b0 : wr.cell? (b.add (j * 2)) = _ := cb 0 _ rfl
      have b1 : wr.cell? ⟨(b.add (j * 2)).block, (b.add (j * 2)).off + 1, none⟩ = _ := fo_at (cb 1 _ rfl)
      clear ca cb
      dsimp only at *
      go_upto_region 6 with fail
      go_quiet (fail)
      go_wp2
      go_roundw
      case rel => first | exact ⟨j + 1, hlt, congrArg (Value.int .i64) e7, hide (HW.out.trans ⟨rfl, rfl, rfl, Nat.le_refl _, fun _ _ => rfl⟩), hide (HW2.out.trans ⟨rfl, rfl, rfl, Nat.le_refl _, fun _ _ => rfl⟩)⟩ | exact ⟨j + 1, hlt, congrArg (Value.int .i64) (Int.natCast_succ j).symm, hide (HW.out.trans ⟨rfl, rfl, rfl, Nat.le_refl _, fun _ _ => rfl⟩), hide (HW2.out.trans ⟨rfl, rfl, rfl, Nat.le_refl _, fun _ _ => rfl⟩)⟩
      case measure => first | exact measT hlt | exact measT2 e7 hlt | exact measT2 (Int.natCast_succ j).symm hlt
    · obtain rfl : j = n := by omega
      go_wp2
      go_ret
      exact ⟨rfl, HW.out⟩
end Go.Proofs.Ytjdaoenapmjoeaa
