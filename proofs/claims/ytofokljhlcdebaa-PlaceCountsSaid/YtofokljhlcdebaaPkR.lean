/-
  LAYER 20, THE STATEMENTS' OWN: Places of the same lists, at, few.
-/
import Derived.Test.YtofokljhlcdebaaPkQ
namespace Go.Proofs.Ytofokljhlcdebaa
open Go.RowKit Go.Sort
set_option maxRecDepth 8000

theorem pk_at {X : Addr} {W : World} {v : Value} {j : Nat} (h : W.cell? (X.add (j + 1)) = some v) : W.cell? ⟨X.block, X.off + (j + 1), none⟩ = some v := by simpa [Addr.add] using h
set_option maxHeartbeats 4000000 in
theorem places20_same (A1 A2 : Option Addr) (n c1 c2 B : Nat) (l : List Pl2) (w : World) (h1 : Lies w B A1 (rowQ l)) (h2 : Lies w B A2 (rowQ l)) (hn : n = l.length) (hbig : n ≤ 1000000) (hBw : B ≤ w.heap.size) :
    Calls Try.prog 16 #[.slice A1 n c1, .slice A2 n c2] w fun e w' => e = .returned (.bool true) ∧ Below w.heap.size w w' := by
  have H1 := hide h1
  have H2 := hide h2
  have Hn := hide hn
  have Hbig := hide hbig
  have HBw := hide hBw
  clear h1 h2 hn hbig hBw
  go_enter Try.func16, Try.ntmps16
  go_wp2
  go_loopw [5] (fun i wr => ∃ j : Nat, j ≤ n ∧ i = .int .i64 (j : Int) ∧ Hid (Below w.heap.size w wr)) (fun i _ => n - (intOf i).toNat)
  case atStart => exact ⟨0, Nat.zero_le _, rfl, hide (Below.refl _ _)⟩
  case round =>
    obtain ⟨j, hj, rfl, HW⟩ := hrel
    by_cases hlt : j < n
    · have hlt' : (j : Int) < (n : Int) := by omega
      have hjl : j < l.length := by rw [← Hn.out]; exact hlt
      obtain ⟨a, rfl, _, ca⟩ := (H1.out.below (HW.out.mono HBw.out)).elem (f := plc) plc_len hjl (by decide)
      obtain ⟨b, rfl, _, cb⟩ := (H2.out.below (HW.out.mono HBw.out)).elem (f := plc) plc_len hjl (by decide)
      have e7 : wrap64 ((j : Int) + 1) = ((j + 1 : Nat) : Int) := by have := Hbig.out; unfold wrap64; omega
      generalize l[j] = f at *
      clear hjl
      rcases f with ⟨fx, fy⟩
      have a0 : wr.cell? (a.add (j * 2)) = some (.int .i64 fx) := ca 0 _ rfl
      have a1 : wr.cell? ⟨(a.add (j * 2)).block, (a.add (j * 2)).off + 1, none⟩ = some (.int .i64 fy) := pk_at (ca 1 _ rfl)
      have b0 : wr.cell? (b.add (j * 2)) = some (.int .i64 fx) := cb 0 _ rfl
      have b1 : wr.cell? ⟨(b.add (j * 2)).block, (b.add (j * 2)).off + 1, none⟩ = some (.int .i64 fy) := pk_at (cb 1 _ rfl)
      clear ca cb
      go_upto_region 6 with fail
      go_quiet (fail)
      go_wp2
      go_roundw
      case rel => first | exact ⟨j + 1, hlt, congrArg (Value.int .i64) e7, hide (HW.out.trans ⟨rfl, rfl, rfl, Nat.le_refl _, fun _ _ => rfl⟩)⟩ | exact ⟨j + 1, hlt, congrArg (Value.int .i64) (Int.natCast_succ j).symm, hide (HW.out.trans ⟨rfl, rfl, rfl, Nat.le_refl _, fun _ _ => rfl⟩)⟩
      case measure => first | exact measT hlt | exact measT2 e7 hlt | exact measT2 (Int.natCast_succ j).symm hlt
    · obtain rfl : j = n := by omega
      go_wp2
      go_ret
      exact ⟨rfl, HW.out⟩
theorem at20_any (x y : Int) (w : World) : Calls Try.prog 39 #[.int .i64 x, .int .i64 y] w fun e w' => e = .returned (.agg #[.int .i64 x, .int .i64 y]) ∧ Below w.heap.size w w' := by
  have HB := hide ((Below.refl w.heap.size w).alloc (Nat.le_refl _) (.cells #[.int .i64 x, .int .i64 y] 30))
  go_enter Try.func39, Try.ntmps39
  go_wp2
  first
    | (refine bodyPost_ret (v := .agg #[.int .i64 x, .int .i64 y]) (results_cell_row rfl _ _ w.heap.size 30 _ (0, 0) _ rfl (heap_alloc_new w _) Try.underlying30 rfl infoPl2) rfl ?_; exact ⟨rfl, HB.out⟩)
    | (go_ret; exact ⟨rfl, HB.out⟩)
/-- What few keeps. -/
def fewP (q : Cq) : Bool := decide (0 < q.ps.length) && decide (q.ps.length ≤ 6)
structure FewS (w0 : World) (l : List Cq) (k : Nat) (v : Value) (W : World) : Prop where
  own : W.ownsRow w0.heap.size 42 3 v ((l.take k).filter fewP).length (rowK ((l.take k).filter fewP))
  below : Below w0.heap.size w0 W
theorem FewS.later {w0 W W' : World} {l : List Cq} {k : Nat} {v : Value} (h : FewS w0 l k v W) (hb : Below W.heap.size W W') : FewS w0 l k v W' := ⟨own_keepT h.own hb, h.below.trans (hb.mono h.below.size)⟩
end Go.Proofs.Ytofokljhlcdebaa
