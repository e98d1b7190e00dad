/-
  The walk of PageReopens. (By gen/PgU.gen.py.)
-/
import Derived.Test.YtppecnimpnlipaaPgY
import Derived.Test.YtppecnimpnlipaaPgV
import Derived.Test.YtppecnimpnlipaaElem
import Derived.Test.YtppecnimpnlipaaCnt2
import Derived.Test.YtppecnimpnlipaaFlo4
import Derived.Laws.StructEq
import Derived.ChangeKeysEq
namespace Go.Proofs.Ytppecnimpnlipaa
open Go.RowKit

set_option maxRecDepth 4000 in
set_option maxHeartbeats 4000000 in
theorem preopen_bad (A : Option Addr) (n c B : Nat) (b : List UInt8) (opn : Nat) (w : World) (hl : Lies w B A (bys b)) (hn : n = b.length) (hc : n ≤ c) (hB : B ≤ w.heap.size) (hk : classN b ≠ 1) :
    Calls Try.prog 40 #[.slice A n c, .int .u64 (opn : Int)] w fun e w' => e = .returned (.tuple #[.slice none 0 0, .int .i64 6]) ∧ Below w.heap.size w w' := by
  have Fg := pget_any A n c B b w hl hn hc hB
  rcases (show classN b = 0 ∨ classN b = 2 by have := class_le b; omega) with h0 | h0
  · have hg : getR b = (zeroHd, [], 8) := by unfold getR; rw [h0]; rfl
    rw [hg] at Fg
    have Fg : Hid (Calls Try.prog 27 #[.slice A n c] w fun e w' => e = .returned (.tuple #[.agg #[.int .i64 0, .int .i64 0, .int .i64 0, .int .u64 0, .int .u64 0, .int .i64 0, .int .i64 0], .string ⟨#[]⟩, .int .i64 8]) ∧ Below w.heap.size w w') := hide Fg
    clear h0 hg hk hl hn hc hB
    go_enter Try.func40, Try.ntmps40
    go_wp2_with fail
    (with_reducible refine Fg.out.mono ?_)
    rintro e w2 ⟨rfl, hb⟩
    have HB := hide (hb.alloc hb.size (.cells #[.int .i64 0, .int .i64 0, .int .i64 0, .int .u64 0, .int .u64 0, .int .i64 0, .int .i64 0] 57))
    clear hb Fg
    go_wp2
    go_ret2
    exact ⟨rfl, HB.out⟩
  · have hg : getR b = (zeroHd, [], 6) := by unfold getR; rw [h0]; rfl
    rw [hg] at Fg
    have Fg : Hid (Calls Try.prog 27 #[.slice A n c] w fun e w' => e = .returned (.tuple #[.agg #[.int .i64 0, .int .i64 0, .int .i64 0, .int .u64 0, .int .u64 0, .int .i64 0, .int .i64 0], .string ⟨#[]⟩, .int .i64 6]) ∧ Below w.heap.size w w') := hide Fg
    clear h0 hg hk hl hn hc hB
    go_enter Try.func40, Try.ntmps40
    go_wp2_with fail
    (with_reducible refine Fg.out.mono ?_)
    rintro e w2 ⟨rfl, hb⟩
    have HB := hide (hb.alloc hb.size (.cells #[.int .i64 0, .int .i64 0, .int .i64 0, .int .u64 0, .int .u64 0, .int .i64 0, .int .i64 0] 57))
    clear hb Fg
    go_wp2
    go_ret2
    exact ⟨rfl, HB.out⟩

set_option maxRecDepth 4000 in
set_option maxHeartbeats 4000000 in
theorem preopen_one (A : Option Addr) (n c B : Nat) (b : List UInt8) (opn : Nat) (w : World) (hl : Lies w B A (bys b)) (hn : n = b.length) (hc : n ≤ c) (hB : B ≤ w.heap.size) (hk : classN b = 1) (Q : Ending → World → Prop)
    (hQ : ∀ W, Below w.heap.size w W → Calls Try.prog 24 #[(Hd.mk (headOf b).kind (headOf b).index (headOf b).count (headOf b).batch opn (headOf b).lpn (headOf b).len).val, .string (str (dataOf b))] W fun e w' => (∃ A' n' c' k, e = .returned (.tuple #[.slice A' n' c', .int .i64 k])) ∧ Q e w') :
    Calls Try.prog 40 #[.slice A n c, .int .u64 (opn : Int)] w Q := by
  have Fg := pget_any A n c B b w hl hn hc hB
  have hg : getR b = (headOf b, dataOf b, 0) := by unfold getR; rw [hk]; rfl
  rw [hg] at Fg
  dsimp only at Fg
  generalize headOf b = h at *
  generalize dataOf b = d at *
  rcases h with ⟨kd, ix, ct, bt, op, lp, ln⟩
  have Fg := hide Fg
  have Fq := hide hQ
  clear hk hg hl hn hc hB hQ
  unfold Hd.val at *
  dsimp only at *
  go_enter Try.func40, Try.ntmps40
  go_wp2_with fail
  (with_reducible refine Fg.out.mono ?_)
  rintro e w2 ⟨rfl, hb⟩
  have HB := hide (hb.alloc hb.size (.cells #[.int .i64 kd, .int .i64 ix, .int .i64 ct, .int .u64 (bt : Int), .int .u64 (op : Int), .int .i64 lp, .int .i64 ln] 57))
  have HB2 := hide (hb.alloc hb.size (.cells #[.int .i64 kd, .int .i64 ix, .int .i64 ct, .int .u64 (bt : Int), .int .u64 (opn : Int), .int .i64 lp, .int .i64 ln] 57))
  clear hb Fg
  go_wp2_with fail
  (with_reducible refine (Fq.out _ HB2.out).mono ?_)
  rintro e w3 ⟨⟨A', n', c', k, rfl⟩, hq⟩
  have HQ := hide hq
  clear hq Fq HB HB2
  go_wp2
  exact HQ.out
/-- Three numbers in their box. -/
def Box3 (x y z : Int) (k : Nat) (w : World) : Prop := w.heap[k]? = some (.cells #[.int .i64 x, .int .i64 y, .int .i64 z] 78 (0, 0))
section
variable {x y z : Int} {k B : Nat} {w w' : World}
theorem Box3.below (h : Box3 x y z k w) (hb : Below B w w') (hk : k < B) : Box3 x y z k w' := (hb.block k hk).trans h
theorem Box3.lt (h : Box3 x y z k w) : k < w.heap.size := (Array.getElem?_eq_some_iff.1 h).1
theorem Box3.free (h : Box3 x y z k w) (j : Nat) : w.frozen? ⟨k, j, none⟩ = false := frozen_of_row w k j _ _ h
theorem Box3.c (h : Box3 x y z k w) (j : Nat) (v : Value) (hj : [Value.int .i64 x, .int .i64 y, .int .i64 z][j]? = some v) : w.cell? ⟨k, j, none⟩ = some v := by
  have := World.news_of_block h j v (by simpa using hj)
  rw [at0] at this
  exact this
end

set_option maxRecDepth 4000 in
set_option maxHeartbeats 4000000 in
theorem pclasses_0 (a : Addr) (cap : Nat) (A1 A2 : Option Addr) (n1 c1 n2 c2 : Nat) (b1 b2 : List UInt8) (w : World) (ha : a.block < w.heap.size) (h1 : w.cell? a = some (.slice A1 n1 c1)) (h2 : w.cell? (a.add 1) = some (.slice A2 n2 c2))
    (l1 : Lies w w.heap.size A1 (bys b1)) (e1 : n1 = b1.length) (k1 : n1 ≤ c1) (l2 : Lies w w.heap.size A2 (bys b2)) (e2 : n2 = b2.length) (k2 : n2 ≤ c2) (hk1 : classN b1 = 0) (hk2 : classN b2 = 0) :
    Calls Try.prog 36 #[.slice (some a) 2 cap] w fun e w' => e = .returned (.agg #[.int .i64 2, .int .i64 0, .int .i64 0]) ∧ Below w.heap.size w w' := by
  have F1 := fun W (hW : Below w.heap.size w W) => pclass_any A1 n1 c1 w.heap.size b1 W (l1.below hW) e1 k1 hW.size
  have F2 := fun W (hW : Below w.heap.size w W) => pclass_any A2 n2 c2 w.heap.size b2 W (l2.below hW) e2 k2 hW.size
  rw [hk1] at F1
  rw [hk2] at F2
  have F1 : Hid (∀ W, Below w.heap.size w W → Calls Try.prog 29 #[.slice A1 n1 c1] W fun e w' => e = .returned (.int .i64 0) ∧ Below W.heap.size W w') := hide F1
  have F2 : Hid (∀ W, Below w.heap.size w W → Calls Try.prog 29 #[.slice A2 n2 c2] W fun e w' => e = .returned (.int .i64 0) ∧ Below W.heap.size W w') := hide F2
  have Ha := hide ha
  have Ha1 := hide h1
  have Ha2 := hide h2
  have b1' := (Below.refl w.heap.size w).alloc (Nat.le_refl _) (.cells #[.int .i64 0, .int .i64 0, .int .i64 0] 78)
  have b2' := b1'.alloc b1'.size (.cells #[.int .i64 0, .int .i64 0, .int .i64 0] 78)
  have x1 : Box3 0 0 0 w.heap.size (w.alloc (.cells #[.int .i64 0, .int .i64 0, .int .i64 0] 78)) := heap_alloc_new w _
  have hz0 : (w.alloc (.cells #[.int .i64 0, .int .i64 0, .int .i64 0] 78)).heap.size = w.heap.size + 1 := by simp
  have x2 : Box3 0 0 0 (w.heap.size + 1) ((w.alloc (.cells #[.int .i64 0, .int .i64 0, .int .i64 0] 78)).alloc (.cells #[.int .i64 0, .int .i64 0, .int .i64 0] 78)) := by
    have := heap_alloc_new (w.alloc (.cells #[.int .i64 0, .int .i64 0, .int .i64 0] 78)) (.cells #[.int .i64 0, .int .i64 0, .int .i64 0] 78)
    rwa [hz0] at this
  have B0 := hide b2'
  have X0 := hide x2
  have Z0 := hide (show Box3 0 0 0 w.heap.size ((w.alloc (.cells #[.int .i64 0, .int .i64 0, .int .i64 0] 78)).alloc (.cells #[.int .i64 0, .int .i64 0, .int .i64 0] 78)) from x1.below ((Below.refl _ _).alloc (Nat.le_refl _) _) x1.lt)
  clear ha h1 h2 l1 e1 k1 l2 e2 k2 hk1 hk2 b1' b2' x1 x2 hz0
  go_enter Try.func36, Try.ntmps36
  go_wp2
  go_loopw [5, 8] (fun x5 ii wr => (ii = .int .i64 0 ∧ Below w.heap.size w wr ∧ Box3 0 0 0 (w.heap.size + 1) wr ∧ Box3 0 0 0 w.heap.size wr) ∨ (ii = .int .i64 1 ∧ Below w.heap.size w wr ∧ Box3 1 0 0 (w.heap.size + 1) wr ∧ Box3 0 0 0 w.heap.size wr) ∨ (ii = .int .i64 2 ∧ Below w.heap.size w wr ∧ Box3 2 0 0 (w.heap.size + 1) wr ∧ Box3 0 0 0 w.heap.size wr)) (fun _ ii _ => 2 - (intOf ii).toNat)
  case atStart => exact .inl ⟨rfl, B0.out, X0.out, Z0.out⟩
  case round =>
   clear B0 X0 Z0
   rcases hrel with ⟨rfl, hb, hx, hz⟩ | ⟨rfl, hb, hx, hz⟩ | ⟨rfl, hb, hx, hz⟩
   · have HB := hide hb
     have HX := hide hx
     have HZ := hide hz
     have ca : wr.cell? a = some (.slice A1 n1 c1) := (hb.cell (p := a) (by exact Ha.out)).trans Ha1.out
     clear hb hx hz
     go_wp2_with fail
     (with_reducible refine (F1.out _ HB.out).mono ?_)
     rintro e w2 ⟨rfl, hb⟩
     have HB2 := hide (HB.out.trans (hb.mono HB.out.size))
     have HX2 := hide (HX.out.below hb HX.out.lt)
     have HZ2 := hide (HZ.out.below hb HZ.out.lt)
     have c0 := HX2.out.c 0 _ rfl
     have c1 := HX2.out.c 1 _ rfl
     have c2 := HX2.out.c 2 _ rfl
     have f0 := HX2.out.free 0
     have f1 := HX2.out.free 1
     have f2 := HX2.out.free 2
     clear hb HB HX HZ ca
     go_wp2
     go_roundw
     case rel => exact .inr (.inl ⟨rfl, HB2.out.setCell (Nat.le_succ _) _, heap_set HX2.out 0 _, (Below.heap_setCell _ _ _ _ (by simp)).trans HZ2.out⟩)
     case measure => simp [intOf]
   · have HB := hide hb
     have HX := hide hx
     have HZ := hide hz
     have ca : wr.cell? (a.add 1) = some (.slice A2 n2 c2) := (hb.cell (p := (a.add 1)) (by rw [Addr.add_block]; exact Ha.out)).trans Ha2.out
     have ca2 : wr.cell? ⟨a.block, a.off + 1, none⟩ = some (.slice A2 n2 c2) := by rw [← add_offP a 0]; exact ca
     clear hb hx hz
     go_wp2_with fail
     (with_reducible refine (F2.out _ HB.out).mono ?_)
     rintro e w2 ⟨rfl, hb⟩
     have HB2 := hide (HB.out.trans (hb.mono HB.out.size))
     have HX2 := hide (HX.out.below hb HX.out.lt)
     have HZ2 := hide (HZ.out.below hb HZ.out.lt)
     have c0 := HX2.out.c 0 _ rfl
     have c1 := HX2.out.c 1 _ rfl
     have c2 := HX2.out.c 2 _ rfl
     have f0 := HX2.out.free 0
     have f1 := HX2.out.free 1
     have f2 := HX2.out.free 2
     clear hb HB HX HZ ca ca2
     go_wp2
     go_roundw
     case rel => exact .inr (.inr ⟨rfl, HB2.out.setCell (Nat.le_succ _) _, heap_set HX2.out 0 _, (Below.heap_setCell _ _ _ _ (by simp)).trans HZ2.out⟩)
     case measure => simp [intOf]
   · have c0 := hx.c 0 _ rfl
     have c1 := hx.c 1 _ rfl
     have c2 := hx.c 2 _ rfl
     have d0 := hz.c 0 _ rfl
     have d1 := hz.c 1 _ rfl
     have d2 := hz.c 2 _ rfl
     have f0 := hz.free 0
     have f1 := hz.free 1
     have f2 := hz.free 2
     have HB := hide hb
     have HZ := hide hz
     clear hb hx hz
     go_wp2
     have HR : Box3 2 0 0 w.heap.size (((wr.setCell ⟨w.heap.size, 0, none⟩ (.int .i64 2)).setCell ⟨w.heap.size, 1, none⟩ (.int .i64 0)).setCell ⟨w.heap.size, 2, none⟩ (.int .i64 0)) := heap_set (heap_set (heap_set HZ.out 0 _) 1 _) 2 _
     have HW : Below w.heap.size w (((wr.setCell ⟨w.heap.size, 0, none⟩ (.int .i64 2)).setCell ⟨w.heap.size, 1, none⟩ (.int .i64 0)).setCell ⟨w.heap.size, 2, none⟩ (.int .i64 0)) := ((HB.out.setCell (p := ⟨w.heap.size, 0, none⟩) (Nat.le_refl _) _).setCell (p := ⟨w.heap.size, 1, none⟩) (Nat.le_refl _) _).setCell (p := ⟨w.heap.size, 2, none⟩) (Nat.le_refl _) _
     generalize (((wr.setCell ⟨w.heap.size, 0, none⟩ (.int .i64 2)).setCell ⟨w.heap.size, 1, none⟩ (.int .i64 0)).setCell ⟨w.heap.size, 2, none⟩ (.int .i64 0)) = w9 at *
     have r0 := HR.c 0 _ rfl
     have r1 := HR.c 1 _ rfl
     have r2 := HR.c 2 _ rfl
     refine bodyPost_ret (v := .agg #[.int .i64 2, .int .i64 0, .int .i64 0]) ?_ rfl ⟨rfl, HW⟩
     rw [results_cell1P rfl]
     go_simp

set_option maxRecDepth 4000 in
set_option maxHeartbeats 4000000 in
theorem pclasses_1 (a : Addr) (cap : Nat) (A1 A2 : Option Addr) (n1 c1 n2 c2 : Nat) (b1 b2 : List UInt8) (w : World) (ha : a.block < w.heap.size) (h1 : w.cell? a = some (.slice A1 n1 c1)) (h2 : w.cell? (a.add 1) = some (.slice A2 n2 c2))
    (l1 : Lies w w.heap.size A1 (bys b1)) (e1 : n1 = b1.length) (k1 : n1 ≤ c1) (l2 : Lies w w.heap.size A2 (bys b2)) (e2 : n2 = b2.length) (k2 : n2 ≤ c2) (hk1 : classN b1 = 1) (hk2 : classN b2 = 0) :
    Calls Try.prog 36 #[.slice (some a) 2 cap] w fun e w' => e = .returned (.agg #[.int .i64 1, .int .i64 1, .int .i64 0]) ∧ Below w.heap.size w w' := by
  have F1 := fun W (hW : Below w.heap.size w W) => pclass_any A1 n1 c1 w.heap.size b1 W (l1.below hW) e1 k1 hW.size
  have F2 := fun W (hW : Below w.heap.size w W) => pclass_any A2 n2 c2 w.heap.size b2 W (l2.below hW) e2 k2 hW.size
  rw [hk1] at F1
  rw [hk2] at F2
  have F1 : Hid (∀ W, Below w.heap.size w W → Calls Try.prog 29 #[.slice A1 n1 c1] W fun e w' => e = .returned (.int .i64 1) ∧ Below W.heap.size W w') := hide F1
  have F2 : Hid (∀ W, Below w.heap.size w W → Calls Try.prog 29 #[.slice A2 n2 c2] W fun e w' => e = .returned (.int .i64 0) ∧ Below W.heap.size W w') := hide F2
  have Ha := hide ha
  have Ha1 := hide h1
  have Ha2 := hide h2
  have b1' := (Below.refl w.heap.size w).alloc (Nat.le_refl _) (.cells #[.int .i64 0, .int .i64 0, .int .i64 0] 78)
  have b2' := b1'.alloc b1'.size (.cells #[.int .i64 0, .int .i64 0, .int .i64 0] 78)
  have x1 : Box3 0 0 0 w.heap.size (w.alloc (.cells #[.int .i64 0, .int .i64 0, .int .i64 0] 78)) := heap_alloc_new w _
  have hz0 : (w.alloc (.cells #[.int .i64 0, .int .i64 0, .int .i64 0] 78)).heap.size = w.heap.size + 1 := by simp
  have x2 : Box3 0 0 0 (w.heap.size + 1) ((w.alloc (.cells #[.int .i64 0, .int .i64 0, .int .i64 0] 78)).alloc (.cells #[.int .i64 0, .int .i64 0, .int .i64 0] 78)) := by
    have := heap_alloc_new (w.alloc (.cells #[.int .i64 0, .int .i64 0, .int .i64 0] 78)) (.cells #[.int .i64 0, .int .i64 0, .int .i64 0] 78)
    rwa [hz0] at this
  have B0 := hide b2'
  have X0 := hide x2
  have Z0 := hide (show Box3 0 0 0 w.heap.size ((w.alloc (.cells #[.int .i64 0, .int .i64 0, .int .i64 0] 78)).alloc (.cells #[.int .i64 0, .int .i64 0, .int .i64 0] 78)) from x1.below ((Below.refl _ _).alloc (Nat.le_refl _) _) x1.lt)
  clear ha h1 h2 l1 e1 k1 l2 e2 k2 hk1 hk2 b1' b2' x1 x2 hz0
  go_enter Try.func36, Try.ntmps36
  go_wp2
  go_loopw [5, 8] (fun x5 ii wr => (ii = .int .i64 0 ∧ Below w.heap.size w wr ∧ Box3 0 0 0 (w.heap.size + 1) wr ∧ Box3 0 0 0 w.heap.size wr) ∨ (ii = .int .i64 1 ∧ Below w.heap.size w wr ∧ Box3 0 1 0 (w.heap.size + 1) wr ∧ Box3 0 0 0 w.heap.size wr) ∨ (ii = .int .i64 2 ∧ Below w.heap.size w wr ∧ Box3 1 1 0 (w.heap.size + 1) wr ∧ Box3 0 0 0 w.heap.size wr)) (fun _ ii _ => 2 - (intOf ii).toNat)
  case atStart => exact .inl ⟨rfl, B0.out, X0.out, Z0.out⟩
  case round =>
   clear B0 X0 Z0
   rcases hrel with ⟨rfl, hb, hx, hz⟩ | ⟨rfl, hb, hx, hz⟩ | ⟨rfl, hb, hx, hz⟩
   · have HB := hide hb
     have HX := hide hx
     have HZ := hide hz
     have ca : wr.cell? a = some (.slice A1 n1 c1) := (hb.cell (p := a) (by exact Ha.out)).trans Ha1.out
     clear hb hx hz
     go_wp2_with fail
     (with_reducible refine (F1.out _ HB.out).mono ?_)
     rintro e w2 ⟨rfl, hb⟩
     have HB2 := hide (HB.out.trans (hb.mono HB.out.size))
     have HX2 := hide (HX.out.below hb HX.out.lt)
     have HZ2 := hide (HZ.out.below hb HZ.out.lt)
     have c0 := HX2.out.c 0 _ rfl
     have c1 := HX2.out.c 1 _ rfl
     have c2 := HX2.out.c 2 _ rfl
     have f0 := HX2.out.free 0
     have f1 := HX2.out.free 1
     have f2 := HX2.out.free 2
     clear hb HB HX HZ ca
     go_wp2
     go_roundw
     case rel => exact .inr (.inl ⟨rfl, HB2.out.setCell (Nat.le_succ _) _, heap_set HX2.out 1 _, (Below.heap_setCell _ _ _ _ (by simp)).trans HZ2.out⟩)
     case measure => simp [intOf]
   · have HB := hide hb
     have HX := hide hx
     have HZ := hide hz
     have ca : wr.cell? (a.add 1) = some (.slice A2 n2 c2) := (hb.cell (p := (a.add 1)) (by rw [Addr.add_block]; exact Ha.out)).trans Ha2.out
     have ca2 : wr.cell? ⟨a.block, a.off + 1, none⟩ = some (.slice A2 n2 c2) := by rw [← add_offP a 0]; exact ca
     clear hb hx hz
     go_wp2_with fail
     (with_reducible refine (F2.out _ HB.out).mono ?_)
     rintro e w2 ⟨rfl, hb⟩
     have HB2 := hide (HB.out.trans (hb.mono HB.out.size))
     have HX2 := hide (HX.out.below hb HX.out.lt)
     have HZ2 := hide (HZ.out.below hb HZ.out.lt)
     have c0 := HX2.out.c 0 _ rfl
     have c1 := HX2.out.c 1 _ rfl
     have c2 := HX2.out.c 2 _ rfl
     have f0 := HX2.out.free 0
     have f1 := HX2.out.free 1
     have f2 := HX2.out.free 2
     clear hb HB HX HZ ca ca2
     go_wp2
     go_roundw
     case rel => exact .inr (.inr ⟨rfl, HB2.out.setCell (Nat.le_succ _) _, heap_set HX2.out 0 _, (Below.heap_setCell _ _ _ _ (by simp)).trans HZ2.out⟩)
     case measure => simp [intOf]
   · have c0 := hx.c 0 _ rfl
     have c1 := hx.c 1 _ rfl
     have c2 := hx.c 2 _ rfl
     have d0 := hz.c 0 _ rfl
     have d1 := hz.c 1 _ rfl
     have d2 := hz.c 2 _ rfl
     have f0 := hz.free 0
     have f1 := hz.free 1
     have f2 := hz.free 2
     have HB := hide hb
     have HZ := hide hz
     clear hb hx hz
     go_wp2
     have HR : Box3 1 1 0 w.heap.size (((wr.setCell ⟨w.heap.size, 0, none⟩ (.int .i64 1)).setCell ⟨w.heap.size, 1, none⟩ (.int .i64 1)).setCell ⟨w.heap.size, 2, none⟩ (.int .i64 0)) := heap_set (heap_set (heap_set HZ.out 0 _) 1 _) 2 _
     have HW : Below w.heap.size w (((wr.setCell ⟨w.heap.size, 0, none⟩ (.int .i64 1)).setCell ⟨w.heap.size, 1, none⟩ (.int .i64 1)).setCell ⟨w.heap.size, 2, none⟩ (.int .i64 0)) := ((HB.out.setCell (p := ⟨w.heap.size, 0, none⟩) (Nat.le_refl _) _).setCell (p := ⟨w.heap.size, 1, none⟩) (Nat.le_refl _) _).setCell (p := ⟨w.heap.size, 2, none⟩) (Nat.le_refl _) _
     generalize (((wr.setCell ⟨w.heap.size, 0, none⟩ (.int .i64 1)).setCell ⟨w.heap.size, 1, none⟩ (.int .i64 1)).setCell ⟨w.heap.size, 2, none⟩ (.int .i64 0)) = w9 at *
     have r0 := HR.c 0 _ rfl
     have r1 := HR.c 1 _ rfl
     have r2 := HR.c 2 _ rfl
     refine bodyPost_ret (v := .agg #[.int .i64 1, .int .i64 1, .int .i64 0]) ?_ rfl ⟨rfl, HW⟩
     rw [results_cell1P rfl]
     go_simp

set_option maxRecDepth 4000 in
set_option maxHeartbeats 4000000 in
theorem pclasses_2 (a : Addr) (cap : Nat) (A1 A2 : Option Addr) (n1 c1 n2 c2 : Nat) (b1 b2 : List UInt8) (w : World) (ha : a.block < w.heap.size) (h1 : w.cell? a = some (.slice A1 n1 c1)) (h2 : w.cell? (a.add 1) = some (.slice A2 n2 c2))
    (l1 : Lies w w.heap.size A1 (bys b1)) (e1 : n1 = b1.length) (k1 : n1 ≤ c1) (l2 : Lies w w.heap.size A2 (bys b2)) (e2 : n2 = b2.length) (k2 : n2 ≤ c2) (hk1 : classN b1 = 2) (hk2 : classN b2 = 0) :
    Calls Try.prog 36 #[.slice (some a) 2 cap] w fun e w' => e = .returned (.agg #[.int .i64 1, .int .i64 0, .int .i64 1]) ∧ Below w.heap.size w w' := by
  have F1 := fun W (hW : Below w.heap.size w W) => pclass_any A1 n1 c1 w.heap.size b1 W (l1.below hW) e1 k1 hW.size
  have F2 := fun W (hW : Below w.heap.size w W) => pclass_any A2 n2 c2 w.heap.size b2 W (l2.below hW) e2 k2 hW.size
  rw [hk1] at F1
  rw [hk2] at F2
  have F1 : Hid (∀ W, Below w.heap.size w W → Calls Try.prog 29 #[.slice A1 n1 c1] W fun e w' => e = .returned (.int .i64 2) ∧ Below W.heap.size W w') := hide F1
  have F2 : Hid (∀ W, Below w.heap.size w W → Calls Try.prog 29 #[.slice A2 n2 c2] W fun e w' => e = .returned (.int .i64 0) ∧ Below W.heap.size W w') := hide F2
  have Ha := hide ha
  have Ha1 := hide h1
  have Ha2 := hide h2
  have b1' := (Below.refl w.heap.size w).alloc (Nat.le_refl _) (.cells #[.int .i64 0, .int .i64 0, .int .i64 0] 78)
  have b2' := b1'.alloc b1'.size (.cells #[.int .i64 0, .int .i64 0, .int .i64 0] 78)
  have x1 : Box3 0 0 0 w.heap.size (w.alloc (.cells #[.int .i64 0, .int .i64 0, .int .i64 0] 78)) := heap_alloc_new w _
  have hz0 : (w.alloc (.cells #[.int .i64 0, .int .i64 0, .int .i64 0] 78)).heap.size = w.heap.size + 1 := by simp
  have x2 : Box3 0 0 0 (w.heap.size + 1) ((w.alloc (.cells #[.int .i64 0, .int .i64 0, .int .i64 0] 78)).alloc (.cells #[.int .i64 0, .int .i64 0, .int .i64 0] 78)) := by
    have := heap_alloc_new (w.alloc (.cells #[.int .i64 0, .int .i64 0, .int .i64 0] 78)) (.cells #[.int .i64 0, .int .i64 0, .int .i64 0] 78)
    rwa [hz0] at this
  have B0 := hide b2'
  have X0 := hide x2
  have Z0 := hide (show Box3 0 0 0 w.heap.size ((w.alloc (.cells #[.int .i64 0, .int .i64 0, .int .i64 0] 78)).alloc (.cells #[.int .i64 0, .int .i64 0, .int .i64 0] 78)) from x1.below ((Below.refl _ _).alloc (Nat.le_refl _) _) x1.lt)
  clear ha h1 h2 l1 e1 k1 l2 e2 k2 hk1 hk2 b1' b2' x1 x2 hz0
  go_enter Try.func36, Try.ntmps36
  go_wp2
  go_loopw [5, 8] (fun x5 ii wr => (ii = .int .i64 0 ∧ Below w.heap.size w wr ∧ Box3 0 0 0 (w.heap.size + 1) wr ∧ Box3 0 0 0 w.heap.size wr) ∨ (ii = .int .i64 1 ∧ Below w.heap.size w wr ∧ Box3 0 0 1 (w.heap.size + 1) wr ∧ Box3 0 0 0 w.heap.size wr) ∨ (ii = .int .i64 2 ∧ Below w.heap.size w wr ∧ Box3 1 0 1 (w.heap.size + 1) wr ∧ Box3 0 0 0 w.heap.size wr)) (fun _ ii _ => 2 - (intOf ii).toNat)
  case atStart => exact .inl ⟨rfl, B0.out, X0.out, Z0.out⟩
  case round =>
   clear B0 X0 Z0
   rcases hrel with ⟨rfl, hb, hx, hz⟩ | ⟨rfl, hb, hx, hz⟩ | ⟨rfl, hb, hx, hz⟩
   · have HB := hide hb
     have HX := hide hx
     have HZ := hide hz
     have ca : wr.cell? a = some (.slice A1 n1 c1) := (hb.cell (p := a) (by exact Ha.out)).trans Ha1.out
     clear hb hx hz
     go_wp2_with fail
     (with_reducible refine (F1.out _ HB.out).mono ?_)
     rintro e w2 ⟨rfl, hb⟩
     have HB2 := hide (HB.out.trans (hb.mono HB.out.size))
     have HX2 := hide (HX.out.below hb HX.out.lt)
     have HZ2 := hide (HZ.out.below hb HZ.out.lt)
     have c0 := HX2.out.c 0 _ rfl
     have c1 := HX2.out.c 1 _ rfl
     have c2 := HX2.out.c 2 _ rfl
     have f0 := HX2.out.free 0
     have f1 := HX2.out.free 1
     have f2 := HX2.out.free 2
     clear hb HB HX HZ ca
     go_wp2
     go_roundw
     case rel => exact .inr (.inl ⟨rfl, HB2.out.setCell (Nat.le_succ _) _, heap_set HX2.out 2 _, (Below.heap_setCell _ _ _ _ (by simp)).trans HZ2.out⟩)
     case measure => simp [intOf]
   · have HB := hide hb
     have HX := hide hx
     have HZ := hide hz
     have ca : wr.cell? (a.add 1) = some (.slice A2 n2 c2) := (hb.cell (p := (a.add 1)) (by rw [Addr.add_block]; exact Ha.out)).trans Ha2.out
     have ca2 : wr.cell? ⟨a.block, a.off + 1, none⟩ = some (.slice A2 n2 c2) := by rw [← add_offP a 0]; exact ca
     clear hb hx hz
     go_wp2_with fail
     (with_reducible refine (F2.out _ HB.out).mono ?_)
     rintro e w2 ⟨rfl, hb⟩
     have HB2 := hide (HB.out.trans (hb.mono HB.out.size))
     have HX2 := hide (HX.out.below hb HX.out.lt)
     have HZ2 := hide (HZ.out.below hb HZ.out.lt)
     have c0 := HX2.out.c 0 _ rfl
     have c1 := HX2.out.c 1 _ rfl
     have c2 := HX2.out.c 2 _ rfl
     have f0 := HX2.out.free 0
     have f1 := HX2.out.free 1
     have f2 := HX2.out.free 2
     clear hb HB HX HZ ca ca2
     go_wp2
     go_roundw
     case rel => exact .inr (.inr ⟨rfl, HB2.out.setCell (Nat.le_succ _) _, heap_set HX2.out 0 _, (Below.heap_setCell _ _ _ _ (by simp)).trans HZ2.out⟩)
     case measure => simp [intOf]
   · have c0 := hx.c 0 _ rfl
     have c1 := hx.c 1 _ rfl
     have c2 := hx.c 2 _ rfl
     have d0 := hz.c 0 _ rfl
     have d1 := hz.c 1 _ rfl
     have d2 := hz.c 2 _ rfl
     have f0 := hz.free 0
     have f1 := hz.free 1
     have f2 := hz.free 2
     have HB := hide hb
     have HZ := hide hz
     clear hb hx hz
     go_wp2
     have HR : Box3 1 0 1 w.heap.size (((wr.setCell ⟨w.heap.size, 0, none⟩ (.int .i64 1)).setCell ⟨w.heap.size, 1, none⟩ (.int .i64 0)).setCell ⟨w.heap.size, 2, none⟩ (.int .i64 1)) := heap_set (heap_set (heap_set HZ.out 0 _) 1 _) 2 _
     have HW : Below w.heap.size w (((wr.setCell ⟨w.heap.size, 0, none⟩ (.int .i64 1)).setCell ⟨w.heap.size, 1, none⟩ (.int .i64 0)).setCell ⟨w.heap.size, 2, none⟩ (.int .i64 1)) := ((HB.out.setCell (p := ⟨w.heap.size, 0, none⟩) (Nat.le_refl _) _).setCell (p := ⟨w.heap.size, 1, none⟩) (Nat.le_refl _) _).setCell (p := ⟨w.heap.size, 2, none⟩) (Nat.le_refl _) _
     generalize (((wr.setCell ⟨w.heap.size, 0, none⟩ (.int .i64 1)).setCell ⟨w.heap.size, 1, none⟩ (.int .i64 0)).setCell ⟨w.heap.size, 2, none⟩ (.int .i64 1)) = w9 at *
     have r0 := HR.c 0 _ rfl
     have r1 := HR.c 1 _ rfl
     have r2 := HR.c 2 _ rfl
     refine bodyPost_ret (v := .agg #[.int .i64 1, .int .i64 0, .int .i64 1]) ?_ rfl ⟨rfl, HW⟩
     rw [results_cell1P rfl]
     go_simp
theorem info_intN : ∃ i, Try.prog.info? 3 = some i := by
  have : (Try.prog.info? 3).isSome = true := by kernel_rfl
  exact Option.isSome_iff_exists.1 this
theorem eqI3n (d : Nat) (a b : Int) (w : World) : (Op.equalIn (d + 1) 3 (.int .i64 a) (.int .i64 b)).run Try.prog w = .ok (a == b) w := run_equalIn_int w d _ _ _ _ _ Try.underlying3
theorem neq3 (x y z : Int) (w : World) : (binOp .neq 78 (.agg #[.int .i64 x, .int .i64 y, .int .i64 z]) (.agg #[.int .i64 x, .int .i64 y, .int .i64 z])).run Try.prog w = .ok (.bool false) w := by
  obtain ⟨i, hi⟩ := info_intN
  have hc : Try.prog.cellsOf 3 = 1 := by kernel_rfl
  have u3 := Try.underlying3
  have p0 : (part 3 #[Value.int .i64 x, .int .i64 y, .int .i64 z] 0).run Try.prog w = .ok (.int .i64 x) w := by go_simp
  have p1 : (part 3 #[Value.int .i64 x, .int .i64 y, .int .i64 z] 1).run Try.prog w = .ok (.int .i64 y) w := by go_simp
  have p2 : (part 3 #[Value.int .i64 x, .int .i64 y, .int .i64 z] 2).run Try.prog w = .ok (.int .i64 z) w := by go_simp
  have q := fun a => eqI3n 9998 a a w
  rw [show 9998 + 1 = 9999 from rfl] at q
  rw [run_neq_struct, show (10000 : Nat) = 9999 + 1 from rfl, run_equalIn_array w 9999 _ _ Try.underlying78 hi, hc]
  rw [show List.range 3 = [0, 1, 2] from rfl]
  simp only [Op.eqItems, Nat.zero_mul, Nat.one_mul, Nat.mul_one, Sem.run_bind, p0, Result.andThen_ok, q]
  simp [p1, p2, q]

/-- What comes in, as the law holds it. -/
def fourC (h : Hd) (dt : List UInt8) (opn : Nat) (A : Option Addr) (n c : Nat) : List Value := h.cells ++ [.string (str dt), .int .u64 (opn : Int), .slice A n c]
def PhiP (w5 : World) (q : Hd) (i : Nat) (f : Nat → Value) (W : World) : Prop :=
  (i = 0 ∧ Below w5.heap.size w5 W) ∨ (i = 1 ∧ ∃ k, f 3 = .pointer (some ⟨k, 0, none⟩) ∧ w5.heap.size ≤ k ∧ Below w5.heap.size w5 W ∧ BoxH zeroHd k W) ∨ (2 ≤ i ∧ ∃ k, f 3 = .pointer (some ⟨k, 0, none⟩) ∧ w5.heap.size ≤ k ∧ Below w5.heap.size w5 W ∧ BoxH q k W)
theorem PhiP.loc (w5 : World) (q : Hd) : ∀ i f g W, (∀ t ∈ [3], f t = g t) → PhiP w5 q i f W → PhiP w5 q i g W := by
  intro i f g W h hΦ
  have h6 := h 3 (by simp)
  unfold PhiP at *
  rw [← h6]
  exact hΦ
theorem PhiP.below {w5 W : World} {q : Hd} {i : Nat} {f : Nat → Value} (h : PhiP w5 q i f W) : Below w5.heap.size w5 W := by
  rcases h with ⟨_, h⟩ | ⟨_, _, _, _, h, _⟩ | ⟨_, _, _, _, h, _⟩ <;> exact h
theorem PhiP.at1 {w5 W : World} {q : Hd} {f : Nat → Value} (h : PhiP w5 q 1 f W) : ∃ k, f 3 = .pointer (some ⟨k, 0, none⟩) ∧ w5.heap.size ≤ k ∧ Below w5.heap.size w5 W ∧ BoxH zeroHd k W := by
  rcases h with ⟨h, _⟩ | ⟨_, h⟩ | ⟨h, _⟩
  · cases h
  · exact h
  · omega
theorem PhiP.at2 {w5 W : World} {q : Hd} {f : Nat → Value} (h : PhiP w5 q 2 f W) : ∃ k, f 3 = .pointer (some ⟨k, 0, none⟩) ∧ w5.heap.size ≤ k ∧ Below w5.heap.size w5 W ∧ BoxH q k W := by
  rcases h with ⟨h, _⟩ | ⟨h, _⟩ | ⟨_, h⟩
  · cases h
  · cases h
  · exact h
/-- Reopen, of a whole page. -/
theorem reopen_over (h : Hd) (d : List UInt8) (A : Option Addr) (c B opn : Nat) (W : World) (hm : h.May) (hd : (d.length : Int) = h.len) (ho : ¬ opn < 2147483648) (hl : Lies W B A (bys (pageB h d))) (hc : 256 ≤ c) (hB : B ≤ W.heap.size) :
    Calls Try.prog 40 #[.slice A 256 c, .int .u64 (opn : Int)] W fun e w' => e = .returned (.tuple #[.slice none 0 0, .int .i64 3]) ∧ Below W.heap.size W w' := by
  have h12 := hm.2.2.2.2.2.2.2.2.2.2.2
  have hlen : (pageB h d).length = 256 := pageB_len h d (by omega)
  obtain ⟨e1, e2⟩ := page_back h d hm (by omega)
  refine preopen_one A 256 c B (pageB h d) opn W hl hlen.symm hc hB (class_page h d hm (by omega)) _ (fun W' hW' => ?_)
  rw [e1, e2]
  refine (pput_bad ⟨h.kind, h.index, h.count, h.batch, opn, h.lpn, h.len⟩ d W' (fun hx => ho hx.1.2.2.2.2.2.2.2.1)).mono ?_
  rintro e w' ⟨rfl, hb⟩
  exact ⟨⟨_, _, _, _, rfl⟩, rfl, hW'.trans (hb.mono hW'.size)⟩
theorem reopen_ok (h : Hd) (d : List UInt8) (A : Option Addr) (c B opn : Nat) (W : World) (hm : h.May) (hd : (d.length : Int) = h.len) (ho : opn < 2147483648) (hl : Lies W B A (bys (pageB h d))) (hc : 256 ≤ c) (hB : B ≤ W.heap.size) :
    Calls Try.prog 40 #[.slice A 256 c, .int .u64 (opn : Int)] W fun e w' => ∃ A' c', e = .returned (.tuple #[.slice A' 256 c', .int .i64 0]) ∧ 256 ≤ c' ∧ Lies w' w'.heap.size A' (bys (pageB ⟨h.kind, h.index, h.count, h.batch, opn, h.lpn, h.len⟩ d)) ∧ Below W.heap.size W w' := by
  have h12 := hm.2.2.2.2.2.2.2.2.2.2.2
  have hlen : (pageB h d).length = 256 := pageB_len h d (by omega)
  obtain ⟨e1, e2⟩ := page_back h d hm (by omega)
  refine preopen_one A 256 c B (pageB h d) opn W hl hlen.symm hc hB (class_page h d hm (by omega)) _ (fun W' hW' => ?_)
  rw [e1, e2]
  have hm2 : Hd.May ⟨h.kind, h.index, h.count, h.batch, opn, h.lpn, h.len⟩ := by
    obtain ⟨a1, a2, a3, a4, a5, a6, a7, _, a9⟩ := hm
    exact ⟨a1, a2, a3, a4, a5, a6, a7, ho, a9⟩
  refine (pput_ok ⟨h.kind, h.index, h.count, h.batch, opn, h.lpn, h.len⟩ d W' hm2 hd).mono ?_
  rintro e w' ⟨A', c', rfl, hw, hb⟩
  have hc' : 256 ≤ c' := by obtain ⟨_, _, h1, h2, _⟩ := own_form hw; injection h1 with _ _ h3; omega
  exact ⟨⟨_, _, _, _, rfl⟩, A', c', rfl, hc', Lies.of_own hw, hW'.trans (hb.mono hW'.size)⟩
/-- What the sum behind a page's bytes reads. -/
theorem seal_num (b : List UInt8) (hb : b.length = 252) : numAt (sealB b) ((252 : Nat) : Int) 4 = zc b (8 * b.length) := by
  have := zc_le b (8 * b.length)
  have h := numAt_mid b [] (zc b (8 * b.length)) 4 ((252 : Nat) : Int) (by rw [hb]) (by omega)
  rw [List.append_nil] at h
  exact h
theorem seal_take (b : List UInt8) (hb : b.length = 252) : (bys (sealB b)).take 252 = bys b := by
  unfold sealB
  rw [bys_app, List.take_left' (by rw [bys_len, hb])]

set_option maxRecDepth 60000 in
set_option maxHeartbeats 8000000 in
theorem reopens_off (h : Hd) (dt : List UInt8) (opn : Nat) (A : Option Addr) (n c : Nat) (b : List UInt8) (w : World) (hl : Lies w w.heap.size A (bys b)) (hn : n = b.length) (hc : n ≤ c) (hbig : 300 < n) :
    Calls Try.prog 7 #[.agg (fourC h dt opn A n c).toArray] w fun e w' => e = .returned (.bool true) ∧ Below w.heap.size w w' := by
  have h4 : (300 : Int) < (n : Int) := by omega
  clear hl hn hc hbig b
  rcases h with ⟨kd, ix, ct, bt, op, lp, ln⟩
  have hx1 := heap_alloc_new w (.cells #[.int .i64 kd, .int .i64 ix, .int .i64 ct, .int .u64 (bt : Int), .int .u64 (op : Int), .int .i64 lp, .int .i64 ln, .string (str dt), .int .u64 (opn : Int), .slice A n c] 77)
  have hb1 := (Below.refl w.heap.size w).alloc (Nat.le_refl _) (.cells #[.int .i64 kd, .int .i64 ix, .int .i64 ct, .int .u64 (bt : Int), .int .u64 (op : Int), .int .i64 lp, .int .i64 ln, .string (str dt), .int .u64 (opn : Int), .slice A n c] 77)
  have hs1 : w.heap.size < (w.alloc (.cells #[.int .i64 kd, .int .i64 ix, .int .i64 ct, .int .u64 (bt : Int), .int .u64 (op : Int), .int .i64 lp, .int .i64 ln, .string (str dt), .int .u64 (opn : Int), .slice A n c] 77)).heap.size := by simp
  unfold fourC at *
  unfold Hd.cells at *
  try unfold Hd.val at *
  simp only [List.cons_append, List.nil_append] at *
  have HX1 := hide hx1
  have HB1 := hide hb1
  have Hg := hide hs1
  clear hx1 hb1 hs1
  go_enter Try.func7, Try.ntmps7
  go_upto_region 1 with fail
  generalize w.alloc (.cells #[.int .i64 kd, .int .i64 ix, .int .i64 ct, .int .u64 (bt : Int), .int .u64 (op : Int), .int .i64 lp, .int .i64 ln, .string (str dt), .int .u64 (opn : Int), .slice A n c] 77) = w1 at *
  have c0 : w1.cell? ⟨w.heap.size, 0, none⟩ = some (.int .i64 kd) := World.news_of_block HX1.out 0 _ rfl
  have c1 : w1.cell? ⟨w.heap.size, 1, none⟩ = some (.int .i64 ix) := World.news_of_block HX1.out 1 _ rfl
  have c2 : w1.cell? ⟨w.heap.size, 2, none⟩ = some (.int .i64 ct) := World.news_of_block HX1.out 2 _ rfl
  have c3 : w1.cell? ⟨w.heap.size, 3, none⟩ = some (.int .u64 (bt : Int)) := World.news_of_block HX1.out 3 _ rfl
  have c4 : w1.cell? ⟨w.heap.size, 4, none⟩ = some (.int .u64 (op : Int)) := World.news_of_block HX1.out 4 _ rfl
  have c5 : w1.cell? ⟨w.heap.size, 5, none⟩ = some (.int .i64 lp) := World.news_of_block HX1.out 5 _ rfl
  have c6 : w1.cell? ⟨w.heap.size, 6, none⟩ = some (.int .i64 ln) := World.news_of_block HX1.out 6 _ rfl
  have c7 : w1.cell? ⟨w.heap.size, 7, none⟩ = some (.string (str dt)) := World.news_of_block HX1.out 7 _ rfl
  have c8 : w1.cell? ⟨w.heap.size, 8, none⟩ = some (.int .u64 (opn : Int)) := World.news_of_block HX1.out 8 _ rfl
  have c9 : w1.cell? ⟨w.heap.size, 9, none⟩ = some (.slice A n c) := World.news_of_block HX1.out 9 _ rfl
  refine Big.wp_region_big (by kernel_rfl) (fun d v => match d with | 17 => v = .pointer (some ⟨w.heap.size, 0, none⟩) | 18 => v = .agg #[.int .i64 kd, .int .i64 ix, .int .i64 ct, .int .u64 (bt : Int), .int .u64 (op : Int), .int .i64 lp, .int .i64 ln] | 19 => v = .pointer (some ⟨w.heap.size, 7, none⟩) | 20 => v = .string (str dt) | 21 => v = .pointer (some ⟨w.heap.size, 8, none⟩) | 22 => v = .int .u64 (opn : Int) | 23 => v = .pointer (some ⟨w.heap.size, 9, none⟩) | 24 => v = .slice A n c | 3 => ∃ k, v = .pointer (some ⟨k, 0, none⟩) | 4 => v = .string (str dt) | 5 => v = .int .u64 (opn : Int) | 6 => v = .slice A n c | _ => True) (PhiP w1 ⟨kd, ix, ct, bt, op, lp, ln⟩) [8, 9] [3] (by kernel_rfl) (by kernel_rfl) (by decide) (PhiP.loc _ _) (Or.inl ⟨rfl, (Below.refl _ _).drew⟩) ⟨?_, ?_, ?_, ?_, ?_, ?_, ?_, ?_, ?_, ?_, ?_, ?_, ?_, trivial⟩ ?_
  · refine Big.small (by decide) ?_
    intro i' a' w' hi' hΦ h'
    have hb' := hΦ.below
    have e1 : a'.tmps.getD 1 undef = .pointer (some ⟨w.heap.size, 0, none⟩) := Big.sb h' 1 (by kernel_rfl) (by kernel_rfl) rfl
    exact .val (want0 rfl) rfl (by simp [Act.eval, e1, go_sem]) rfl
  · refine Big.small (by decide) ?_
    intro i' a' w' hi' hΦ h'
    have hb' := hΦ.below
    have q0 := (hb'.cell (p := ⟨w.heap.size, 0, none⟩) Hg.out).trans c0
    have q1 := (hb'.cell (p := ⟨w.heap.size, 1, none⟩) Hg.out).trans c1
    have q2 := (hb'.cell (p := ⟨w.heap.size, 2, none⟩) Hg.out).trans c2
    have q3 := (hb'.cell (p := ⟨w.heap.size, 3, none⟩) Hg.out).trans c3
    have q4 := (hb'.cell (p := ⟨w.heap.size, 4, none⟩) Hg.out).trans c4
    have q5 := (hb'.cell (p := ⟨w.heap.size, 5, none⟩) Hg.out).trans c5
    have q6 := (hb'.cell (p := ⟨w.heap.size, 6, none⟩) Hg.out).trans c6
    have e17 : a'.tmps.getD 17 undef = .pointer (some ⟨w.heap.size, 0, none⟩) := Big.sw h' 17 (by kernel_rfl) (by kernel_rfl)
    exact .val (want0 rfl) rfl (by simp [Act.eval, e17, q0, q1, q2, q3, q4, q5, q6, go_sem]) rfl
  · refine Big.small (by decide) ?_
    intro i' a' w' hi' hΦ h'
    have hb' := hΦ.below
    have e1 : a'.tmps.getD 1 undef = .pointer (some ⟨w.heap.size, 0, none⟩) := Big.sb h' 1 (by kernel_rfl) (by kernel_rfl) rfl
    exact .val (want0 rfl) rfl (by simp [Act.eval, e1, go_sem]) rfl
  · refine Big.small (by decide) ?_
    intro i' a' w' hi' hΦ h'
    have hb' := hΦ.below
    have q7 := (hb'.cell (p := ⟨w.heap.size, 7, none⟩) Hg.out).trans c7
    have e19 : a'.tmps.getD 19 undef = .pointer (some ⟨w.heap.size, 7, none⟩) := Big.sw h' 19 (by kernel_rfl) (by kernel_rfl)
    exact .val (want0 rfl) rfl (by simp [Act.eval, e19, q7, go_sem]) rfl
  · refine Big.small (by decide) ?_
    intro i' a' w' hi' hΦ h'
    have hb' := hΦ.below
    have e1 : a'.tmps.getD 1 undef = .pointer (some ⟨w.heap.size, 0, none⟩) := Big.sb h' 1 (by kernel_rfl) (by kernel_rfl) rfl
    exact .val (want0 rfl) rfl (by simp [Act.eval, e1, go_sem]) rfl
  · refine Big.small (by decide) ?_
    intro i' a' w' hi' hΦ h'
    have hb' := hΦ.below
    have q8 := (hb'.cell (p := ⟨w.heap.size, 8, none⟩) Hg.out).trans c8
    have e21 : a'.tmps.getD 21 undef = .pointer (some ⟨w.heap.size, 8, none⟩) := Big.sw h' 21 (by kernel_rfl) (by kernel_rfl)
    exact .val (want0 rfl) rfl (by simp [Act.eval, e21, q8, go_sem]) rfl
  · refine Big.small (by decide) ?_
    intro i' a' w' hi' hΦ h'
    have hb' := hΦ.below
    have e1 : a'.tmps.getD 1 undef = .pointer (some ⟨w.heap.size, 0, none⟩) := Big.sb h' 1 (by kernel_rfl) (by kernel_rfl) rfl
    exact .val (want0 rfl) rfl (by simp [Act.eval, e1, go_sem]) rfl
  · refine Big.small (by decide) ?_
    intro i' a' w' hi' hΦ h'
    have hb' := hΦ.below
    have q9 := (hb'.cell (p := ⟨w.heap.size, 9, none⟩) Hg.out).trans c9
    have e23 : a'.tmps.getD 23 undef = .pointer (some ⟨w.heap.size, 9, none⟩) := Big.sw h' 23 (by kernel_rfl) (by kernel_rfl)
    exact .val (want0 rfl) rfl (by simp [Act.eval, e23, q9, go_sem]) rfl
  · refine Big.great (i := 0) rfl (by decide) ?_
    intro a' w' hsz' hΦ h'
    have hb' := hΦ.below
    exact .made (d := 3) (v := .pointer (some ⟨w'.heap.size, 0, none⟩)) (w' := w'.alloc (.cells #[.int .i64 0, .int .i64 0, .int .i64 0, .int .u64 0, .int .u64 0, .int .i64 0, .int .i64 0] 57)) (want0 rfl) rfl (by simp [go_sem]) ⟨_, rfl⟩ (.inr (.inl ⟨rfl, _, Big.slots_put (by rw [hsz']; simp), hb'.size, hb'.alloc hb'.size _, heap_alloc_new w' _⟩))
  · refine Big.great (i := 1) rfl (by decide) ?_
    intro a' w' hsz' hΦ h'
    have e18 : a'.tmps.getD 18 undef = .agg #[.int .i64 kd, .int .i64 ix, .int .i64 ct, .int .u64 (bt : Int), .int .u64 (op : Int), .int .i64 lp, .int .i64 ln] := Big.sw h' 18 (by kernel_rfl) (by kernel_rfl)
    obtain ⟨k, e3, hk, hb', hz⟩ := hΦ.at1
    have e3' : a'.tmps.getD 3 undef = .pointer (some ⟨k, 0, none⟩) := e3
    intro K' Q hK
    rw [if_pos (want0 rfl)]
    exact wp_store_row 57 (.tmp 3) (.tmp 18) rfl k #[.int .i64 kd, .int .i64 ix, .int .i64 ct, .int .u64 (bt : Int), .int .u64 (op : Int), .int .i64 lp, .int .i64 ln] e3' e18 57 _ hz infoHd rfl (by simp [Value.oneCell']) (hK undef _ (fun d hd => by cases hd) (.inr (.inr ⟨Nat.le_refl _, k, e3, hk, setRow_belowP hb' hk _, setRow_heap _ _ _ _ _ _ hz⟩)))
  · refine Big.small (by decide) ?_
    intro i' a' w' hi' hΦ h'
    have hb' := hΦ.below
    have e20 : a'.tmps.getD 20 undef = .string (str dt) := Big.sw h' 20 (by kernel_rfl) (by kernel_rfl)
    exact .val (want0 rfl) rfl (by simp [Act.eval, e20, go_sem]) rfl
  · refine Big.small (by decide) ?_
    intro i' a' w' hi' hΦ h'
    have hb' := hΦ.below
    have e22 : a'.tmps.getD 22 undef = .int .u64 (opn : Int) := Big.sw h' 22 (by kernel_rfl) (by kernel_rfl)
    exact .val (want0 rfl) rfl (by simp [Act.eval, e22, go_sem]) rfl
  · refine Big.small (by decide) ?_
    intro i' a' w' hi' hΦ h'
    have hb' := hΦ.below
    have e24 : a'.tmps.getD 24 undef = .slice A n c := Big.sw h' 24 (by kernel_rfl) (by kernel_rfl)
    exact .val (want0 rfl) rfl (by simp [Act.eval, e24, go_sem]) rfl
  · intro a' w' hdf hsz hwr hkp hΦ
    obtain ⟨k, e3, hk, hb', hz⟩ := hΦ.at2
    have e3' : a'.tmps.getD 3 undef = .pointer (some ⟨k, 0, none⟩) := e3
    have f17 : a'.tmps.getD 17 undef = .pointer (some ⟨w.heap.size, 0, none⟩) := hwr 17 (by kernel_rfl)
    have f18 : a'.tmps.getD 18 undef = .agg #[.int .i64 kd, .int .i64 ix, .int .i64 ct, .int .u64 (bt : Int), .int .u64 (op : Int), .int .i64 lp, .int .i64 ln] := hwr 18 (by kernel_rfl)
    have f19 : a'.tmps.getD 19 undef = .pointer (some ⟨w.heap.size, 7, none⟩) := hwr 19 (by kernel_rfl)
    have f20 : a'.tmps.getD 20 undef = .string (str dt) := hwr 20 (by kernel_rfl)
    have f21 : a'.tmps.getD 21 undef = .pointer (some ⟨w.heap.size, 8, none⟩) := hwr 21 (by kernel_rfl)
    have f22 : a'.tmps.getD 22 undef = .int .u64 (opn : Int) := hwr 22 (by kernel_rfl)
    have f23 : a'.tmps.getD 23 undef = .pointer (some ⟨w.heap.size, 9, none⟩) := hwr 23 (by kernel_rfl)
    have f24 : a'.tmps.getD 24 undef = .slice A n c := hwr 24 (by kernel_rfl)
    have f4 : a'.tmps.getD 4 undef = .string (str dt) := hwr 4 (by kernel_rfl)
    have f5 : a'.tmps.getD 5 undef = .int .u64 (opn : Int) := hwr 5 (by kernel_rfl)
    have f6 : a'.tmps.getD 6 undef = .slice A n c := hwr 6 (by kernel_rfl)
    have hfr := Flo2.frame_eq [(17, .pointer (some ⟨w.heap.size, 0, none⟩)), (18, .agg #[.int .i64 kd, .int .i64 ix, .int .i64 ct, .int .u64 (bt : Int), .int .u64 (op : Int), .int .i64 lp, .int .i64 ln]), (19, .pointer (some ⟨w.heap.size, 7, none⟩)), (20, .string (str dt)), (21, .pointer (some ⟨w.heap.size, 8, none⟩)), (22, .int .u64 (opn : Int)), (23, .pointer (some ⟨w.heap.size, 9, none⟩)), (24, .slice A n c), (3, .pointer (some ⟨k, 0, none⟩)), (4, .string (str dt)), (5, .int .u64 (opn : Int)), (6, .slice A n c)] a'.tmps _ hsz (by
      intro x hx
      simp only [List.mem_cons, List.not_mem_nil, or_false] at hx
      rcases hx with h | h | h | h | h | h | h | h | h | h | h | h <;> subst h
      · exact f17
      · exact f18
      · exact f19
      · exact f20
      · exact f21
      · exact f22
      · exact f23
      · exact f24
      · exact e3'
      · exact f4
      · exact f5
      · exact f6) (fun t ht => hkp t (Flo3.writes_not _ _ (by kernel_rfl) ht))
    have ha := Flo3.act_ext hfr hdf
    have HB2 := hide (HB1.out.trans (hb'.mono HB1.out.size))
    have HX2 := hide (show BoxH ⟨kd, ix, ct, bt, op, lp, ln⟩ k w' from hz)
    clear hfr hwr hkp hsz hdf e3 e3' hz hb' hk hΦ HX1 HB1 Hg c0 c1 c2 c3 c4 c5 c6 c7 c8 c9 f17 f18 f19 f20 f21 f22 f23 f24 f4 f5 f6
    subst ha
    simp only [Flo2.puts, List.foldl_cons, List.foldl_nil, List.setIfInBounds_toArray, List.set, Exit.inBlock, Exit.then]
    generalize w' = w2 at *
    go_wp2_with fail
    (with_reducible refine (awake15_any _).mono ?_)
    rintro e w3 ⟨rfl, hb⟩
    have HB3 := hide (HB2.out.trans (hb.mono HB2.out.size))
    clear hb
    go_wp2
    go_ret
    exact ⟨rfl, HB3.out⟩
end Go.Proofs.Ytppecnimpnlipaa
