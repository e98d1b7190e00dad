/-
  CONTRACTS: among at both kinds, With, Voided, given what slices.Sort does to the one list. (By gen/TbV.gen.py.)
  CONTRACTS: slices.Sort of a single number, at both kinds; awake. (By gen/TbW.gen.py.)
  CONTRACT of awake (layer 16).
-/
import Derived.Test.YtigpplckddnghaaGreatTbO
import Derived.Test.YtigpplckddnghaaGreatTbF
import Derived.Test.YtigpplckddnghaaGreatShelf
namespace Go.Proofs.YtigpplckddnghaaGreat
open Go.RowKit
set_option maxRecDepth 8000

/-- A table with a number more among the bad ones, or among the void ones. -/
def addB (t : Tb) (z : Int) (l' : List Int) : Tb := ⟨t.seq, if z ∈ t.bad then t.bad else l', t.wear, t.void⟩
def addV (t : Tb) (z : Int) (l' : List Int) : Tb := ⟨t.seq, t.bad, t.wear, if z ∈ t.void then t.void else l'⟩
theorem OwnT.up {y : Tl} {B B' : Nat} {W : World} (h : OwnT y B W) (hB : B' ≤ B) : OwnT y B' W := ⟨own_up h.o1 hB, own_up h.o2 hB, own_up h.o3 hB, h.apart⟩
theorem apart_kept {y : Tl} {B : Nat} {W : World} (OT : OwnT y B W) : (Value.slice y.A2 y.t.wear.length y.c2).ownBlock = none ∨ (Value.slice y.A2 y.t.wear.length y.c2).ownBlock ≠ (Value.slice y.A1 y.t.bad.length y.c1).ownBlock := by
  rcases OT.apart with h | h
  · rcases own_none_or OT.o2 with h2 | ⟨g, h2, _, _⟩
    · exact .inl h2
    · exact .inr (by rw [h, h2]; simp)
  · exact .inr h
theorem rows_ok (y : Tl) (B : Nat) (W : World) (o1 : W.ownsRow B 3 1 (.slice y.A1 y.t.bad.length y.c1) y.t.bad.length (nums .i64 y.t.bad)) (o2 : W.ownsRow B 3 1 (.slice y.A2 y.t.wear.length y.c2) y.t.wear.length (nums .i64 y.t.wear)) (o3 : W.ownsRow B 22 1 (.slice y.A3 y.t.void.length y.c3) y.t.void.length (nums .u64 y.t.void))
    (hp : ∀ z ∈ y.t.void, 0 ≤ z) (hs : y.t.seq < 18446744073709551616) (ht : ∀ z ∈ y.t.void, z < 18446744073709551616) : y.Ok W W.heap.size := by
  obtain ⟨A1, k1, e1, h1, _⟩ := own_form o1
  obtain ⟨A2, k2, e2, h2, _⟩ := own_form o2
  obtain ⟨A3, k3, e3, h3, _⟩ := own_form o3
  injection e1 with _ _ f1
  injection e2 with _ _ f2
  injection e3 with _ _ f3
  exact ⟨Lies.of_own o1, Lies.of_own o2, Lies.of_own o3, by omega, by omega, by omega, hp, hs, ht⟩

/-- What slices.Sort does to a list and a number behind it. -/
def SortI (l : List Int) (z : Int) (l' : List Int) : Prop := l'.length = l.length + 1 ∧ ∀ (base : Nat) (A : Option Addr) (c : Nat) (W : World), W.ownsRow base 3 1 (.slice A (l.length + 1) c) (l.length + 1) (nums .i64 (l ++ [z])) → base ≤ W.heap.size →
  Calls Tryz.prog 66 #[.slice A (l.length + 1) c] W fun e w' => e = .returned (.tuple #[]) ∧ w'.ownsRow base 3 1 (.slice A (l.length + 1) c) (l.length + 1) (nums .i64 l') ∧ W.grownBy w' (Value.slice A (l.length + 1) c).ownBlock
set_option maxHeartbeats 2000000 in
theorem among_int (A : Option Addr) (n c base : Nat) (l l' : List Int) (z : Int) (w : World) (ho : w.ownsRow base 3 1 (.slice A n c) n (nums .i64 l)) (hn : n = l.length) (hb : base ≤ w.heap.size) (hbig : n ≤ 1000) (hS : z ∉ l → SortI l z l') :
    Calls Tryz.prog 34 #[.slice A n c, .int .i64 z] w fun e w' => ∃ A' c', e = .returned (.slice A' (if z ∈ l then l else l').length c') ∧ w'.ownsRow base 3 1 (.slice A' (if z ∈ l then l else l').length c') (if z ∈ l then l else l').length (nums .i64 (if z ∈ l then l else l')) ∧
      w.grownBy w' (Value.slice A n c).ownBlock := by
  have Fc := hide (contains_int A n c w.heap.size l z w (Lies.of_own ho) hn (by omega))
  by_cases hz : z ∈ l
  · rw [if_pos hz]
    rw [decide_eq_true hz] at Fc
    rw [← hn]
    have Ho := hide ho
    clear ho hn hb hbig hS hz
    go_enter Tryz.func34, Tryz.ntmps34
    go_wp2_with fail
    (with_reducible refine Fc.out.mono ?_)
    rintro e w1 ⟨rfl, rfl⟩
    go_wp2
    go_ret
    exact ⟨A, c, rfl, Ho.out, World.grownBy.refl _ _⟩
  · rw [if_neg hz]
    rw [decide_eq_false hz] at Fc
    obtain ⟨hl, hF⟩ := hS hz
    have Ho := hide ho
    have Hn := hide hn
    have HF := hide hF
    have Hl := hide hl
    have Hb := hide hb
    subst hn
    clear ho hb hS hz hF hl
    go_enter Tryz.func34, Tryz.ntmps34
    go_wp2_with fail
    (with_reducible refine Fc.out.mono ?_)
    rintro e w1 ⟨rfl, rfl⟩
    clear Fc
    go_wp2_with (at_builtin; refine wpl_app _ rfl i64elems (.tmp 9) (.tmp 11) rfl base (.slice A l.length c) l.length _ rfl (Ho.out.alloc _) (w.heap.size + 1) (some ⟨w.heap.size, 0, none⟩) 1 1 _ rfl (by rfl) (Lies.new w _ _ _ _ (Nat.lt_succ_self _)) (by simp [Value.oneCell']) (by unfold maxLen; omega) (by omega) (by have := Hb.out; simp; omega) ?_; intro A2 c2 w5 hown hg hat; have Hw := hide hown; have HG := hide hg; have Hat := hide hat; have FS := hide (HF.out base A2 c2 w5 (by rw [nums_app]; exact hown) (Nat.le_trans Hb.out (Nat.le_trans (by simp) hg.size))); clear hown hg hat)
    (with_reducible refine FS.out.mono ?_)
    rintro e w6 ⟨rfl, ho6, hg6⟩
    have Ho6 := hide ho6
    have Hg6 := hide hg6
    clear ho6 hg6 FS
    go_wp2
    go_ret
    rw [Hl.out]
    refine ⟨A2, c2, rfl, Ho6.out, ⟨Hg6.out.os.trans HG.out.os, Hg6.out.tape.trans HG.out.tape, Hg6.out.output.trans HG.out.output, Nat.le_trans (Nat.le_trans (by simp) HG.out.size) Hg6.out.size, fun b hb hne => ?_⟩⟩
    have h1 : w5.heap[b]? = w.heap[b]? := (HG.out.block b (by simp; omega) hne).trans (Below.heap_alloc _ _ _ hb)
    refine (Hg6.out.block b (Nat.lt_of_lt_of_le hb (Nat.le_trans (by simp) HG.out.size)) ?_).trans h1
    rcases Hat.out with h | h
    · rw [h]; exact hne
    · rw [h]; intro he; injection he with he; simp at he; omega

/-- What slices.Sort does to a list and a number behind it. -/
def SortU (l : List Int) (z : Int) (l' : List Int) : Prop := l'.length = l.length + 1 ∧ ∀ (base : Nat) (A : Option Addr) (c : Nat) (W : World), W.ownsRow base 22 1 (.slice A (l.length + 1) c) (l.length + 1) (nums .u64 (l ++ [z])) → base ≤ W.heap.size →
  Calls Tryz.prog 67 #[.slice A (l.length + 1) c] W fun e w' => e = .returned (.tuple #[]) ∧ w'.ownsRow base 22 1 (.slice A (l.length + 1) c) (l.length + 1) (nums .u64 l') ∧ W.grownBy w' (Value.slice A (l.length + 1) c).ownBlock
set_option maxHeartbeats 2000000 in
theorem among_u64 (A : Option Addr) (n c base : Nat) (l l' : List Int) (z : Int) (w : World) (ho : w.ownsRow base 22 1 (.slice A n c) n (nums .u64 l)) (hn : n = l.length) (hb : base ≤ w.heap.size) (hbig : n ≤ 1000) (hS : z ∉ l → SortU l z l') :
    Calls Tryz.prog 35 #[.slice A n c, .int .u64 z] w fun e w' => ∃ A' c', e = .returned (.slice A' (if z ∈ l then l else l').length c') ∧ w'.ownsRow base 22 1 (.slice A' (if z ∈ l then l else l').length c') (if z ∈ l then l else l').length (nums .u64 (if z ∈ l then l else l')) ∧
      w.grownBy w' (Value.slice A n c).ownBlock := by
  have Fc := hide (contains_u64 A n c w.heap.size l z w (Lies.of_own ho) hn (by omega))
  by_cases hz : z ∈ l
  · rw [if_pos hz]
    rw [decide_eq_true hz] at Fc
    rw [← hn]
    have Ho := hide ho
    clear ho hn hb hbig hS hz
    go_enter Tryz.func35, Tryz.ntmps35
    go_wp2_with fail
    (with_reducible refine Fc.out.mono ?_)
    rintro e w1 ⟨rfl, rfl⟩
    go_wp2
    go_ret
    exact ⟨A, c, rfl, Ho.out, World.grownBy.refl _ _⟩
  · rw [if_neg hz]
    rw [decide_eq_false hz] at Fc
    obtain ⟨hl, hF⟩ := hS hz
    have Ho := hide ho
    have Hn := hide hn
    have HF := hide hF
    have Hl := hide hl
    have Hb := hide hb
    subst hn
    clear ho hb hS hz hF hl
    go_enter Tryz.func35, Tryz.ntmps35
    go_wp2_with fail
    (with_reducible refine Fc.out.mono ?_)
    rintro e w1 ⟨rfl, rfl⟩
    clear Fc
    go_wp2_with (at_builtin; refine wpl_app _ rfl u64elems (.tmp 9) (.tmp 11) rfl base (.slice A l.length c) l.length _ rfl (Ho.out.alloc _) (w.heap.size + 1) (some ⟨w.heap.size, 0, none⟩) 1 1 _ rfl (by rfl) (Lies.new w _ _ _ _ (Nat.lt_succ_self _)) (by simp [Value.oneCell']) (by unfold maxLen; omega) (by omega) (by have := Hb.out; simp; omega) ?_; intro A2 c2 w5 hown hg hat; have Hw := hide hown; have HG := hide hg; have Hat := hide hat; have FS := hide (HF.out base A2 c2 w5 (by rw [nums_app]; exact hown) (Nat.le_trans Hb.out (Nat.le_trans (by simp) hg.size))); clear hown hg hat)
    (with_reducible refine FS.out.mono ?_)
    rintro e w6 ⟨rfl, ho6, hg6⟩
    have Ho6 := hide ho6
    have Hg6 := hide hg6
    clear ho6 hg6 FS
    go_wp2
    go_ret
    rw [Hl.out]
    refine ⟨A2, c2, rfl, Ho6.out, ⟨Hg6.out.os.trans HG.out.os, Hg6.out.tape.trans HG.out.tape, Hg6.out.output.trans HG.out.output, Nat.le_trans (Nat.le_trans (by simp) HG.out.size) Hg6.out.size, fun b hb hne => ?_⟩⟩
    have h1 : w5.heap[b]? = w.heap[b]? := (HG.out.block b (by simp; omega) hne).trans (Below.heap_alloc _ _ _ hb)
    refine (Hg6.out.block b (Nat.lt_of_lt_of_le hb (Nat.le_trans (by simp) HG.out.size)) ?_).trans h1
    rcases Hat.out with h | h
    · rw [h]; exact hne
    · rw [h]; intro he; injection he with he; simp at he; omega

set_option maxHeartbeats 4000000 in
theorem with_any (x : Tl) (z : Int) (l' : List Int) (B : Nat) (w : World) (hx : x.Ok w B) (hf : x.Few) (hB : B ≤ w.heap.size) (hS : z ∉ x.t.bad → SortI x.t.bad z l') :
    Calls Tryz.prog 9 #[x.val, .int .i64 z] w fun e w' => ∃ y : Tl, e = .returned y.val ∧ y.t = addB x.t z l' ∧ y.Ok w' w'.heap.size ∧ Below w.heap.size w w' ∧ y.Hi (w.heap.size + 2) := by
  have hb1 := (Below.refl w.heap.size w).alloc (Nat.le_refl _) (.cells x.cells.toArray 26)
  have hb2 := hb1.alloc hb1.size (.cells #[.int .u64 0, .slice none 0 0, .slice none 0 0, .slice none 0 0] 26)
  have hx2 : BoxT x w.heap.size ((w.alloc (.cells x.cells.toArray 26)).alloc (.cells #[.int .u64 0, .slice none 0 0, .slice none 0 0, .slice none 0 0] 26)) := (BoxT.new x w).below ((Below.refl _ _).alloc (Nat.le_refl _) _) (BoxT.new x w).lt
  have hz2 : BoxT zeroTl (w.heap.size + 1) ((w.alloc (.cells x.cells.toArray 26)).alloc (.cells #[.int .u64 0, .slice none 0 0, .slice none 0 0, .slice none 0 0] 26)) := by
    have := BoxT.new zeroTl (w.alloc (.cells x.cells.toArray 26))
    rwa [show (w.alloc (.cells x.cells.toArray 26)).heap.size = w.heap.size + 1 by simp] at this
  have hs2 : ((w.alloc (.cells x.cells.toArray 26)).alloc (.cells #[.int .u64 0, .slice none 0 0, .slice none 0 0, .slice none 0 0] 26)).heap.size = w.heap.size + 2 := by simp
  have Fo := hide (own_tb x B _ (hx.below (hb2.mono hB)) hf (Nat.le_trans hB hb2.size))
  have HS := hide hS
  have Hf := hide hf
  have Hps := hide hx.pos
  have Hsq := hide hx.seq
  have Htp := hide hx.top
  have e0 : x.val = .agg #[.int .u64 (x.t.seq : Int), .slice x.A1 x.t.bad.length x.c1, .slice x.A2 x.t.wear.length x.c2, .slice x.A3 x.t.void.length x.c3] := rfl
  have e1 : x.cells.toArray = #[.int .u64 (x.t.seq : Int), .slice x.A1 x.t.bad.length x.c1, .slice x.A2 x.t.wear.length x.c2, .slice x.A3 x.t.void.length x.c3] := rfl
  rw [e0] at Fo ⊢
  rw [e1] at hb2 hx2 hz2 hs2 Fo
  have HB2 := hide hb2
  have HX2 := hide hx2
  have HZ2 := hide hz2
  have HS2 := hide hs2
  clear hb1 hb2 hx2 hz2 hs2 e0 e1 hx hf hB hS
  go_enter Tryz.func9, Tryz.ntmps9
  go_upto_region 1 with fail
  generalize (w.alloc (.cells #[.int .u64 (x.t.seq : Int), .slice x.A1 x.t.bad.length x.c1, .slice x.A2 x.t.wear.length x.c2, .slice x.A3 x.t.void.length x.c3] 26)).alloc (.cells #[.int .u64 0, .slice none 0 0, .slice none 0 0, .slice none 0 0] 26) = w2 at *
  have c0 := HX2.out.c 0 _ rfl
  have c1 := HX2.out.c 1 _ rfl
  have c2 := HX2.out.c 2 _ rfl
  have c3 := HX2.out.c 3 _ rfl
  go_wp2_with fail
  (with_reducible refine Fo.out.mono ?_)
  rintro e w3 ⟨y, rfl, hyt, hot, hb⟩
  have HB3 := hide (HB2.out.trans (hb.mono HB2.out.size))
  have hx3 := HX2.out.below hb HX2.out.lt
  have hz3 := HZ2.out.below hb HZ2.out.lt
  have Hyt := hide hyt
  have f0 := hx3.free 0
  have f1 := hx3.free 1
  have f2 := hx3.free 2
  have f3 := hx3.free 3
  have d0 := hx3.c 0 _ rfl
  have d1 := hx3.c 1 _ rfl
  have d2 := hx3.c 2 _ rfl
  have d3 := hx3.c 3 _ rfl
  have hot2 := hot.up (show w.heap.size + 2 ≤ w2.heap.size + 2 by rw [HS2.out]; omega)
  have e0 : y.val = .agg #[.int .u64 (y.t.seq : Int), .slice y.A1 y.t.bad.length y.c1, .slice y.A2 y.t.wear.length y.c2, .slice y.A3 y.t.void.length y.c3] := rfl
  rw [e0]
  have BY4 := boxT4 (x := y) hx3
  have OT4 := (((hot2.set (k := w.heap.size) (j := 0) (u := .int .u64 (y.t.seq : Int)) (by omega)).set (k := w.heap.size) (j := 1) (u := .slice y.A1 y.t.bad.length y.c1) (by omega)).set (k := w.heap.size) (j := 2) (u := .slice y.A2 y.t.wear.length y.c2) (by omega)).set (k := w.heap.size) (j := 3) (u := .slice y.A3 y.t.void.length y.c3) (by omega)
  have BZ4 : BoxT zeroTl (w.heap.size + 1) ((((w3.setCell ⟨w.heap.size, 0, none⟩ (.int .u64 (y.t.seq : Int))).setCell ⟨w.heap.size, 1, none⟩ (.slice y.A1 y.t.bad.length y.c1)).setCell ⟨w.heap.size, 2, none⟩ (.slice y.A2 y.t.wear.length y.c2)).setCell ⟨w.heap.size, 3, none⟩ (.slice y.A3 y.t.void.length y.c3)) :=
    (Below.heap_setCell _ ⟨w.heap.size, 3, none⟩ _ _ (by simp)).trans ((Below.heap_setCell _ ⟨w.heap.size, 2, none⟩ _ _ (by simp)).trans ((Below.heap_setCell _ ⟨w.heap.size, 1, none⟩ _ _ (by simp)).trans ((Below.heap_setCell _ ⟨w.heap.size, 0, none⟩ _ _ (by simp)).trans hz3)))
  have HB4 := hide (below4 HB3.out (Nat.le_refl _) (.int .u64 (y.t.seq : Int)) (.slice y.A1 y.t.bad.length y.c1) (.slice y.A2 y.t.wear.length y.c2) (.slice y.A3 y.t.void.length y.c3))
  have Hsz := hide (show w.heap.size + 2 ≤ w3.heap.size from by rw [← HS2.out]; exact hb.size)
  clear hb hx3 hz3 hyt hot hot2 Fo c0 c1 c2 c3 HB2 HX2 HZ2 HB3
  have HBY := hide BY4
  have HOT := hide OT4
  have HBZ := hide BZ4
  clear BY4 OT4 BZ4
  go_upto_region 2 with fail
  clear d0 d1 d2 d3 f0 f1 f2 f3 e0
  have Hsz4 : Hid (w.heap.size + 2 ≤ ((((w3.setCell ⟨w.heap.size, 0, none⟩ (.int .u64 (y.t.seq : Int))).setCell ⟨w.heap.size, 1, none⟩ (.slice y.A1 y.t.bad.length y.c1)).setCell ⟨w.heap.size, 2, none⟩ (.slice y.A2 y.t.wear.length y.c2)).setCell ⟨w.heap.size, 3, none⟩ (.slice y.A3 y.t.void.length y.c3)).heap.size) := hide (by have := Hsz.out; simp [World.setCell]; omega)
  generalize ((((w3.setCell ⟨w.heap.size, 0, none⟩ (.int .u64 (y.t.seq : Int))).setCell ⟨w.heap.size, 1, none⟩ (.slice y.A1 y.t.bad.length y.c1)).setCell ⟨w.heap.size, 2, none⟩ (.slice y.A2 y.t.wear.length y.c2)).setCell ⟨w.heap.size, 3, none⟩ (.slice y.A3 y.t.void.length y.c3)) = w4 at *
  have c1 := HBY.out.c 1 _ rfl
  have Fa := hide (among_int y.A1 y.t.bad.length y.c1 (w.heap.size + 2) y.t.bad l' z w4 HOT.out.o1 rfl Hsz4.out (by rw [Hyt.out]; exact Hf.out.f1) (by rw [Hyt.out]; exact HS.out))
  obtain ⟨L, hL⟩ : ∃ L, Hid (L = if z ∈ y.t.bad then y.t.bad else l') := ⟨_, hide rfl⟩
  rw [← hL.out] at Fa
  go_wp2_with fail
  (with_reducible refine Fa.out.mono ?_)
  rintro e w5 ⟨A6, k6, rfl, ho, hg⟩
  have OT := HOT.out
  have hk := own_none_or OT.o1
  have hgo : ∀ b, b < w.heap.size + 2 → w5.heap[b]? = w4.heap[b]? := fun b hb => hg.block b (Nat.lt_of_lt_of_le hb Hsz4.out) (fun e => by
    rcases hk with h | ⟨g, h, h1, _⟩ <;> rw [h] at e
    · cases e
    · injection e with e; omega)
  have hx5 : BoxT y w.heap.size w5 := (hgo _ (by omega)).trans HBY.out
  have hz5 : BoxT zeroTl (w.heap.size + 1) w5 := (hgo _ (by omega)).trans HBZ.out
  have r1 := ho
  have r2 := OT.o2.kept hg (apart_kept OT)
  have r3 := OT.o3.kept hg (own_ne2 OT.o1 OT.o3 (by decide))
  have hb5 : Below w.heap.size w w5 := HB4.out.trans ⟨hg.os, hg.tape, hg.output, hg.size, fun b hb => hgo b (by omega)⟩
  have d0 := hx5.c 0 _ rfl
  have d1 := hx5.c 1 _ rfl
  have d2 := hx5.c 2 _ rfl
  have d3 := hx5.c 3 _ rfl
  have f1 := hx5.free 1
  have BY6 : BoxT (Tl.mk ⟨y.t.seq, L, y.t.wear, y.t.void⟩ A6 y.A2 y.A3 k6 y.c2 y.c3) w.heap.size (w5.setCell ⟨w.heap.size, 1, none⟩ (.slice A6 L.length k6)) := heap_set hx5 1 (.slice A6 L.length k6)
  have BZ6 : BoxT zeroTl (w.heap.size + 1) (w5.setCell ⟨w.heap.size, 1, none⟩ (.slice A6 L.length k6)) := (Below.heap_setCell _ ⟨w.heap.size, 1, none⟩ _ _ (by simp)).trans hz5
  have R1 := hide (own_set (j := 1) (u := .slice A6 L.length k6) r1 (show w.heap.size < w.heap.size + 2 by omega))
  have R2 := hide (own_set (j := 1) (u := .slice A6 L.length k6) r2 (show w.heap.size < w.heap.size + 2 by omega))
  have R3 := hide (own_set (j := 1) (u := .slice A6 L.length k6) r3 (show w.heap.size < w.heap.size + 2 by omega))
  have HB6 := hide (hb5.setCell (p := ⟨w.heap.size, 1, none⟩) (Nat.le_refl _) (.slice A6 L.length k6))
  have HBY6 := hide BY6
  have HBZ6 := hide BZ6
  clear ho hg hk hgo hx5 hz5 r1 r2 r3 hb5 Fa c1 BY6 BZ6 OT HOT HBY HBZ HB4
  go_upto_region 3 with fail
  clear d0 d1 d2 d3 f1
  generalize w5.setCell ⟨w.heap.size, 1, none⟩ (.slice A6 L.length k6) = w6 at *
  have c0 := HBY6.out.c 0 _ rfl
  have c1 := HBY6.out.c 1 _ rfl
  have c2 := HBY6.out.c 2 _ rfl
  have c3 := HBY6.out.c 3 _ rfl
  dsimp only at c0 c1 c2 c3
  have z0 := HBZ6.out.c 0 _ rfl
  have z1 := HBZ6.out.c 1 _ rfl
  have z2 := HBZ6.out.c 2 _ rfl
  have z3 := HBZ6.out.c 3 _ rfl
  have y0 := HBZ6.out.free 0
  have y1 := HBZ6.out.free 1
  have y2 := HBZ6.out.free 2
  have y3 := HBZ6.out.free 3
  go_wp2
  refine bodyPost_ret (v := (Tl.mk ⟨y.t.seq, L, y.t.wear, y.t.void⟩ A6 y.A2 y.A3 k6 y.c2 y.c3).val) ?_ rfl ⟨Tl.mk ⟨y.t.seq, L, y.t.wear, y.t.void⟩ A6 y.A2 y.A3 k6 y.c2 y.c3, rfl, ?_, rows_ok (Tl.mk ⟨y.t.seq, L, y.t.wear, y.t.void⟩ A6 y.A2 y.A3 k6 y.c2 y.c3) (w.heap.size + 2) _ (own_set (own_set (own_set (own_set R1.out (by omega)) (by omega)) (by omega)) (by omega)) (own_set (own_set (own_set (own_set R2.out (by omega)) (by omega)) (by omega)) (by omega)) (own_set (own_set (own_set (own_set R3.out (by omega)) (by omega)) (by omega)) (by omega)) ?_ ?_ ?_, below4 HB6.out (Nat.le_succ _) _ _ _ _, ⟨hi_of_own R1.out, hi_of_own R2.out, hi_of_own R3.out⟩⟩
  · rw [results_cell1P rfl]
    simp only [asAddr, Array.getD]
    exact load_table (boxT4 (x := Tl.mk ⟨y.t.seq, L, y.t.wear, y.t.void⟩ A6 y.A2 y.A3 k6 y.c2 y.c3) HBZ6.out)
  · have h9 := Hyt.out
    rw [← h9]
    show Tb.mk _ _ _ _ = _
    rw [hL.out]
    rfl
  · intro q hq; exact Hps.out q (by have := Hyt.out; rw [← this]; exact hq)
  · show y.t.seq < _
    rw [Hyt.out]; exact Hsq.out
  · intro q hq; exact Htp.out q (by have := Hyt.out; rw [← this]; exact hq)

set_option maxHeartbeats 4000000 in
theorem voided_any (x : Tl) (z : Int) (l' : List Int) (B : Nat) (w : World) (hx : x.Ok w B) (hf : x.Few) (hB : B ≤ w.heap.size) (hS : z ∉ x.t.void → SortU x.t.void z l') (hp2 : ∀ y ∈ l', 0 ≤ y ∧ y < 18446744073709551616) :
    Calls Tryz.prog 10 #[x.val, .int .u64 z] w fun e w' => ∃ y : Tl, e = .returned y.val ∧ y.t = addV x.t z l' ∧ y.Ok w' w'.heap.size ∧ Below w.heap.size w w' ∧ y.Hi (w.heap.size + 2) := by
  have hb1 := (Below.refl w.heap.size w).alloc (Nat.le_refl _) (.cells x.cells.toArray 26)
  have hb2 := hb1.alloc hb1.size (.cells #[.int .u64 0, .slice none 0 0, .slice none 0 0, .slice none 0 0] 26)
  have hx2 : BoxT x w.heap.size ((w.alloc (.cells x.cells.toArray 26)).alloc (.cells #[.int .u64 0, .slice none 0 0, .slice none 0 0, .slice none 0 0] 26)) := (BoxT.new x w).below ((Below.refl _ _).alloc (Nat.le_refl _) _) (BoxT.new x w).lt
  have hz2 : BoxT zeroTl (w.heap.size + 1) ((w.alloc (.cells x.cells.toArray 26)).alloc (.cells #[.int .u64 0, .slice none 0 0, .slice none 0 0, .slice none 0 0] 26)) := by
    have := BoxT.new zeroTl (w.alloc (.cells x.cells.toArray 26))
    rwa [show (w.alloc (.cells x.cells.toArray 26)).heap.size = w.heap.size + 1 by simp] at this
  have hs2 : ((w.alloc (.cells x.cells.toArray 26)).alloc (.cells #[.int .u64 0, .slice none 0 0, .slice none 0 0, .slice none 0 0] 26)).heap.size = w.heap.size + 2 := by simp
  have Fo := hide (own_tb x B _ (hx.below (hb2.mono hB)) hf (Nat.le_trans hB hb2.size))
  have Hp2 := hide hp2
  have HS := hide hS
  have Hf := hide hf
  have Hps := hide hx.pos
  have Hsq := hide hx.seq
  have Htp := hide hx.top
  have e0 : x.val = .agg #[.int .u64 (x.t.seq : Int), .slice x.A1 x.t.bad.length x.c1, .slice x.A2 x.t.wear.length x.c2, .slice x.A3 x.t.void.length x.c3] := rfl
  have e1 : x.cells.toArray = #[.int .u64 (x.t.seq : Int), .slice x.A1 x.t.bad.length x.c1, .slice x.A2 x.t.wear.length x.c2, .slice x.A3 x.t.void.length x.c3] := rfl
  rw [e0] at Fo ⊢
  rw [e1] at hb2 hx2 hz2 hs2 Fo
  have HB2 := hide hb2
  have HX2 := hide hx2
  have HZ2 := hide hz2
  have HS2 := hide hs2
  clear hb1 hb2 hx2 hz2 hs2 e0 e1 hx hf hB hS
  go_enter Tryz.func10, Tryz.ntmps10
  go_upto_region 1 with fail
  generalize (w.alloc (.cells #[.int .u64 (x.t.seq : Int), .slice x.A1 x.t.bad.length x.c1, .slice x.A2 x.t.wear.length x.c2, .slice x.A3 x.t.void.length x.c3] 26)).alloc (.cells #[.int .u64 0, .slice none 0 0, .slice none 0 0, .slice none 0 0] 26) = w2 at *
  have c0 := HX2.out.c 0 _ rfl
  have c1 := HX2.out.c 1 _ rfl
  have c2 := HX2.out.c 2 _ rfl
  have c3 := HX2.out.c 3 _ rfl
  go_wp2_with fail
  (with_reducible refine Fo.out.mono ?_)
  rintro e w3 ⟨y, rfl, hyt, hot, hb⟩
  have HB3 := hide (HB2.out.trans (hb.mono HB2.out.size))
  have hx3 := HX2.out.below hb HX2.out.lt
  have hz3 := HZ2.out.below hb HZ2.out.lt
  have Hyt := hide hyt
  have f0 := hx3.free 0
  have f1 := hx3.free 1
  have f2 := hx3.free 2
  have f3 := hx3.free 3
  have d0 := hx3.c 0 _ rfl
  have d1 := hx3.c 1 _ rfl
  have d2 := hx3.c 2 _ rfl
  have d3 := hx3.c 3 _ rfl
  have hot2 := hot.up (show w.heap.size + 2 ≤ w2.heap.size + 2 by rw [HS2.out]; omega)
  have e0 : y.val = .agg #[.int .u64 (y.t.seq : Int), .slice y.A1 y.t.bad.length y.c1, .slice y.A2 y.t.wear.length y.c2, .slice y.A3 y.t.void.length y.c3] := rfl
  rw [e0]
  have BY4 := boxT4 (x := y) hx3
  have OT4 := (((hot2.set (k := w.heap.size) (j := 0) (u := .int .u64 (y.t.seq : Int)) (by omega)).set (k := w.heap.size) (j := 1) (u := .slice y.A1 y.t.bad.length y.c1) (by omega)).set (k := w.heap.size) (j := 2) (u := .slice y.A2 y.t.wear.length y.c2) (by omega)).set (k := w.heap.size) (j := 3) (u := .slice y.A3 y.t.void.length y.c3) (by omega)
  have BZ4 : BoxT zeroTl (w.heap.size + 1) ((((w3.setCell ⟨w.heap.size, 0, none⟩ (.int .u64 (y.t.seq : Int))).setCell ⟨w.heap.size, 1, none⟩ (.slice y.A1 y.t.bad.length y.c1)).setCell ⟨w.heap.size, 2, none⟩ (.slice y.A2 y.t.wear.length y.c2)).setCell ⟨w.heap.size, 3, none⟩ (.slice y.A3 y.t.void.length y.c3)) :=
    (Below.heap_setCell _ ⟨w.heap.size, 3, none⟩ _ _ (by simp)).trans ((Below.heap_setCell _ ⟨w.heap.size, 2, none⟩ _ _ (by simp)).trans ((Below.heap_setCell _ ⟨w.heap.size, 1, none⟩ _ _ (by simp)).trans ((Below.heap_setCell _ ⟨w.heap.size, 0, none⟩ _ _ (by simp)).trans hz3)))
  have HB4 := hide (below4 HB3.out (Nat.le_refl _) (.int .u64 (y.t.seq : Int)) (.slice y.A1 y.t.bad.length y.c1) (.slice y.A2 y.t.wear.length y.c2) (.slice y.A3 y.t.void.length y.c3))
  have Hsz := hide (show w.heap.size + 2 ≤ w3.heap.size from by rw [← HS2.out]; exact hb.size)
  clear hb hx3 hz3 hyt hot hot2 Fo c0 c1 c2 c3 HB2 HX2 HZ2 HB3
  have HBY := hide BY4
  have HOT := hide OT4
  have HBZ := hide BZ4
  clear BY4 OT4 BZ4
  go_upto_region 2 with fail
  clear d0 d1 d2 d3 f0 f1 f2 f3 e0
  have Hsz4 : Hid (w.heap.size + 2 ≤ ((((w3.setCell ⟨w.heap.size, 0, none⟩ (.int .u64 (y.t.seq : Int))).setCell ⟨w.heap.size, 1, none⟩ (.slice y.A1 y.t.bad.length y.c1)).setCell ⟨w.heap.size, 2, none⟩ (.slice y.A2 y.t.wear.length y.c2)).setCell ⟨w.heap.size, 3, none⟩ (.slice y.A3 y.t.void.length y.c3)).heap.size) := hide (by have := Hsz.out; simp [World.setCell]; omega)
  generalize ((((w3.setCell ⟨w.heap.size, 0, none⟩ (.int .u64 (y.t.seq : Int))).setCell ⟨w.heap.size, 1, none⟩ (.slice y.A1 y.t.bad.length y.c1)).setCell ⟨w.heap.size, 2, none⟩ (.slice y.A2 y.t.wear.length y.c2)).setCell ⟨w.heap.size, 3, none⟩ (.slice y.A3 y.t.void.length y.c3)) = w4 at *
  have c3 := HBY.out.c 3 _ rfl
  have Fa := hide (among_u64 y.A3 y.t.void.length y.c3 (w.heap.size + 2) y.t.void l' z w4 HOT.out.o3 rfl Hsz4.out (by rw [Hyt.out]; exact Hf.out.f3) (by rw [Hyt.out]; exact HS.out))
  obtain ⟨L, hL⟩ : ∃ L, Hid (L = if z ∈ y.t.void then y.t.void else l') := ⟨_, hide rfl⟩
  rw [← hL.out] at Fa
  go_wp2_with fail
  (with_reducible refine Fa.out.mono ?_)
  rintro e w5 ⟨A6, k6, rfl, ho, hg⟩
  have OT := HOT.out
  have hk := own_none_or OT.o3
  have hgo : ∀ b, b < w.heap.size + 2 → w5.heap[b]? = w4.heap[b]? := fun b hb => hg.block b (Nat.lt_of_lt_of_le hb Hsz4.out) (fun e => by
    rcases hk with h | ⟨g, h, h1, _⟩ <;> rw [h] at e
    · cases e
    · injection e with e; omega)
  have hx5 : BoxT y w.heap.size w5 := (hgo _ (by omega)).trans HBY.out
  have hz5 : BoxT zeroTl (w.heap.size + 1) w5 := (hgo _ (by omega)).trans HBZ.out
  have r1 := OT.o1.kept hg (own_ne2 OT.o3 OT.o1 (by decide))
  have r2 := OT.o2.kept hg (own_ne2 OT.o3 OT.o2 (by decide))
  have r3 := ho
  have hb5 : Below w.heap.size w w5 := HB4.out.trans ⟨hg.os, hg.tape, hg.output, hg.size, fun b hb => hgo b (by omega)⟩
  have d0 := hx5.c 0 _ rfl
  have d1 := hx5.c 1 _ rfl
  have d2 := hx5.c 2 _ rfl
  have d3 := hx5.c 3 _ rfl
  have f3 := hx5.free 3
  have BY6 : BoxT (Tl.mk ⟨y.t.seq, y.t.bad, y.t.wear, L⟩ y.A1 y.A2 A6 y.c1 y.c2 k6) w.heap.size (w5.setCell ⟨w.heap.size, 3, none⟩ (.slice A6 L.length k6)) := heap_set hx5 3 (.slice A6 L.length k6)
  have BZ6 : BoxT zeroTl (w.heap.size + 1) (w5.setCell ⟨w.heap.size, 3, none⟩ (.slice A6 L.length k6)) := (Below.heap_setCell _ ⟨w.heap.size, 3, none⟩ _ _ (by simp)).trans hz5
  have R1 := hide (own_set (j := 3) (u := .slice A6 L.length k6) r1 (show w.heap.size < w.heap.size + 2 by omega))
  have R2 := hide (own_set (j := 3) (u := .slice A6 L.length k6) r2 (show w.heap.size < w.heap.size + 2 by omega))
  have R3 := hide (own_set (j := 3) (u := .slice A6 L.length k6) r3 (show w.heap.size < w.heap.size + 2 by omega))
  have HB6 := hide (hb5.setCell (p := ⟨w.heap.size, 3, none⟩) (Nat.le_refl _) (.slice A6 L.length k6))
  have HBY6 := hide BY6
  have HBZ6 := hide BZ6
  clear ho hg hk hgo hx5 hz5 r1 r2 r3 hb5 Fa c3 BY6 BZ6 OT HOT HBY HBZ HB4
  go_upto_region 3 with fail
  clear d0 d1 d2 d3 f3
  generalize w5.setCell ⟨w.heap.size, 3, none⟩ (.slice A6 L.length k6) = w6 at *
  have c0 := HBY6.out.c 0 _ rfl
  have c1 := HBY6.out.c 1 _ rfl
  have c2 := HBY6.out.c 2 _ rfl
  have c3 := HBY6.out.c 3 _ rfl
  dsimp only at c0 c1 c2 c3
  have z0 := HBZ6.out.c 0 _ rfl
  have z1 := HBZ6.out.c 1 _ rfl
  have z2 := HBZ6.out.c 2 _ rfl
  have z3 := HBZ6.out.c 3 _ rfl
  have y0 := HBZ6.out.free 0
  have y1 := HBZ6.out.free 1
  have y2 := HBZ6.out.free 2
  have y3 := HBZ6.out.free 3
  go_wp2
  refine bodyPost_ret (v := (Tl.mk ⟨y.t.seq, y.t.bad, y.t.wear, L⟩ y.A1 y.A2 A6 y.c1 y.c2 k6).val) ?_ rfl ⟨Tl.mk ⟨y.t.seq, y.t.bad, y.t.wear, L⟩ y.A1 y.A2 A6 y.c1 y.c2 k6, rfl, ?_, rows_ok (Tl.mk ⟨y.t.seq, y.t.bad, y.t.wear, L⟩ y.A1 y.A2 A6 y.c1 y.c2 k6) (w.heap.size + 2) _ (own_set (own_set (own_set (own_set R1.out (by omega)) (by omega)) (by omega)) (by omega)) (own_set (own_set (own_set (own_set R2.out (by omega)) (by omega)) (by omega)) (by omega)) (own_set (own_set (own_set (own_set R3.out (by omega)) (by omega)) (by omega)) (by omega)) ?_ ?_ ?_, below4 HB6.out (Nat.le_succ _) _ _ _ _, ⟨hi_of_own R1.out, hi_of_own R2.out, hi_of_own R3.out⟩⟩
  · rw [results_cell1P rfl]
    simp only [asAddr, Array.getD]
    exact load_table (boxT4 (x := Tl.mk ⟨y.t.seq, y.t.bad, y.t.wear, L⟩ y.A1 y.A2 A6 y.c1 y.c2 k6) HBZ6.out)
  · have h9 := Hyt.out
    rw [← h9]
    show Tb.mk _ _ _ _ = _
    rw [hL.out]
    rfl
  · intro q hq
    have hq' : q ∈ L := hq
    rw [hL.out] at hq'
    split at hq'
    · exact Hps.out q (by have := Hyt.out; rw [← this]; exact hq')
    · exact (Hp2.out q hq').1
  · show y.t.seq < _
    rw [Hyt.out]; exact Hsq.out
  · intro q hq
    have hq' : q ∈ L := hq
    rw [hL.out] at hq'
    split at hq'
    · exact Htp.out q (by have := Hyt.out; rw [← this]; exact hq')
    · exact (Hp2.out q hq').2

theorem ins1_int (v : Value) (W : World) : Calls Tryz.prog 126 #[v, .int .i64 0, .int .i64 1] W fun e w' => e = .returned (.tuple #[]) ∧ W = w' := by
  go_enter Tryz.func126, Tryz.ntmps126
  go_wp2
  go_loop [6] (fun i => i = .int .i64 1) (fun _ => 0)
  case atStart => rfl
  case round =>
    subst hrel
    go_wp2
    go_end0
    exact ⟨rfl, rfl⟩
theorem pdq1_int (v : Value) (L : Int) (W : World) : Calls Tryz.prog 102 #[v, .int .i64 0, .int .i64 1, .int .i64 L] W fun e w' => e = .returned (.tuple #[]) ∧ W = w' := by
  have F := hide (ins1_int v W)
  go_enter Tryz.func102, Tryz.ntmps102
  go_wp2
  go_loop [1, 2, 3, 8, 9] (fun a b c d e => a = .int .i64 0 ∧ b = .int .i64 1 ∧ c = .int .i64 L) (fun _ _ _ _ _ => 0)
  case atStart => exact ⟨rfl, rfl, rfl⟩
  case round =>
    obtain ⟨rfl, rfl, rfl⟩ := hrel
    go_wp2_with fail
    (with_reducible refine F.out.mono ?_)
    rintro e w1 ⟨rfl, rfl⟩
    clear F
    go_wp2
    first | go_end0 | ((try simp only [Exit.inBlock, Exit.then]); refine bodyPost_ret (results_none rfl _ _ _) rfl ?_)
    exact ⟨rfl, rfl⟩
theorem sort1_int (A : Option Addr) (c : Nat) (W : World) : Calls Tryz.prog 66 #[.slice A 1 c] W fun e w' => e = .returned (.tuple #[]) ∧ W = w' := by
  have F := hide (fun L => pdq1_int (.slice A 1 c) L W)
  have FL := hide (Tryz.bits_Len 1 W (by omega) (by omega))
  go_enter Tryz.func66, Tryz.ntmps66
  go_wp2_with fail
  (with_reducible refine FL.out.mono ?_)
  rintro e w1 ⟨rfl, rfl⟩
  clear FL
  generalize (Lib.bitLen (1 : Int).toNat : Int) = L at *
  go_wp2_with fail
  (with_reducible refine (F.out _).mono ?_)
  rintro e w1 ⟨rfl, rfl⟩
  clear F
  go_wp2
  go_end0
  exact ⟨rfl, rfl⟩
theorem sortNil_int (z : Int) : SortI [] z [z] := by
  refine ⟨rfl, fun base A c W ho hb => (sort1_int A c W).mono ?_⟩
  rintro e w' ⟨rfl, rfl⟩
  exact ⟨rfl, ho, World.grownBy.refl _ _⟩

theorem ins1_u64 (v : Value) (W : World) : Calls Tryz.prog 137 #[v, .int .i64 0, .int .i64 1] W fun e w' => e = .returned (.tuple #[]) ∧ W = w' := by
  go_enter Tryz.func137, Tryz.ntmps137
  go_wp2
  go_loop [6] (fun i => i = .int .i64 1) (fun _ => 0)
  case atStart => rfl
  case round =>
    subst hrel
    go_wp2
    go_end0
    exact ⟨rfl, rfl⟩
theorem pdq1_u64 (v : Value) (L : Int) (W : World) : Calls Tryz.prog 104 #[v, .int .i64 0, .int .i64 1, .int .i64 L] W fun e w' => e = .returned (.tuple #[]) ∧ W = w' := by
  have F := hide (ins1_u64 v W)
  go_enter Tryz.func104, Tryz.ntmps104
  go_wp2
  go_loop [1, 2, 3, 8, 9] (fun a b c d e => a = .int .i64 0 ∧ b = .int .i64 1 ∧ c = .int .i64 L) (fun _ _ _ _ _ => 0)
  case atStart => exact ⟨rfl, rfl, rfl⟩
  case round =>
    obtain ⟨rfl, rfl, rfl⟩ := hrel
    go_wp2_with fail
    (with_reducible refine F.out.mono ?_)
    rintro e w1 ⟨rfl, rfl⟩
    clear F
    go_wp2
    first | go_end0 | ((try simp only [Exit.inBlock, Exit.then]); refine bodyPost_ret (results_none rfl _ _ _) rfl ?_)
    exact ⟨rfl, rfl⟩
theorem sort1_u64 (A : Option Addr) (c : Nat) (W : World) : Calls Tryz.prog 67 #[.slice A 1 c] W fun e w' => e = .returned (.tuple #[]) ∧ W = w' := by
  have F := hide (fun L => pdq1_u64 (.slice A 1 c) L W)
  have FL := hide (Tryz.bits_Len 1 W (by omega) (by omega))
  go_enter Tryz.func67, Tryz.ntmps67
  go_wp2_with fail
  (with_reducible refine FL.out.mono ?_)
  rintro e w1 ⟨rfl, rfl⟩
  clear FL
  generalize (Lib.bitLen (1 : Int).toNat : Int) = L at *
  go_wp2_with fail
  (with_reducible refine (F.out _).mono ?_)
  rintro e w1 ⟨rfl, rfl⟩
  clear F
  go_wp2
  go_end0
  exact ⟨rfl, rfl⟩
theorem sortNil_u64 (z : Int) : SortU [] z [z] := by
  refine ⟨rfl, fun base A c W ho hb => (sort1_u64 A c W).mono ?_⟩
  rintro e w' ⟨rfl, rfl⟩
  exact ⟨rfl, ho, World.grownBy.refl _ _⟩

theorem getT_page {t : Tb} (h : t.May) : getT t.page = (t, 0) := by
  have hm := Tb.hd_may h
  have hd : t.data.length = t.hd.len.toNat := by show _ = ((t.data.length : Int)).toNat; rw [Int.toNat_natCast]
  obtain ⟨e1, e2⟩ := page_back t.hd t.data hm hd
  have hc := class_page t.hd t.data hm hd
  unfold getT
  rw [show t.page = pageB t.hd t.data from rfl, hc, e1, e2, read_back h, if_neg (by decide), if_pos rfl, if_pos ⟨h, rfl⟩]
theorem page_at (t : Tb) (k : Nat) (hk : k < t.data.length) : t.page.getD (24 + k) 0 = t.data.getD k 0 := by
  unfold Tb.page pageB sealB bodyB
  rw [List.getD_eq_getElem?_getD, List.getD_eq_getElem?_getD, List.append_assoc, List.append_assoc, List.getElem?_append_right (by rw [hdB_len]; omega), hdB_len, show 24 + k - 24 = k by omega, List.getElem?_append_left hk]
theorem Tl.few_iff (x : Tl) : x.Few ↔ x.t.bad.length ≤ 1000 ∧ x.t.wear.length ≤ 1000 ∧ x.t.void.length ≤ 1000 := ⟨fun h => ⟨h.f1, h.f2, h.f3⟩, fun h => ⟨h.1, h.2.1, h.2.2⟩⟩
def awT0 : Tb := ⟨4, [], [1, 2], []⟩
def awT : Tb := ⟨4, [3], [1, 2], [9]⟩
theorem awT_may : awT.May := by decide
theorem awT_24 : awT.page.getD 24 0 = 8 := by
  rw [page_at awT 0 (by rw [Tb.data_len]; omega)]
  have e : awT.data = UInt8.ofNat (mkN [3] 0) :: (seqB 1 (mkN [3]) 5).drop 1 ++ seqB 2 (fun b => (awT.wear.getD b 0).toNat) 34 ++ beB 1 awT.void.length ++ seqB 4 (fun i => (awT.void.getD i 0).toNat) awT.void.length := by
    unfold Tb.data
    congr 3
  rw [e]
  rfl
set_option maxHeartbeats 4000000 in
theorem awake16_any (w : World) : Calls Tryz.prog 8 #[] w fun e w' => e = .returned (.bool true) ∧ Below w.heap.size w w' := by
  obtain ⟨w1, hw1⟩ : ∃ w1, Hid (w1 = w.alloc (.cells #[.int .i64 1, .int .i64 2] 3)) := ⟨_, hide rfl⟩
  have hb1 : Below w.heap.size w w1 := by rw [hw1.out]; exact (Below.refl _ w).alloc (Nat.le_refl _) _
  have hs1 : w1.heap.size = w.heap.size + 1 := by rw [hw1.out]; simp
  obtain ⟨x0, hx0⟩ : ∃ x : Tl, x = ⟨awT0, none, some ⟨w.heap.size, 0, none⟩, none, 0, 2, 0⟩ := ⟨_, rfl⟩
  have ht0 : x0.t = awT0 := by rw [hx0]
  have hok0 : x0.Ok w1 w1.heap.size := by
    rw [hx0, hs1, hw1.out]
    exact ⟨.inl rfl, Lies.new w #[.int .i64 1, .int .i64 2] 3 (0, 0) _ (Nat.lt_succ_self _), .inl rfl, Nat.le_refl _, Nat.le_refl _, Nat.le_refl _, fun y hy => absurd hy (by simp [awT0]), (show (4 : Nat) < 18446744073709551616 by omega), fun y hy => absurd hy (by simp [awT0])⟩
  have hfew0 : x0.Few := by rw [hx0]; exact ⟨by simp [awT0], by simp [awT0], by simp [awT0]⟩
  have FW := hide (with_any x0 3 [3] _ w1 hok0 hfew0 (Nat.le_refl _) (fun _ => by rw [ht0]; exact sortNil_int 3))
  have e0 : x0.val = .agg #[.int .u64 4, .slice none 0 0, .slice (some ⟨w.heap.size, 0, none⟩) 2 2, .slice none 0 0] := by rw [hx0]; rfl
  rw [e0, ht0] at FW
  rw [hw1.out] at FW
  have HB1 := hide hb1
  rw [hw1.out] at HB1
  clear hw1 hb1 hs1 hx0 ht0 hok0 hfew0 e0
  go_enter Tryz.func8, Tryz.ntmps8
  go_wp2_with fail
  (with_reducible refine FW.out.mono ?_)
  rintro e w2 ⟨y, rfl, hyt, hok, hb, _⟩
  have HB2 := hide (HB1.out.trans (hb.mono HB1.out.size))
  have hyt2 : y.t = ⟨4, [3], [1, 2], []⟩ := hyt
  have FV := hide (voided_any y 9 [9] _ w2 hok (by rw [Tl.few_iff, hyt2]; exact ⟨by simp, by simp, by simp⟩) (Nat.le_refl _) (fun _ => by rw [hyt2]; exact sortNil_u64 9) (by intro q hq; simp at hq; omega))
  rw [hyt2] at FV
  have e0 : y.val = .agg #[.int .u64 (y.t.seq : Int), .slice y.A1 y.t.bad.length y.c1, .slice y.A2 y.t.wear.length y.c2, .slice y.A3 y.t.void.length y.c3] := rfl
  rw [e0] at FV ⊢
  clear hyt hok hb FW HB1 hyt2 e0
  go_wp2_with fail
  (with_reducible refine FV.out.mono ?_)
  rintro e w3 ⟨x, rfl, hxt, hok, hb, _⟩
  have HB3 := hide (HB2.out.trans (hb.mono HB2.out.size))
  have Hxt : Hid (x.t = awT) := hide hxt
  have Hok := hide hok
  have Hf := hide (show x.Few by rw [Tl.few_iff, Hxt.out]; exact ⟨by simp [awT], by simp [awT], by simp [awT]⟩)
  clear hxt hok hb FV HB2
  have e0 : x.val = .agg #[.int .u64 (x.t.seq : Int), .slice x.A1 x.t.bad.length x.c1, .slice x.A2 x.t.wear.length x.c2, .slice x.A3 x.t.void.length x.c3] := rfl
  have e1 : x.cells.toArray = #[.int .u64 (x.t.seq : Int), .slice x.A1 x.t.bad.length x.c1, .slice x.A2 x.t.wear.length x.c2, .slice x.A3 x.t.void.length x.c3] := rfl
  have HB4 := hide (HB3.out.alloc HB3.out.size (.cells x.cells.toArray 26))
  have HX4 := hide (BoxT.new x w3)
  have HO4 := hide ((Hok.out.below ((Below.refl w3.heap.size w3).alloc (Nat.le_refl _) (.cells x.cells.toArray 26))).up (show w3.heap.size ≤ (w3.alloc (.cells x.cells.toArray 26)).heap.size by simp))
  rw [e0]
  rw [e1] at HB4 HX4 HO4
  go_upto_region 2 with fail
  generalize w3.alloc (.cells #[.int .u64 (x.t.seq : Int), .slice x.A1 x.t.bad.length x.c1, .slice x.A2 x.t.wear.length x.c2, .slice x.A3 x.t.void.length x.c3] 26) = w4 at *
  generalize w3.heap.size = kx at *
  have Fp := hide (tput_ok x _ w4 HO4.out Hf.out (by rw [Hxt.out]; exact awT_may) (Nat.le_refl _))
  rw [e0] at Fp
  obtain ⟨pg, hpg⟩ : ∃ p, Hid (p = awT.page) := ⟨_, hide rfl⟩
  rw [show x.t.page = awT.page by rw [Hxt.out], ← hpg.out] at Fp
  have c0 := HX4.out.c 0 _ rfl
  have c1 := HX4.out.c 1 _ rfl
  have c2 := HX4.out.c 2 _ rfl
  have c3 := HX4.out.c 3 _ rfl
  clear Hok HB3 e0 e1
  go_wp2_with fail
  (with_reducible refine Fp.out.mono ?_)
  rintro e w5 ⟨A5, k5, rfl, ho, hb⟩
  have HB5 := hide (HB4.out.trans (hb.mono HB4.out.size))
  have HX5 := hide (HX4.out.below hb HX4.out.lt)
  have HO5 := hide ((HO4.out.below hb).up hb.size)
  have hpl : pg.length = 256 := by have := ho.1; rw [bys_len] at this; omega
  have HL5 := hide (Lies.of_own ho)
  obtain ⟨A9, c9, e9, hk5, _⟩ := own_form ho
  have hk5' : 256 ≤ k5 := by injection e9 with _ _ h; omega
  have Fg := hide (tget_any A5 256 k5 _ pg w5 HL5.out hpl.symm hk5' (Nat.le_refl _) (by omega))
  have Hpl := hide hpl
  clear hb ho Fp HX4 HO4 HB4 c0 c1 c2 c3 hpl e9 hk5 hk5'
  unfold GetEnd at Fg
  go_wp2_with fail
  (with_reducible refine Fg.out.mono ?_)
  rintro e w6 ⟨u, q, rfl, hut, hq, huok, hufew, hb⟩
  rw [hpg.out, getT_page awT_may] at hut hq
  dsimp only at hut hq
  subst hq
  have Hut := hide hut
  have HB6 := hide (HB5.out.trans (hb.mono HB5.out.size))
  have HX6 := hide (HX5.out.below hb HX5.out.lt)
  have HO6 := hide ((HO5.out.below hb).up hb.size)
  have HL6 := hide (HL5.out.below hb)
  have Huf := hide hufew
  have e0 : u.val = .agg #[.int .u64 (u.t.seq : Int), .slice u.A1 u.t.bad.length u.c1, .slice u.A2 u.t.wear.length u.c2, .slice u.A3 u.t.void.length u.c3] := rfl
  have e1 : u.cells.toArray = #[.int .u64 (u.t.seq : Int), .slice u.A1 u.t.bad.length u.c1, .slice u.A2 u.t.wear.length u.c2, .slice u.A3 u.t.void.length u.c3] := rfl
  have HB7 := hide (HB6.out.alloc HB6.out.size (.cells u.cells.toArray 26))
  have bl7 := (Below.refl w6.heap.size w6).alloc (Nat.le_refl _) (.cells u.cells.toArray 26)
  have HX7 := hide (HX6.out.below bl7 HX6.out.lt)
  have HU7 := hide (BoxT.new u w6)
  have HO7 := hide ((HO6.out.below bl7).up bl7.size)
  have HUO7 := hide ((huok.below bl7).up bl7.size)
  have HL7 := hide (HL6.out.below (bl7.mono hb.size))
  clear hut huok hufew hb HX5 HO5 HB5 HL5 Fg bl7 HX6 HO6 HB6
  rw [e0]
  rw [e1] at HB7 HX7 HU7 HO7 HUO7 HL7
  go_upto_region 4 with fail
  generalize w6.alloc (.cells #[.int .u64 (u.t.seq : Int), .slice u.A1 u.t.bad.length u.c1, .slice u.A2 u.t.wear.length u.c2, .slice u.A3 u.t.void.length u.c3] 26) = w7 at *
  generalize w6.heap.size = ku at *
  have h24 : 24 < pg.length := by rw [Hpl.out]; omega
  obtain ⟨a5, rfl, _, hc24⟩ := HL7.out.byte h24
  rw [hpg.out, awT_24] at hc24
  have hc24' : w7.cell? (a5.add 24) = some (.int .u8 8) := hc24
  have hc25 : w7.cell? ⟨a5.block, a5.off + 24, none⟩ = some (.int .u8 8) := by rw [← add_offP a5 23]; exact hc24
  have Fs := hide (same_any x u _ w7 HO7.out HUO7.out Hf.out Huf.out (Nat.le_refl _))
  rw [show decide (x.t = u.t) = true by rw [Hxt.out, Hut.out]; exact decide_eq_true rfl] at Fs
  have G1 : Hid (∀ W, Below w7.heap.size w7 W → Calls Tryz.prog 13 #[u.val, .int .i64 3] W fun e w' => e = .returned (.bool true) ∧ Below W.heap.size W w') := hide (fun W hW => by
    have := isBad_any u 3 _ W (HUO7.out.below hW) Huf.out hW.size
    rwa [show decide ((3 : Int) ∈ u.t.bad) = true by rw [Hut.out]; decide] at this)
  have G2 : Hid (∀ W, Below w7.heap.size w7 W → Calls Tryz.prog 13 #[u.val, .int .i64 2] W fun e w' => e = .returned (.bool false) ∧ Below W.heap.size W w') := hide (fun W hW => by
    have := isBad_any u 2 _ W (HUO7.out.below hW) Huf.out hW.size
    rwa [show decide ((2 : Int) ∈ u.t.bad) = false by rw [Hut.out]; decide] at this)
  have G3 : Hid (∀ W, Below w7.heap.size w7 W → Calls Tryz.prog 14 #[u.val, .int .u64 9] W fun e w' => e = .returned (.bool true) ∧ Below W.heap.size W w') := hide (fun W hW => by
    have := isVoid_any u 9 _ W (HUO7.out.below hW) Huf.out hW.size
    rwa [show decide ((9 : Int) ∈ u.t.void) = true by rw [Hut.out]; decide] at this)
  have ex : x.val = .agg #[.int .u64 (x.t.seq : Int), .slice x.A1 x.t.bad.length x.c1, .slice x.A2 x.t.wear.length x.c2, .slice x.A3 x.t.void.length x.c3] := rfl
  rw [e0] at Fs G1 G2 G3
  rw [ex] at Fs
  have c0 := HX7.out.c 0 _ rfl
  have c1 := HX7.out.c 1 _ rfl
  have c2 := HX7.out.c 2 _ rfl
  have c3 := HX7.out.c 3 _ rfl
  have d0 := HU7.out.c 0 _ rfl
  have d1 := HU7.out.c 1 _ rfl
  have d2 := HU7.out.c 2 _ rfl
  have d3 := HU7.out.c 3 _ rfl
  clear e0 e1 ex hc24 h24 HL6 HL7 Hf Hxt HO7 HUO7
  go_wp2_with fail
  (with_reducible refine Fs.out.mono ?_)
  rintro e w8 ⟨rfl, hb⟩
  have HL8 := hide (hb)
  have HB8 := hide (HB7.out.trans (hb.mono HB7.out.size))
  have HU8 := hide (HU7.out.below hb HU7.out.lt)
  clear hb Fs c0 c1 c2 c3 d0 d1 d2 d3
  have d0 := HU8.out.c 0 _ rfl
  have d1 := HU8.out.c 1 _ rfl
  have d2 := HU8.out.c 2 _ rfl
  have d3 := HU8.out.c 3 _ rfl
  go_wp2_with fail
  (with_reducible refine (G1.out _ HL8.out).mono ?_)
  rintro e w9 ⟨rfl, hb⟩
  have HL9 := hide (HL8.out.trans (hb.mono HL8.out.size))
  have HB9 := hide (HB8.out.trans (hb.mono HB8.out.size))
  have HU9 := hide (HU8.out.below hb HU8.out.lt)
  clear hb G1 d0 d1 d2 d3
  have d0 := HU9.out.c 0 _ rfl
  have d1 := HU9.out.c 1 _ rfl
  have d2 := HU9.out.c 2 _ rfl
  have d3 := HU9.out.c 3 _ rfl
  go_wp2_with fail
  (with_reducible refine (G2.out _ HL9.out).mono ?_)
  rintro e w10 ⟨rfl, hb⟩
  have HL10 := hide (HL9.out.trans (hb.mono HL9.out.size))
  have HB10 := hide (HB9.out.trans (hb.mono HB9.out.size))
  have HU10 := hide (HU9.out.below hb HU9.out.lt)
  clear hb G2 d0 d1 d2 d3
  have d0 := HU10.out.c 0 _ rfl
  have d1 := HU10.out.c 1 _ rfl
  have d2 := HU10.out.c 2 _ rfl
  have d3 := HU10.out.c 3 _ rfl
  go_wp2_with fail
  (with_reducible refine (G3.out _ HL10.out).mono ?_)
  rintro e w11 ⟨rfl, hb⟩
  have HB11 := hide (HB10.out.trans (hb.mono HB10.out.size))
  clear hb G3
  go_wp2
  go_ret
  exact ⟨rfl, HB11.out⟩
end Go.Proofs.YtigpplckddnghaaGreat
