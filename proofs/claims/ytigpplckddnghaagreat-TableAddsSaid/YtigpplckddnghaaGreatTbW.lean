/-
  The walk of TableAdds. (Under way.)
  TableAdds, region 4: With, Voided and two new tables, in whatever order.
-/
import Derived.Test.YtigpplckddnghaaGreatSoS
import Derived.Test.YtigpplckddnghaaGreatTbA
import Derived.Test.YtigpplckddnghaaGreatTbE
import Derived.Deep.CutBlock
import Derived.Test.YtigpplckddnghaaGreatFree
namespace Go.Proofs.YtigpplckddnghaaGreat
open Go.RowKit
set_option maxRecDepth 8000

/-- Two tables, a block and a batch: as cells. -/
def four (x y : Tl) (z u : Int) : Array Value := #[.int .u64 (x.t.seq : Int), .slice x.A1 x.t.bad.length x.c1, .slice x.A2 x.t.wear.length x.c2, .slice x.A3 x.t.void.length x.c3, .int .u64 (y.t.seq : Int), .slice y.A1 y.t.bad.length y.c1, .slice y.A2 y.t.wear.length y.c2, .slice y.A3 y.t.void.length y.c3, .int .i64 z, .int .u64 u]
theorem box_two (a b : Tl) (w w1 : World) (h : Below w.heap.size w w1) : BoxT a w1.heap.size ((w1.alloc (.cells a.cells.toArray 26)).alloc (.cells b.cells.toArray 26)).drew ∧ BoxT b (w1.heap.size + 1) ((w1.alloc (.cells a.cells.toArray 26)).alloc (.cells b.cells.toArray 26)).drew ∧
    Below w.heap.size w ((w1.alloc (.cells a.cells.toArray 26)).alloc (.cells b.cells.toArray 26)).drew := by
  have h1 := (Below.refl w1.heap.size w1).alloc (Nat.le_refl _) (.cells a.cells.toArray 26)
  have hs : (w1.alloc (.cells a.cells.toArray 26)).heap.size = w1.heap.size + 1 := by simp
  have h2 := (Below.refl (w1.heap.size + 1) (w1.alloc (.cells a.cells.toArray 26))).alloc (by omega) (.cells b.cells.toArray 26)
  have n1 := BoxT.new a w1
  have n2 := BoxT.new b (w1.alloc (.cells a.cells.toArray 26))
  rw [hs] at n2
  exact ⟨(n1.below h2 (by omega)).below (bel_drewN (Below.refl (w1.heap.size + 1) _) 1) (by omega), n2.below (bel_drewN (Below.refl (w1.heap.size + 2) _) 1) (by omega), bel_drewN (h.trans ((h1.trans (h2.mono (by omega))).mono h.size)) 1⟩
set_option maxHeartbeats 16000000 in
theorem tadds_off (x y : Tl) (z u : Int) (w : World) (hx : x.Ok w w.heap.size) (hl : ¬ ((x.t.bad.length ≤ 60 ∧ x.t.wear.length ≤ 60 ∧ x.t.void.length ≤ 60) ∧ (y.t.bad.length ≤ 60 ∧ y.t.wear.length ≤ 60 ∧ y.t.void.length ≤ 60) ∧ x.t.May)) : Calls Tryz.prog 3 #[.agg (four x y z u)] w fun e w' => e = .returned (.bool true) ∧ Below w.heap.size w w' := by
  have F := hide (fun W => light_any16 x W)
  have G := hide (fun W => light_any16 y W)
  have FM := hide (fun W (hW : Below w.heap.size w W) hf => may16_any x _ W (hx.below hW) hf hW.size)
  have e0 : x.val = .agg #[.int .u64 (x.t.seq : Int), .slice x.A1 x.t.bad.length x.c1, .slice x.A2 x.t.wear.length x.c2, .slice x.A3 x.t.void.length x.c3] := rfl
  have e1 : y.val = .agg #[.int .u64 (y.t.seq : Int), .slice y.A1 y.t.bad.length y.c1, .slice y.A2 y.t.wear.length y.c2, .slice y.A3 y.t.void.length y.c3] := rfl
  have ex : x.cells.toArray = #[.int .u64 (x.t.seq : Int), .slice x.A1 x.t.bad.length x.c1, .slice x.A2 x.t.wear.length x.c2, .slice x.A3 x.t.void.length x.c3] := rfl
  have ey : y.cells.toArray = #[.int .u64 (y.t.seq : Int), .slice y.A1 y.t.bad.length y.c1, .slice y.A2 y.t.wear.length y.c2, .slice y.A3 y.t.void.length y.c3] := rfl
  have EX := hide ex
  have EY := hide ey
  have HX := hide (fun W => BoxT.new x W)
  have HY := hide (fun W => BoxT.new y W)
  rw [e0] at F FM
  rw [e1] at G
  rw [ex] at HX
  rw [ey] at HY
  have HB := hide ((Below.refl w.heap.size w).alloc (Nat.le_refl _) (.cells #[.int .u64 (x.t.seq : Int), .slice x.A1 x.t.bad.length x.c1, .slice x.A2 x.t.wear.length x.c2, .slice x.A3 x.t.void.length x.c3, .int .u64 (y.t.seq : Int), .slice y.A1 y.t.bad.length y.c1, .slice y.A2 y.t.wear.length y.c2, .slice y.A3 y.t.void.length y.c3, .int .i64 z, .int .u64 u] 28))
  have Hl := hide hl
  clear hl e0 e1 ex ey hx
  unfold four
  go_enter Tryz.func3, Tryz.ntmps3
  go_wp2
  go_cut [3, 4, 5, 6] from 13 to 20 (fun a b c d wx => ∃ P Q : Nat, a = .pointer (some ⟨P, 0, none⟩) ∧ b = .pointer (some ⟨Q, 0, none⟩) ∧ c = .int .i64 z ∧ d = .int .u64 u ∧ Hid (BoxT x P wx) ∧ Hid (BoxT y Q wx) ∧ Hid (Below w.heap.size w wx))
  case first =>
    have BXY := box_two x y w _ HB.out
    have BYX := box_two y x w _ HB.out
    rw [EX.out, EY.out] at BXY BYX
    have hsz : ∀ cs : Array Value, (w.alloc (.cells cs 28)).heap.size = w.heap.size + 1 := fun cs => by simp
    rw [hsz] at BXY BYX
    have BXY := hide BXY
    have BYX := hide BYX
    go_region
    all_goals (go_wp2_with fail; go_meet; first | exact ⟨_, _, rfl, rfl, rfl, rfl, hide BXY.out.1, hide BXY.out.2.1, hide BXY.out.2.2⟩ | exact ⟨_, _, rfl, rfl, rfl, rfl, hide BYX.out.2.1, hide BYX.out.1, hide BYX.out.2.2⟩)
  clear HX HY HB
  obtain ⟨P, Q, rfl, rfl, rfl, rfl, HX, HY, HB⟩ := hcut
  have c0 := HX.out.c 0 _ rfl
  have c1 := HX.out.c 1 _ rfl
  have c2 := HX.out.c 2 _ rfl
  have c3 := HX.out.c 3 _ rfl
  by_cases h1 : x.t.bad.length ≤ 60 ∧ x.t.wear.length ≤ 60 ∧ x.t.void.length ≤ 60
  · rw [decide_eq_true h1] at F
    have hf : x.Few := ⟨by omega, by omega, by omega⟩
    have FM := hide (fun W hW => FM.out W hW hf)
    have H1 := hide h1
    clear h1 hf
    go_wp2_with fail
    (with_reducible refine (F.out _).mono ?_)
    rintro e w2 ⟨rfl, hb⟩
    have HB2 := hide (HB.out.trans (hb.mono HB.out.size))
    have HX2 := hide (HX.out.below hb HX.out.lt)
    have HY2 := hide (HY.out.below hb HY.out.lt)
    clear hb HB HX HY F c0 c1 c2 c3
    have d0 := HY2.out.c 0 _ rfl
    have d1 := HY2.out.c 1 _ rfl
    have d2 := HY2.out.c 2 _ rfl
    have d3 := HY2.out.c 3 _ rfl
    by_cases h2 : y.t.bad.length ≤ 60 ∧ y.t.wear.length ≤ 60 ∧ y.t.void.length ≤ 60
    · rw [decide_eq_true h2] at G
      have hm : ¬ x.t.May := fun h => Hl.out ⟨H1.out, h2, h⟩
      have FM := hide (fun W hW => FM.out W hW)
      rw [decide_eq_false hm] at FM
      clear h2 hm
      go_wp2_with fail
      (with_reducible refine (G.out _).mono ?_)
      rintro e w3 ⟨rfl, hb⟩
      have HB3 := hide (HB2.out.trans (hb.mono HB2.out.size))
      have HX3 := hide (HX2.out.below hb HX2.out.lt)
      clear hb HB2 HX2 HY2 G d0 d1 d2 d3
      have c0 := HX3.out.c 0 _ rfl
      have c1 := HX3.out.c 1 _ rfl
      have c2 := HX3.out.c 2 _ rfl
      have c3 := HX3.out.c 3 _ rfl
      go_wp2_with fail
      (with_reducible refine (FM.out _ HB3.out).mono ?_)
      rintro e w4 ⟨rfl, hb⟩
      have HB4 := hide (HB3.out.trans (hb.mono HB3.out.size))
      clear hb HB3 HX3 FM c0 c1 c2 c3
      go_wp2_with fail
      (with_reducible refine (awake16_any _).mono ?_)
      rintro e w9 ⟨rfl, hb⟩
      have HB9 := hide (HB4.out.trans (hb.mono HB4.out.size))
      clear hb
      go_wp2
      go_ret
      exact ⟨rfl, HB9.out⟩
    · rw [decide_eq_false h2] at G
      clear h2
      go_wp2_with fail
      (with_reducible refine (G.out _).mono ?_)
      rintro e w3 ⟨rfl, hb⟩
      have HB3 := hide (HB2.out.trans (hb.mono HB2.out.size))
      clear hb HB2 HX2 HY2 G d0 d1 d2 d3
      go_wp2_with fail
      (with_reducible refine (awake16_any _).mono ?_)
      rintro e w9 ⟨rfl, hb⟩
      have HB9 := hide (HB3.out.trans (hb.mono HB3.out.size))
      clear hb
      go_wp2
      go_ret
      exact ⟨rfl, HB9.out⟩
  · rw [decide_eq_false h1] at F
    clear h1
    go_wp2_with fail
    (with_reducible refine (F.out _).mono ?_)
    rintro e w2 ⟨rfl, hb⟩
    have HB2 := hide (HB.out.trans (hb.mono HB.out.size))
    clear hb HB HX HY F c0 c1 c2 c3
    go_wp2_with fail
    (with_reducible refine (awake16_any _).mono ?_)
    rintro e w9 ⟨rfl, hb⟩
    have HB9 := hide (HB2.out.trans (hb.mono HB2.out.size))
    clear hb
    go_wp2
    go_ret
    exact ⟨rfl, HB9.out⟩

/-- Rows that lie in no block k. -/
def Tl.Off (x : Tl) (k : Nat) : Prop := (x.t.bad = [] ∨ ∃ a, x.A1 = some a ∧ a.block ≠ k) ∧ (x.t.wear = [] ∨ ∃ a, x.A2 = some a ∧ a.block ≠ k) ∧ (x.t.void = [] ∨ ∃ a, x.A3 = some a ∧ a.block ≠ k)
theorem Tl.Hi.off {x : Tl} {B k : Nat} (h : x.Hi B) (hk : k < B) : x.Off k := by
  have g : ∀ {l : List Int} {A : Option Addr}, (l = [] ∨ ∃ a, A = some a ∧ B ≤ a.block) → (l = [] ∨ ∃ a, A = some a ∧ a.block ≠ k) := by
    rintro l A (h | ⟨a, h, h2⟩)
    · exact .inl h
    · exact .inr ⟨a, h, by omega⟩
  exact ⟨g h.1, g h.2.1, g h.2.2⟩
theorem Tl.Ok.off {x : Tl} {B k : Nat} {w : World} (h : x.Ok w B) (hk : B ≤ k) : x.Off k := by
  have g : ∀ {l : List Int} {A : Option Addr} {q : IntKind}, Lies w B A (nums q l) → (l = [] ∨ ∃ a, A = some a ∧ a.block ≠ k) := by
    intro l A q hl
    rcases hl with h | ⟨a, h, h2, _⟩
    · exact .inl (List.eq_nil_of_length_eq_zero (by rw [← nums_len q l, h]; rfl))
    · exact .inr ⟨a, h, by omega⟩
  exact ⟨g h.l1, g h.l2, g h.l3⟩
theorem lies_setO {w : World} {B k j : Nat} {A : Option Addr} {xs : List Value} {u : Value} (h : Lies w B A xs) (hk : xs = [] ∨ ∃ a, A = some a ∧ a.block ≠ k) : Lies (w.setCell ⟨k, j, none⟩ u) B A xs := by
  rcases h with h | ⟨a, hA, hb, hc⟩
  · exact .inl h
  · rcases hk with h | ⟨a', hA', hk⟩
    · exact .inl h
    · rw [hA] at hA'; injection hA' with e; subst e
      refine .inr ⟨a, hA, hb, fun i v hv => ?_⟩
      have e : (a.add i).block = a.block := by unfold Addr.add; split <;> rfl
      exact (World.cell?_of_block (w := w) (a := a.add i) (by rw [e]; exact Below.heap_setCell _ _ _ _ (show a.block ≠ k from hk))).trans (hc i v hv)
theorem Tl.Ok.setO {x : Tl} {w : World} {B k j : Nat} {u : Value} (h : x.Ok w B) (hi : x.Off k) : x.Ok (w.setCell ⟨k, j, none⟩ u) B := by
  have key : ∀ {A : Option Addr} {l : List Int} {kd : IntKind}, (l = [] ∨ ∃ a, A = some a ∧ a.block ≠ k) → (nums kd l = [] ∨ ∃ a, A = some a ∧ a.block ≠ k) := fun h => by
    rcases h with rfl | ⟨a, h1, h2⟩
    · exact .inl rfl
    · exact .inr ⟨a, h1, h2⟩
  exact ⟨lies_setO h.l1 (key hi.1), lies_setO h.l2 (key hi.2.1), lies_setO h.l3 (key hi.2.2), h.k1, h.k2, h.k3, h.pos, h.seq, h.top⟩
/-- The four stores of a table. -/
def put4 (W : World) (k : Nat) (x : Tl) : World := (((W.setCell ⟨k, 0, none⟩ (.int .u64 (x.t.seq : Int))).setCell ⟨k, 1, none⟩ (.slice x.A1 x.t.bad.length x.c1)).setCell ⟨k, 2, none⟩ (.slice x.A2 x.t.wear.length x.c2)).setCell ⟨k, 3, none⟩ (.slice x.A3 x.t.void.length x.c3)
theorem put4_size (W : World) (k : Nat) (x : Tl) : (put4 W k x).heap.size = W.heap.size := by simp [put4, World.setCell]
theorem Tl.Ok.put4 {x y : Tl} {w : World} {B k : Nat} (h : x.Ok w B) (hi : x.Off k) : x.Ok (put4 w k y) B := (((h.setO hi).setO hi).setO hi).setO hi
theorem BoxT.put4 {x y : Tl} {w : World} {k g : Nat} (h : BoxT x g w) (hk : g ≠ k) : BoxT x g (put4 w k y) :=
  (Below.heap_setCell _ _ _ _ hk).trans ((Below.heap_setCell _ _ _ _ hk).trans ((Below.heap_setCell _ _ _ _ hk).trans ((Below.heap_setCell _ _ _ _ hk).trans h)))
/-- What stands, as far as the operations L are done. -/
structure R4 (w4 : World) (tX tY : Tb) (L : Nat → Bool) (f : Nat → Value) (W : World) (X Y : Tl) (k7 k8 : Nat) : Prop where
  below : Below w4.heap.size w4 W
  s2 : L 2 = true → f 37 = X.val ∧ X.t = tX ∧ X.Ok W W.heap.size
  s5 : L 5 = true → f 40 = Y.val ∧ Y.t = tY ∧ Y.Ok W W.heap.size
  s6 : L 6 = true → f 7 = .pointer (some ⟨k7, 0, none⟩) ∧ w4.heap.size ≤ k7 ∧ BoxT (if L 8 = true then X else zeroTl) k7 W
  s7 : L 7 = true → f 8 = .pointer (some ⟨k8, 0, none⟩) ∧ w4.heap.size ≤ k8 ∧ BoxT (if L 9 = true then Y else zeroTl) k8 W
  x7 : L 2 = true → L 6 = true → X.Off k7
  x8 : L 2 = true → L 7 = true → X.Off k8
  y7 : L 5 = true → L 6 = true → Y.Off k7
  y8 : L 5 = true → L 7 = true → Y.Off k8
  ne : L 6 = true → L 7 = true → k7 ≠ k8
  o8 : L 8 = true → L 2 = true ∧ L 5 = true ∧ L 6 = true ∧ L 7 = true
  o9 : L 9 = true → L 8 = true
def Phi4 (w4 : World) (tX tY : Tb) (L : Nat → Bool) (f : Nat → Value) (W : World) : Prop := ∃ X Y k7 k8, R4 w4 tX tY L f W X Y k7 k8
theorem Phi4.loc (w4 : World) (tX tY : Tb) : ∀ L M f g W, (∀ t ∈ [37, 40, 7, 8], f t = g t) → (∀ b ∈ [2, 5, 6, 7, 8, 9], L b = M b) → Phi4 w4 tX tY L f W → Phi4 w4 tX tY M g W := by
  rintro L M f g W hT hB ⟨X, Y, k7, k8, h⟩
  have b2 := hB 2 (by decide)
  have b5 := hB 5 (by decide)
  have b6 := hB 6 (by decide)
  have b7 := hB 7 (by decide)
  have b8 := hB 8 (by decide)
  have b9 := hB 9 (by decide)
  have t37 := hT 37 (by decide)
  have t40 := hT 40 (by decide)
  have t7 := hT 7 (by decide)
  have t8 := hT 8 (by decide)
  exact ⟨X, Y, k7, k8, ⟨h.below, by rw [← b2, ← t37]; exact h.s2, by rw [← b5, ← t40]; exact h.s5, by rw [← b6, ← b8, ← t7]; exact h.s6, by rw [← b7, ← b9, ← t8]; exact h.s7, by rw [← b2, ← b6]; exact h.x7, by rw [← b2, ← b7]; exact h.x8, by rw [← b5, ← b6]; exact h.y7, by rw [← b5, ← b7]; exact h.y8, by rw [← b6, ← b7]; exact h.ne, by rw [← b2, ← b5, ← b6, ← b7, ← b8]; exact h.o8, by rw [← b8, ← b9]; exact h.o9⟩⟩
theorem Phi4.start (w4 : World) (tX tY : Tb) (f : Nat → Value) (W : World) (h : Below w4.heap.size w4 W) : Phi4 w4 tX tY (fun _ => false) f W :=
  ⟨zeroTl, zeroTl, 0, 0, ⟨h, by simp, by simp, by simp, by simp, by simp, by simp, by simp, by simp, by simp, by simp, by simp⟩⟩
section
variable {w4 W W' : World} {tX tY : Tb} {L : Nat → Bool} {f g : Nat → Value} {X Y Z : Tl} {k7 k8 : Nat}
theorem plus_same (L : Nat → Bool) (n : Nat) : Free.plus L n n = true := by simp [Free.plus]
theorem plus_other (L : Nat → Bool) {n j : Nat} (h : j ≠ n) : Free.plus L n j = L j := by simp [Free.plus, h]
/-- The world goes on; of the slots only some turn. -/
theorem R4.x (h : R4 w4 tX tY L f W X Y k7 k8) (hL : L 2 = false) (hb : Below W.heap.size W W') (hz : Z.t = tX) (ho : Z.Ok W' W'.heap.size) (hh : Z.Hi (W.heap.size + 2)) (hg : g 37 = Z.val) (h40 : g 40 = f 40) (h7 : g 7 = f 7) (h8 : g 8 = f 8) : R4 w4 tX tY (Free.plus L 2) g W' Z Y k7 k8 := by
  have l8 : L 8 = false := by
    cases e : L 8 with
    | false => rfl
    | true => rw [(h.o8 e).1] at hL; cases hL
  have l9 : L 9 = false := by
    cases e : L 9 with
    | false => rfl
    | true => rw [h.o9 e] at l8; cases l8
  have p := plus_same L 2
  have q5 := plus_other L (show 5 ≠ 2 by decide)
  have q6 := plus_other L (show 6 ≠ 2 by decide)
  have q7 := plus_other L (show 7 ≠ 2 by decide)
  have q8 := plus_other L (show 8 ≠ 2 by decide)
  have q9 := plus_other L (show 9 ≠ 2 by decide)
  refine ⟨h.below.trans (hb.mono h.below.size), fun _ => ⟨hg, hz, ho⟩, ?_, ?_, ?_, ?_, ?_, ?_, ?_, ?_, ?_, ?_⟩
  · rw [q5, h40]; intro e; have := h.s5 e; exact ⟨this.1, this.2.1, (this.2.2.below hb).up hb.size⟩
  · rw [q6, q8, l8, h7]; intro e; have := h.s6 e; rw [l8] at this; exact ⟨this.1, this.2.1, this.2.2.below hb this.2.2.lt⟩
  · rw [q7, q9, l9, h8]; intro e; have := h.s7 e; rw [l9] at this; exact ⟨this.1, this.2.1, this.2.2.below hb this.2.2.lt⟩
  · rw [q6]; intro _ e; have := (h.s6 e).2.2.lt; exact hh.off (by omega)
  · rw [q7]; intro _ e; have := (h.s7 e).2.2.lt; exact hh.off (by omega)
  · rw [q5, q6]; exact h.y7
  · rw [q5, q7]; exact h.y8
  · rw [q6, q7]; exact h.ne
  · rw [q8, l8]; intro e; cases e
  · rw [q9, l9]; intro e; cases e
theorem R4.y (h : R4 w4 tX tY L f W X Y k7 k8) (hL : L 5 = false) (hb : Below W.heap.size W W') (hz : Z.t = tY) (ho : Z.Ok W' W'.heap.size) (hh : Z.Hi (W.heap.size + 2)) (hg : g 40 = Z.val) (h37 : g 37 = f 37) (h7 : g 7 = f 7) (h8 : g 8 = f 8) : R4 w4 tX tY (Free.plus L 5) g W' X Z k7 k8 := by
  have l8 : L 8 = false := by
    cases e : L 8 with
    | false => rfl
    | true => rw [(h.o8 e).2.1] at hL; cases hL
  have l9 : L 9 = false := by
    cases e : L 9 with
    | false => rfl
    | true => rw [h.o9 e] at l8; cases l8
  have q2 := plus_other L (show 2 ≠ 5 by decide)
  have q6 := plus_other L (show 6 ≠ 5 by decide)
  have q7 := plus_other L (show 7 ≠ 5 by decide)
  have q8 := plus_other L (show 8 ≠ 5 by decide)
  have q9 := plus_other L (show 9 ≠ 5 by decide)
  refine ⟨h.below.trans (hb.mono h.below.size), ?_, fun _ => ⟨hg, hz, ho⟩, ?_, ?_, ?_, ?_, ?_, ?_, ?_, ?_, ?_⟩
  · rw [q2, h37]; intro e; have := h.s2 e; exact ⟨this.1, this.2.1, (this.2.2.below hb).up hb.size⟩
  · rw [q6, q8, l8, h7]; intro e; have := h.s6 e; rw [l8] at this; exact ⟨this.1, this.2.1, this.2.2.below hb this.2.2.lt⟩
  · rw [q7, q9, l9, h8]; intro e; have := h.s7 e; rw [l9] at this; exact ⟨this.1, this.2.1, this.2.2.below hb this.2.2.lt⟩
  · rw [q2, q6]; exact h.x7
  · rw [q2, q7]; exact h.x8
  · rw [q6]; intro _ e; have := (h.s6 e).2.2.lt; exact hh.off (by omega)
  · rw [q7]; intro _ e; have := (h.s7 e).2.2.lt; exact hh.off (by omega)
  · rw [q6, q7]; exact h.ne
  · rw [q8, l8]; intro e; cases e
  · rw [q9, l9]; intro e; cases e
theorem R4.m7 (h : R4 w4 tX tY L f W X Y k7 k8) (hL : L 6 = false) (hg : g 7 = .pointer (some ⟨W.heap.size, 0, none⟩)) (h37 : g 37 = f 37) (h40 : g 40 = f 40) (h8 : g 8 = f 8) : R4 w4 tX tY (Free.plus L 6) g (W.alloc (.cells zeroTl.cells.toArray 26)) X Y W.heap.size k8 := by
  have l8 : L 8 = false := by
    cases e : L 8 with
    | false => rfl
    | true => rw [(h.o8 e).2.2.1] at hL; cases hL
  have l9 : L 9 = false := by
    cases e : L 9 with
    | false => rfl
    | true => rw [h.o9 e] at l8; cases l8
  have q2 := plus_other L (show 2 ≠ 6 by decide)
  have q5 := plus_other L (show 5 ≠ 6 by decide)
  have q7 := plus_other L (show 7 ≠ 6 by decide)
  have q8 := plus_other L (show 8 ≠ 6 by decide)
  have q9 := plus_other L (show 9 ≠ 6 by decide)
  have hb := (Below.refl W.heap.size W).alloc (Nat.le_refl _) (.cells zeroTl.cells.toArray 26)
  refine ⟨h.below.trans (hb.mono h.below.size), ?_, ?_, ?_, ?_, ?_, ?_, ?_, ?_, ?_, ?_, ?_⟩
  · rw [q2, h37]; intro e; have := h.s2 e; exact ⟨this.1, this.2.1, (this.2.2.below hb).up hb.size⟩
  · rw [q5, h40]; intro e; have := h.s5 e; exact ⟨this.1, this.2.1, (this.2.2.below hb).up hb.size⟩
  · rw [q8, l8]; intro e; exact ⟨hg, h.below.size, BoxT.new zeroTl W⟩
  · rw [q7, q9, l9, h8]; intro e; have := h.s7 e; rw [l9] at this; exact ⟨this.1, this.2.1, this.2.2.below hb this.2.2.lt⟩
  · rw [q2]; intro e _; exact (h.s2 e).2.2.off (Nat.le_refl _)
  · rw [q2, q7]; exact h.x8
  · rw [q5]; intro e _; exact (h.s5 e).2.2.off (Nat.le_refl _)
  · rw [q5, q7]; exact h.y8
  · rw [q7]; intro _ e; have := (h.s7 e).2.2.lt; omega
  · rw [q8, l8]; intro e; cases e
  · rw [q9, l9]; intro e; cases e
theorem R4.m8 (h : R4 w4 tX tY L f W X Y k7 k8) (hL : L 7 = false) (hg : g 8 = .pointer (some ⟨W.heap.size, 0, none⟩)) (h37 : g 37 = f 37) (h40 : g 40 = f 40) (h7 : g 7 = f 7) : R4 w4 tX tY (Free.plus L 7) g (W.alloc (.cells zeroTl.cells.toArray 26)) X Y k7 W.heap.size := by
  have l8 : L 8 = false := by
    cases e : L 8 with
    | false => rfl
    | true => rw [(h.o8 e).2.2.2] at hL; cases hL
  have l9 : L 9 = false := by
    cases e : L 9 with
    | false => rfl
    | true => rw [h.o9 e] at l8; cases l8
  have q2 := plus_other L (show 2 ≠ 7 by decide)
  have q5 := plus_other L (show 5 ≠ 7 by decide)
  have q6 := plus_other L (show 6 ≠ 7 by decide)
  have q8 := plus_other L (show 8 ≠ 7 by decide)
  have q9 := plus_other L (show 9 ≠ 7 by decide)
  have hb := (Below.refl W.heap.size W).alloc (Nat.le_refl _) (.cells zeroTl.cells.toArray 26)
  refine ⟨h.below.trans (hb.mono h.below.size), ?_, ?_, ?_, ?_, ?_, ?_, ?_, ?_, ?_, ?_, ?_⟩
  · rw [q2, h37]; intro e; have := h.s2 e; exact ⟨this.1, this.2.1, (this.2.2.below hb).up hb.size⟩
  · rw [q5, h40]; intro e; have := h.s5 e; exact ⟨this.1, this.2.1, (this.2.2.below hb).up hb.size⟩
  · rw [q6, q8, l8, h7]; intro e; have := h.s6 e; rw [l8] at this; exact ⟨this.1, this.2.1, this.2.2.below hb this.2.2.lt⟩
  · rw [q9, l9]; intro e; exact ⟨hg, h.below.size, BoxT.new zeroTl W⟩
  · rw [q2, q6]; exact h.x7
  · rw [q2]; intro e _; exact (h.s2 e).2.2.off (Nat.le_refl _)
  · rw [q5, q6]; exact h.y7
  · rw [q5]; intro e _; exact (h.s5 e).2.2.off (Nat.le_refl _)
  · rw [q6]; intro e _; have := (h.s6 e).2.2.lt; omega
  · rw [q8, l8]; intro e; cases e
  · rw [q9, l9]; intro e; cases e
theorem R4.p7 (h : R4 w4 tX tY L f W X Y k7 k8) (hL : L 8 = false) (h2 : L 2 = true) (h5 : L 5 = true) (h6 : L 6 = true) (h7 : L 7 = true) : R4 w4 tX tY (Free.plus L 8) f (put4 W k7 X) X Y k7 k8 := by
  have l9 : L 9 = false := by
    cases e : L 9 with
    | false => rfl
    | true => rw [h.o9 e] at hL; cases hL
  have q2 := plus_other L (show 2 ≠ 8 by decide)
  have q5 := plus_other L (show 5 ≠ 8 by decide)
  have q6 := plus_other L (show 6 ≠ 8 by decide)
  have q7 := plus_other L (show 7 ≠ 8 by decide)
  have q9 := plus_other L (show 9 ≠ 8 by decide)
  obtain ⟨a1, a2, a3⟩ := h.s2 h2
  obtain ⟨b1, b2, b3⟩ := h.s5 h5
  obtain ⟨c1, c2, c3⟩ := h.s6 h6
  obtain ⟨d1, d2, d3⟩ := h.s7 h7
  rw [l9] at d3
  refine ⟨below4 h.below c2 _ _ _ _, fun _ => ⟨a1, a2, by rw [put4_size]; exact a3.put4 (h.x7 h2 h6)⟩, fun _ => ⟨b1, b2, by rw [put4_size]; exact b3.put4 (h.y7 h5 h6)⟩, fun _ => ⟨c1, c2, by rw [plus_same]; exact boxT4 c3⟩, fun _ => ⟨d1, d2, by rw [q9, l9]; exact d3.put4 (fun e => h.ne h6 h7 e.symm)⟩, by rw [q2, q6]; exact h.x7, by rw [q2, q7]; exact h.x8, by rw [q5, q6]; exact h.y7, by rw [q5, q7]; exact h.y8, by rw [q6, q7]; exact h.ne, fun _ => by rw [q2, q5, q6, q7]; exact ⟨h2, h5, h6, h7⟩, fun _ => plus_same L 8⟩
theorem R4.p8 (h : R4 w4 tX tY L f W X Y k7 k8) (hL : L 9 = false) (h8 : L 8 = true) : R4 w4 tX tY (Free.plus L 9) f (put4 W k8 Y) X Y k7 k8 := by
  obtain ⟨h2, h5, h6, h7⟩ := h.o8 h8
  have q2 := plus_other L (show 2 ≠ 9 by decide)
  have q5 := plus_other L (show 5 ≠ 9 by decide)
  have q6 := plus_other L (show 6 ≠ 9 by decide)
  have q7 := plus_other L (show 7 ≠ 9 by decide)
  have q8 := plus_other L (show 8 ≠ 9 by decide)
  obtain ⟨a1, a2, a3⟩ := h.s2 h2
  obtain ⟨b1, b2, b3⟩ := h.s5 h5
  obtain ⟨c1, c2, c3⟩ := h.s6 h6
  obtain ⟨d1, d2, d3⟩ := h.s7 h7
  rw [h8] at c3
  refine ⟨below4 h.below d2 _ _ _ _, fun _ => ⟨a1, a2, by rw [put4_size]; exact a3.put4 (h.x8 h2 h7)⟩, fun _ => ⟨b1, b2, by rw [put4_size]; exact b3.put4 (h.y8 h5 h7)⟩, fun _ => ⟨c1, c2, by rw [q8, h8]; exact c3.put4 (h.ne h6 h7)⟩, fun _ => ⟨d1, d2, by rw [plus_same]; exact boxT4 d3⟩, by rw [q2, q6]; exact h.x7, by rw [q2, q7]; exact h.x8, by rw [q5, q6]; exact h.y7, by rw [q5, q7]; exact h.y8, by rw [q6, q7]; exact h.ne, fun _ => by rw [q2, q5, q6, q7]; exact ⟨h2, h5, h6, h7⟩, fun _ => by rw [q8]; exact h8⟩
end
/-- A list with a number more. -/
structure Grown (l : List Int) (z : Int) (L : List Int) : Prop where
  len : L.length = if z ∈ l then l.length else l.length + 1
  has : z ∈ L
  each : ∀ j, j < L.length → L.getD j 0 = z ∨ L.getD j 0 ∈ l
  rises : ∀ j, 0 < j → j < L.length → L.getD (j - 1) 0 < L.getD j 0
  few : L.length ≤ 1000000
theorem getD_mem {l : List Int} {j : Nat} (h : j < l.length) : l.getD j 0 ∈ l := by
  rw [List.getD_eq_getElem?_getD, List.getElem?_eq_getElem h]
  exact List.getElem_mem h
theorem pair_up {l : List Int} (h : l.Pairwise (· < ·)) (j : Nat) (h0 : 0 < j) (hj : j < l.length) : l.getD (j - 1) 0 < l.getD j 0 := by
  rw [List.getD_eq_getElem?_getD, List.getD_eq_getElem?_getD, List.getElem?_eq_getElem hj, List.getElem?_eq_getElem (show j - 1 < l.length by omega)]
  exact List.pairwise_iff_getElem.1 h _ _ _ _ (by omega)
theorem grown_in {l : List Int} {z : Int} (hp : l.Pairwise (· < ·)) (hz : z ∈ l) (hf : l.length ≤ 1000) : Grown l z l :=
  ⟨by rw [if_pos hz], hz, fun j hj => .inr (getD_mem hj), pair_up hp, by omega⟩
theorem grown_new {l A B : List Int} {z : Int} (hp : l.Pairwise (· < ·)) (hz : z ∉ l) (hf : l.length ≤ 1000) (e : l = A ++ B) (ha : ∀ a ∈ A, a < z) (hb : ∀ b ∈ B, z < b) : Grown l z (A ++ z :: B) := by
  subst e
  refine ⟨by rw [if_neg hz]; simp; omega, by simp, fun j hj => ?_, pair_up ?_, by simp at hf ⊢; omega⟩
  · have := getD_mem hj
    simp only [List.mem_append, List.mem_cons] at this ⊢
    rcases this with h | h | h
    · exact .inr (.inl h)
    · exact .inl h
    · exact .inr (.inr h)
  · obtain ⟨h1, h2, h3⟩ := List.pairwise_append.1 hp
    refine List.pairwise_append.2 ⟨h1, List.pairwise_cons.2 ⟨hb, h2⟩, fun a haA b hbB => ?_⟩
    rcases List.mem_cons.1 hbB with h | h
    · rw [h]; exact ha a haA
    · exact h3 a haA b h
/-- Where all stands behind region 4. -/
structure Std (w : World) (x y X Y : Tl) (P Q k7 k8 : Nat) (W : World) : Prop where
  below : Below w.heap.size w W
  bx : BoxT x P W
  by_ : BoxT y Q W
  bX : BoxT X k7 W
  bY : BoxT Y k8 W
  okX : X.Ok W W.heap.size
  okY : Y.Ok W W.heap.size
theorem Std.later {w W W' : World} {x y X Y : Tl} {P Q k7 k8 : Nat} (h : Std w x y X Y P Q k7 k8 W) (hb : Below W.heap.size W W') : Std w x y X Y P Q k7 k8 W' :=
  ⟨h.below.trans (hb.mono h.below.size), h.bx.below hb h.bx.lt, h.by_.below hb h.by_.lt, h.bX.below hb h.bX.lt, h.bY.below hb h.bY.lt, (h.okX.below hb).up hb.size, (h.okY.below hb).up hb.size⟩
theorem Lies.numAt {w : World} {B : Nat} {A : Option Addr} {k : IntKind} {l : List Int} {i : Nat} {a : Addr} (h : Lies w B A (nums k l)) (ha : A = some a) (hi : i < l.length) : w.cell? (a.add i) = some (.int k (l.getD i 0)) := by
  obtain ⟨a', h1, _, h2⟩ := h.num hi
  rw [ha] at h1
  injection h1 with e
  rw [e]; exact h2
theorem up64 {j : Nat} (h : j ≤ 1000000) : wrap64 ((j : Int) + 1) = ((j + 1 : Nat) : Int) := by unfold wrap64; omega
theorem down64 {i j : Nat} (h : j ≤ 1000000) (e : j = i + 1) : wrap64 ((j : Int) - 1) = (i : Int) := by unfold wrap64; omega
theorem add_zeroT (a : Addr) : a.add 0 = a := by simp [Addr.add]
theorem add_off (x : Addr) (n : Nat) : x.add (n + 1) = ⟨x.block, x.off + (n + 1), none⟩ := by
  unfold Addr.add; simp
theorem pos_succ (i : Nat) : decide ((0 : Int) < ((i + 1 : Nat) : Int)) = true := decide_eq_true (by omega)
theorem pos_succ2 (i : Nat) : decide ((0 : Int) < (i : Int) + 1) = true := decide_eq_true (by omega)
end Go.Proofs.YtigpplckddnghaaGreat
