/-
  The walk of GeomPlaces. (By gen/GLawL.gen.py.)
-/
import Derived.Test.YtfogjnnklneepaaAwakeg
namespace Go.Proofs.Ytfogjnnklneepaa
open Go.RowKit

/-- What the law keeps: the sides in block k, the page in the next one. -/
structure PSt (w : World) (b p r x y : Int) (k : Nat) (W : World) : Prop where
  below : Below w.heap.size w W
  box : Boxed ⟨b, p, r⟩ k W
  boxp : BoxedP x y (k + 1) W
  hk : k + 1 < W.heap.size
theorem PSt.next {w W W' : World} {b p r x y : Int} {k : Nat} (h : PSt w b p r x y k W) (hb : Below W.heap.size W W') : PSt w b p r x y k W' :=
  ⟨h.below.trans (hb.mono h.below.size), h.box.below hb (Nat.lt_of_succ_lt h.hk), h.boxp.below hb h.hk, Nat.lt_of_lt_of_le h.hk hb.size⟩
theorem PSt.cells {w W : World} {b p r x y : Int} {k : Nat} (h : PSt w b p r x y k W) : W.cell? ⟨k, 0, none⟩ = some (.int .i64 b) ∧ W.cell? ⟨k, 1, none⟩ = some (.int .i64 p) ∧ W.cell? ⟨k, 2, none⟩ = some (.int .i64 r) ∧ W.cell? ⟨k + 1, 0, none⟩ = some (.int .i64 x) ∧ W.cell? ⟨k + 1, 1, none⟩ = some (.int .i64 y) :=
  ⟨h.box.b, h.box.p, h.box.r, h.boxp.x, h.boxp.y⟩
theorem PSt.start (w : World) (b p r x y : Int) : PSt w b p r x y w.heap.size ((w.alloc (.cells #[.int .i64 b, .int .i64 p, .int .i64 r] 26)).alloc (.cells #[.int .i64 x, .int .i64 y] 28)) := by
  have hs : (w.alloc (.cells #[.int .i64 b, .int .i64 p, .int .i64 r] 26)).heap.size = w.heap.size + 1 := by simp
  have hx : Boxed ⟨b, p, r⟩ w.heap.size (w.alloc (.cells #[.int .i64 b, .int .i64 p, .int .i64 r] 26)) := Boxed.new ⟨b, p, r⟩ w
  refine ⟨((Below.refl w.heap.size w).alloc (Nat.le_refl _) _).alloc (by omega) _, hx.below ((Below.refl (w.heap.size + 1) _).alloc (by omega) _) (by omega), ?_, by simp⟩
  have := BoxedP.new x y (w.alloc (.cells #[.int .i64 b, .int .i64 p, .int .i64 r] 26))
  rwa [hs] at this
/-- .. and a page made behind that. -/
structure QSt (a s : Int) (m : Nat) (W : World) : Prop where
  box : BoxedP a s m W
  hm : m < W.heap.size
theorem QSt.next {W W' : World} {a s : Int} {m : Nat} (h : QSt a s m W) (hb : Below W.heap.size W W') : QSt a s m W' := ⟨h.box.below hb h.hm, Nat.lt_of_lt_of_le h.hm hb.size⟩
theorem QSt.new (a s : Int) (W : World) : QSt a s W.heap.size (W.alloc (.cells #[.int .i64 a, .int .i64 s] 28)) := ⟨BoxedP.new a s W, by simp⟩


set_option maxHeartbeats 2000000 in
theorem places_wrong (b p r x y i : Int) (w : World) (h : ¬ Gm.Right ⟨b, p, r⟩) : Calls Try.prog 4 #[(⟨b, p, r⟩ : Gm).val, .agg #[.int .i64 x, .int .i64 y], .int .i64 i] w fun e w' => e = .returned (.bool true) ∧ Below w.heap.size w w' := by
  have hPlace := fun W => place_any ⟨b, p, r⟩ x y W
  have hAt := fun W => at_any ⟨b, p, r⟩ i W
  have hRight := fun W => right13_any ⟨b, p, r⟩ W
  rw [Gm.place_not h] at hPlace
  rw [Gm.at_not h] at hAt
  rw [decide_eq_false h] at hRight
  clear h
  have S := hide (PSt.start w b p r x y)
  unfold Gm.val at *
  try simp only at *
  try simp only [atV] at hAt
  go_enter Try.func4, Try.ntmps4
  obtain ⟨c0, c1, c2, c3, c4⟩ := S.out.cells
  go_wp2_with fail
  clear c0 c1 c2 c3 c4
  (with_reducible refine (hPlace _).mono ?_)
  rintro e w1 ⟨rfl, hb⟩
  have S2 := hide (S.out.next hb)
  clear S
  have S := hide S2.out
  clear S2
  clear hb
  obtain ⟨c0, c1, c2, c3, c4⟩ := S.out.cells
  go_wp2_with fail
  clear c0 c1 c2 c3 c4
  (with_reducible refine (hAt _).mono ?_)
  rintro e w2 ⟨rfl, hb⟩
  have S2 := hide (S.out.next hb)
  clear S
  have S := hide S2.out
  clear S2
  clear hb
  obtain ⟨c0, c1, c2, c3, c4⟩ := S.out.cells
  clear c0 c1 c2 c3 c4
  have hb := (Below.refl w2.heap.size w2).alloc (Nat.le_refl _) (.cells #[.int .i64 (0), .int .i64 (0)] 28)
  have S2 := hide (S.out.next hb)
  clear S
  have S := hide S2.out
  clear S2
  clear hb
  have Q := hide (QSt.new (0) (0) w2)
  obtain ⟨c0, c1, c2, c3, c4⟩ := S.out.cells
  have c5 := Q.out.box.x
  have c6 := Q.out.box.y
  go_wp2_with fail
  clear c0 c1 c2 c3 c4 c5 c6
  (with_reducible refine (hRight _).mono ?_)
  rintro e w3 ⟨rfl, hb⟩
  have S2 := hide (S.out.next hb)
  clear S
  have S := hide S2.out
  clear S2
  have Q2 := hide (Q.out.next hb)
  clear Q
  have Q := hide Q2.out
  clear Q2
  clear hb
  obtain ⟨c0, c1, c2, c3, c4⟩ := S.out.cells
  have c5 := Q.out.box.x
  have c6 := Q.out.box.y
  go_wp2_with fail
  clear c0 c1 c2 c3 c4 c5 c6
  (with_reducible refine (awake13_any _).mono ?_)
  rintro e w4 ⟨rfl, hb⟩
  have S2 := hide (S.out.next hb)
  clear S
  have S := hide S2.out
  clear S2
  have Q2 := hide (Q.out.next hb)
  clear Q
  have Q := hide Q2.out
  clear Q2
  clear hb
  obtain ⟨c0, c1, c2, c3, c4⟩ := S.out.cells
  have c5 := Q.out.box.x
  have c6 := Q.out.box.y
  go_wp2
  go_ret
  exact ⟨rfl, S.out.below⟩

theorem at_back {b p r x y : Int} (h : Gm.Right ⟨b, p, r⟩) (h2 : 0 ≤ x ∧ x ≤ b - 1 ∧ 0 ≤ y ∧ y ≤ p - 1) : Gm.at_ ⟨b, p, r⟩ (x * p + y) = (x, y, 0) := by
  obtain ⟨h3, h4, h5, h6, _⟩ := h
  simp only at h3 h4 h5 h6
  obtain ⟨x0, x1, y0, y1⟩ := h2
  have m0 : 0 ≤ x * p := Int.mul_nonneg x0 (by omega)
  have m1 : x * p ≤ (b - 1) * p := Int.mul_le_mul_of_nonneg_right x1 (by omega)
  have m2 : (b - 1) * p = b * p - p := by rw [Int.sub_mul, Int.one_mul]
  have hd : (x * p + y) / p = x := by rw [Int.add_comm, Int.add_mul_ediv_right _ _ (by omega), Int.ediv_eq_zero_of_lt y0 (by omega)]; omega
  have hm : (x * p + y) % p = y := by rw [Int.add_comm, Int.add_mul_emod_self_right, Int.emod_eq_of_lt y0 (by omega)]
  rw [Gm.at_ok ⟨h3, h4, h5, h6, by assumption⟩ (by simp only; omega)]
  simp only
  rw [hd, hm]

set_option maxHeartbeats 4000000 in
theorem places_has_in (b p r x y i : Int) (w : World) (h : Gm.Right ⟨b, p, r⟩) (hx : 0 ≤ x ∧ x ≤ b - 1 ∧ 0 ≤ y ∧ y ≤ p - 1) (hi : 0 ≤ i ∧ i ≤ b * p - 1) : Calls Try.prog 4 #[(⟨b, p, r⟩ : Gm).val, .agg #[.int .i64 x, .int .i64 y], .int .i64 i] w fun e w' => e = .returned (.bool true) ∧ Below w.heap.size w w' := by
  have hPlace := fun W => place_any ⟨b, p, r⟩ x y W
  have hAt := fun W => at_any ⟨b, p, r⟩ i W
  have hRight := fun W => right13_any ⟨b, p, r⟩ W
  rw [decide_eq_true h] at hRight
  have hb8 : 8 ≤ b := h.1
  have hb34 : b ≤ 34 := h.2.1
  have hp4 : p ≤ 32 := h.2.2.2.1
  have hp3 : 4 ≤ p := h.2.2.1
  rw [Gm.at_ok h hi] at hAt
  have i1 : wrap64 (b * p) = b * p := gwr64 (by have := mul_within (y := b) (p := p) (by omega) (by omega) (by omega) hp4; omega)
  have i2 : ¬ i < 0 := by omega
  have i3 : ¬ b * p ≤ i := by omega
  have i4 : i / p * p + i % p = i := Int.ediv_mul_add_emod i p
  have i5 : 0 ≤ i % p := Int.emod_nonneg _ (by omega)
  have i6 : i % p < p := Int.emod_lt_of_pos _ (by omega)
  have i7 : wrap64 (i / p * p) = i / p * p := gwr64 (by have := mul_within (y := b) (p := p) (by omega) (by omega) (by omega) hp4; omega)
  have i8 : wrap64 (i / p * p + i % p) = i := by rw [i4]; exact gwr64 (by have := mul_within (y := b) (p := p) (by omega) (by omega) (by omega) hp4; omega)
  simp only at hAt
  generalize i / p = qa at *
  generalize i % p = qs at *
  clear i4 hi
  have hBack := fun W => at_any ⟨b, p, r⟩ (x * p + y) W
  rw [at_back h hx] at hBack
  rw [Gm.place_ok h hx] at hPlace
  have hm := mul_within (y := x) (p := p) (by omega) (by omega) (by omega) h.2.2.2.1
  have t1 : wrap64 (x * p) = x * p := gwr64 (by omega)
  obtain ⟨x0, x1, y0, y1⟩ := hx
  have x2 : x < b := by omega
  have y2 : y < p := by omega
  obtain ⟨z, hz⟩ : ∃ z, z = x * p + y := ⟨_, rfl⟩
  have t2 : wrap64 (x * p + y) = z := by rw [hz]; exact gwr64 (by omega)
  simp only at hPlace
  rw [← hz] at hPlace hBack
  clear hm x1 y1 hz
  clear h hb8 hb34 hp4 hp3
  have S := hide (PSt.start w b p r x y)
  unfold Gm.val at *
  try simp only at *
  try simp only [atV] at hAt
  simp only [atV] at hBack
  go_enter Try.func4, Try.ntmps4
  obtain ⟨c0, c1, c2, c3, c4⟩ := S.out.cells
  go_wp2_with fail
  clear c0 c1 c2 c3 c4
  (with_reducible refine (hPlace _).mono ?_)
  rintro e w1 ⟨rfl, hb⟩
  have S2 := hide (S.out.next hb)
  clear S
  have S := hide S2.out
  clear S2
  clear hb
  obtain ⟨c0, c1, c2, c3, c4⟩ := S.out.cells
  go_wp2_with fail
  clear c0 c1 c2 c3 c4
  (with_reducible refine (hAt _).mono ?_)
  rintro e w2 ⟨rfl, hb⟩
  have S2 := hide (S.out.next hb)
  clear S
  have S := hide S2.out
  clear S2
  clear hb
  obtain ⟨c0, c1, c2, c3, c4⟩ := S.out.cells
  clear c0 c1 c2 c3 c4
  have hb := (Below.refl w2.heap.size w2).alloc (Nat.le_refl _) (.cells #[.int .i64 (qa), .int .i64 (qs)] 28)
  have S2 := hide (S.out.next hb)
  clear S
  have S := hide S2.out
  clear S2
  clear hb
  have Q := hide (QSt.new (qa) (qs) w2)
  obtain ⟨c0, c1, c2, c3, c4⟩ := S.out.cells
  have c5 := Q.out.box.x
  have c6 := Q.out.box.y
  go_wp2_with fail
  clear c0 c1 c2 c3 c4 c5 c6
  (with_reducible refine (hRight _).mono ?_)
  rintro e w3 ⟨rfl, hb⟩
  have S2 := hide (S.out.next hb)
  clear S
  have S := hide S2.out
  clear S2
  have Q2 := hide (Q.out.next hb)
  clear Q
  have Q := hide Q2.out
  clear Q2
  clear hb
  obtain ⟨c0, c1, c2, c3, c4⟩ := S.out.cells
  have c5 := Q.out.box.x
  have c6 := Q.out.box.y
  go_wp2_with fail
  clear c0 c1 c2 c3 c4 c5 c6
  (with_reducible refine (hBack _).mono ?_)
  rintro e w4 ⟨rfl, hb⟩
  have S2 := hide (S.out.next hb)
  clear S
  have S := hide S2.out
  clear S2
  have Q2 := hide (Q.out.next hb)
  clear Q
  have Q := hide Q2.out
  clear Q2
  clear hb
  obtain ⟨c0, c1, c2, c3, c4⟩ := S.out.cells
  have c5 := Q.out.box.x
  have c6 := Q.out.box.y
  clear c0 c1 c2 c3 c4 c5 c6
  have hb := (Below.refl w4.heap.size w4).alloc (Nat.le_refl _) (.cells #[.int .i64 (x), .int .i64 (y)] 28)
  have S2 := hide (S.out.next hb)
  clear S
  have S := hide S2.out
  clear S2
  have Q2 := hide (Q.out.next hb)
  clear Q
  have Q := hide Q2.out
  clear Q2
  clear hb
  have R := hide (QSt.new (x) (y) w4)
  obtain ⟨c0, c1, c2, c3, c4⟩ := S.out.cells
  have c5 := Q.out.box.x
  have c6 := Q.out.box.y
  have c7 := R.out.box.x
  have c8 := R.out.box.y
  go_wp2_with fail
  clear c0 c1 c2 c3 c4 c5 c6 c7 c8
  (with_reducible refine (awake13_any _).mono ?_)
  rintro e w5 ⟨rfl, hb⟩
  have S2 := hide (S.out.next hb)
  clear S
  have S := hide S2.out
  clear S2
  have Q2 := hide (Q.out.next hb)
  clear Q
  have Q := hide Q2.out
  clear Q2
  have R2 := hide (R.out.next hb)
  clear R
  have R := hide R2.out
  clear R2
  clear hb
  obtain ⟨c0, c1, c2, c3, c4⟩ := S.out.cells
  have c5 := Q.out.box.x
  have c6 := Q.out.box.y
  have c7 := R.out.box.x
  have c8 := R.out.box.y
  go_wp2
  go_ret
  exact ⟨rfl, S.out.below⟩

set_option maxHeartbeats 4000000 in
theorem places_has_lo (b p r x y i : Int) (w : World) (h : Gm.Right ⟨b, p, r⟩) (hx : 0 ≤ x ∧ x ≤ b - 1 ∧ 0 ≤ y ∧ y ≤ p - 1) (hi : i < 0) : Calls Try.prog 4 #[(⟨b, p, r⟩ : Gm).val, .agg #[.int .i64 x, .int .i64 y], .int .i64 i] w fun e w' => e = .returned (.bool true) ∧ Below w.heap.size w w' := by
  have hPlace := fun W => place_any ⟨b, p, r⟩ x y W
  have hAt := fun W => at_any ⟨b, p, r⟩ i W
  have hRight := fun W => right13_any ⟨b, p, r⟩ W
  rw [decide_eq_true h] at hRight
  have hb8 : 8 ≤ b := h.1
  have hb34 : b ≤ 34 := h.2.1
  have hp4 : p ≤ 32 := h.2.2.2.1
  have hp3 : 4 ≤ p := h.2.2.1
  rw [Gm.at_none (show ¬ (0 ≤ i ∧ i ≤ (⟨b, p, r⟩ : Gm).b * (⟨b, p, r⟩ : Gm).p - 1) from fun h => by omega)] at hAt
  have hBack := fun W => at_any ⟨b, p, r⟩ (x * p + y) W
  rw [at_back h hx] at hBack
  rw [Gm.place_ok h hx] at hPlace
  have hm := mul_within (y := x) (p := p) (by omega) (by omega) (by omega) h.2.2.2.1
  have t1 : wrap64 (x * p) = x * p := gwr64 (by omega)
  obtain ⟨x0, x1, y0, y1⟩ := hx
  have x2 : x < b := by omega
  have y2 : y < p := by omega
  obtain ⟨z, hz⟩ : ∃ z, z = x * p + y := ⟨_, rfl⟩
  have t2 : wrap64 (x * p + y) = z := by rw [hz]; exact gwr64 (by omega)
  simp only at hPlace
  rw [← hz] at hPlace hBack
  clear hm x1 y1 hz
  clear h hb8 hb34 hp4 hp3
  have S := hide (PSt.start w b p r x y)
  unfold Gm.val at *
  try simp only at *
  try simp only [atV] at hAt
  simp only [atV] at hBack
  go_enter Try.func4, Try.ntmps4
  obtain ⟨c0, c1, c2, c3, c4⟩ := S.out.cells
  go_wp2_with fail
  clear c0 c1 c2 c3 c4
  (with_reducible refine (hPlace _).mono ?_)
  rintro e w1 ⟨rfl, hb⟩
  have S2 := hide (S.out.next hb)
  clear S
  have S := hide S2.out
  clear S2
  clear hb
  obtain ⟨c0, c1, c2, c3, c4⟩ := S.out.cells
  go_wp2_with fail
  clear c0 c1 c2 c3 c4
  (with_reducible refine (hAt _).mono ?_)
  rintro e w2 ⟨rfl, hb⟩
  have S2 := hide (S.out.next hb)
  clear S
  have S := hide S2.out
  clear S2
  clear hb
  obtain ⟨c0, c1, c2, c3, c4⟩ := S.out.cells
  clear c0 c1 c2 c3 c4
  have hb := (Below.refl w2.heap.size w2).alloc (Nat.le_refl _) (.cells #[.int .i64 (0), .int .i64 (0)] 28)
  have S2 := hide (S.out.next hb)
  clear S
  have S := hide S2.out
  clear S2
  clear hb
  have Q := hide (QSt.new (0) (0) w2)
  obtain ⟨c0, c1, c2, c3, c4⟩ := S.out.cells
  have c5 := Q.out.box.x
  have c6 := Q.out.box.y
  go_wp2_with fail
  clear c0 c1 c2 c3 c4 c5 c6
  (with_reducible refine (hRight _).mono ?_)
  rintro e w3 ⟨rfl, hb⟩
  have S2 := hide (S.out.next hb)
  clear S
  have S := hide S2.out
  clear S2
  have Q2 := hide (Q.out.next hb)
  clear Q
  have Q := hide Q2.out
  clear Q2
  clear hb
  obtain ⟨c0, c1, c2, c3, c4⟩ := S.out.cells
  have c5 := Q.out.box.x
  have c6 := Q.out.box.y
  go_wp2_with fail
  clear c0 c1 c2 c3 c4 c5 c6
  (with_reducible refine (hBack _).mono ?_)
  rintro e w4 ⟨rfl, hb⟩
  have S2 := hide (S.out.next hb)
  clear S
  have S := hide S2.out
  clear S2
  have Q2 := hide (Q.out.next hb)
  clear Q
  have Q := hide Q2.out
  clear Q2
  clear hb
  obtain ⟨c0, c1, c2, c3, c4⟩ := S.out.cells
  have c5 := Q.out.box.x
  have c6 := Q.out.box.y
  clear c0 c1 c2 c3 c4 c5 c6
  have hb := (Below.refl w4.heap.size w4).alloc (Nat.le_refl _) (.cells #[.int .i64 (x), .int .i64 (y)] 28)
  have S2 := hide (S.out.next hb)
  clear S
  have S := hide S2.out
  clear S2
  have Q2 := hide (Q.out.next hb)
  clear Q
  have Q := hide Q2.out
  clear Q2
  clear hb
  have R := hide (QSt.new (x) (y) w4)
  obtain ⟨c0, c1, c2, c3, c4⟩ := S.out.cells
  have c5 := Q.out.box.x
  have c6 := Q.out.box.y
  have c7 := R.out.box.x
  have c8 := R.out.box.y
  go_wp2_with fail
  clear c0 c1 c2 c3 c4 c5 c6 c7 c8
  (with_reducible refine (awake13_any _).mono ?_)
  rintro e w5 ⟨rfl, hb⟩
  have S2 := hide (S.out.next hb)
  clear S
  have S := hide S2.out
  clear S2
  have Q2 := hide (Q.out.next hb)
  clear Q
  have Q := hide Q2.out
  clear Q2
  have R2 := hide (R.out.next hb)
  clear R
  have R := hide R2.out
  clear R2
  clear hb
  obtain ⟨c0, c1, c2, c3, c4⟩ := S.out.cells
  have c5 := Q.out.box.x
  have c6 := Q.out.box.y
  have c7 := R.out.box.x
  have c8 := R.out.box.y
  go_wp2
  go_ret
  exact ⟨rfl, S.out.below⟩

set_option maxHeartbeats 4000000 in
theorem places_has_hi (b p r x y i : Int) (w : World) (h : Gm.Right ⟨b, p, r⟩) (hx : 0 ≤ x ∧ x ≤ b - 1 ∧ 0 ≤ y ∧ y ≤ p - 1) (hi0 : ¬ i < 0) (hi : b * p ≤ i) : Calls Try.prog 4 #[(⟨b, p, r⟩ : Gm).val, .agg #[.int .i64 x, .int .i64 y], .int .i64 i] w fun e w' => e = .returned (.bool true) ∧ Below w.heap.size w w' := by
  have hPlace := fun W => place_any ⟨b, p, r⟩ x y W
  have hAt := fun W => at_any ⟨b, p, r⟩ i W
  have hRight := fun W => right13_any ⟨b, p, r⟩ W
  rw [decide_eq_true h] at hRight
  have hb8 : 8 ≤ b := h.1
  have hb34 : b ≤ 34 := h.2.1
  have hp4 : p ≤ 32 := h.2.2.2.1
  have hp3 : 4 ≤ p := h.2.2.1
  rw [Gm.at_none (show ¬ (0 ≤ i ∧ i ≤ (⟨b, p, r⟩ : Gm).b * (⟨b, p, r⟩ : Gm).p - 1) from fun h => by simp only at h; omega)] at hAt
  have i1 : wrap64 (b * p) = b * p := gwr64 (by have := mul_within (y := b) (p := p) (by omega) (by omega) (by omega) hp4; omega)
  have hBack := fun W => at_any ⟨b, p, r⟩ (x * p + y) W
  rw [at_back h hx] at hBack
  rw [Gm.place_ok h hx] at hPlace
  have hm := mul_within (y := x) (p := p) (by omega) (by omega) (by omega) h.2.2.2.1
  have t1 : wrap64 (x * p) = x * p := gwr64 (by omega)
  obtain ⟨x0, x1, y0, y1⟩ := hx
  have x2 : x < b := by omega
  have y2 : y < p := by omega
  obtain ⟨z, hz⟩ : ∃ z, z = x * p + y := ⟨_, rfl⟩
  have t2 : wrap64 (x * p + y) = z := by rw [hz]; exact gwr64 (by omega)
  simp only at hPlace
  rw [← hz] at hPlace hBack
  clear hm x1 y1 hz
  clear h hb8 hb34 hp4 hp3
  have S := hide (PSt.start w b p r x y)
  unfold Gm.val at *
  try simp only at *
  try simp only [atV] at hAt
  simp only [atV] at hBack
  go_enter Try.func4, Try.ntmps4
  obtain ⟨c0, c1, c2, c3, c4⟩ := S.out.cells
  go_wp2_with fail
  clear c0 c1 c2 c3 c4
  (with_reducible refine (hPlace _).mono ?_)
  rintro e w1 ⟨rfl, hb⟩
  have S2 := hide (S.out.next hb)
  clear S
  have S := hide S2.out
  clear S2
  clear hb
  obtain ⟨c0, c1, c2, c3, c4⟩ := S.out.cells
  go_wp2_with fail
  clear c0 c1 c2 c3 c4
  (with_reducible refine (hAt _).mono ?_)
  rintro e w2 ⟨rfl, hb⟩
  have S2 := hide (S.out.next hb)
  clear S
  have S := hide S2.out
  clear S2
  clear hb
  obtain ⟨c0, c1, c2, c3, c4⟩ := S.out.cells
  clear c0 c1 c2 c3 c4
  have hb := (Below.refl w2.heap.size w2).alloc (Nat.le_refl _) (.cells #[.int .i64 (0), .int .i64 (0)] 28)
  have S2 := hide (S.out.next hb)
  clear S
  have S := hide S2.out
  clear S2
  clear hb
  have Q := hide (QSt.new (0) (0) w2)
  obtain ⟨c0, c1, c2, c3, c4⟩ := S.out.cells
  have c5 := Q.out.box.x
  have c6 := Q.out.box.y
  go_wp2_with fail
  clear c0 c1 c2 c3 c4 c5 c6
  (with_reducible refine (hRight _).mono ?_)
  rintro e w3 ⟨rfl, hb⟩
  have S2 := hide (S.out.next hb)
  clear S
  have S := hide S2.out
  clear S2
  have Q2 := hide (Q.out.next hb)
  clear Q
  have Q := hide Q2.out
  clear Q2
  clear hb
  obtain ⟨c0, c1, c2, c3, c4⟩ := S.out.cells
  have c5 := Q.out.box.x
  have c6 := Q.out.box.y
  go_wp2_with fail
  clear c0 c1 c2 c3 c4 c5 c6
  (with_reducible refine (hBack _).mono ?_)
  rintro e w4 ⟨rfl, hb⟩
  have S2 := hide (S.out.next hb)
  clear S
  have S := hide S2.out
  clear S2
  have Q2 := hide (Q.out.next hb)
  clear Q
  have Q := hide Q2.out
  clear Q2
  clear hb
  obtain ⟨c0, c1, c2, c3, c4⟩ := S.out.cells
  have c5 := Q.out.box.x
  have c6 := Q.out.box.y
  clear c0 c1 c2 c3 c4 c5 c6
  have hb := (Below.refl w4.heap.size w4).alloc (Nat.le_refl _) (.cells #[.int .i64 (x), .int .i64 (y)] 28)
  have S2 := hide (S.out.next hb)
  clear S
  have S := hide S2.out
  clear S2
  have Q2 := hide (Q.out.next hb)
  clear Q
  have Q := hide Q2.out
  clear Q2
  clear hb
  have R := hide (QSt.new (x) (y) w4)
  obtain ⟨c0, c1, c2, c3, c4⟩ := S.out.cells
  have c5 := Q.out.box.x
  have c6 := Q.out.box.y
  have c7 := R.out.box.x
  have c8 := R.out.box.y
  go_wp2_with fail
  clear c0 c1 c2 c3 c4 c5 c6 c7 c8
  (with_reducible refine (awake13_any _).mono ?_)
  rintro e w5 ⟨rfl, hb⟩
  have S2 := hide (S.out.next hb)
  clear S
  have S := hide S2.out
  clear S2
  have Q2 := hide (Q.out.next hb)
  clear Q
  have Q := hide Q2.out
  clear Q2
  have R2 := hide (R.out.next hb)
  clear R
  have R := hide R2.out
  clear R2
  clear hb
  obtain ⟨c0, c1, c2, c3, c4⟩ := S.out.cells
  have c5 := Q.out.box.x
  have c6 := Q.out.box.y
  have c7 := R.out.box.x
  have c8 := R.out.box.y
  go_wp2
  go_ret
  exact ⟨rfl, S.out.below⟩

set_option maxHeartbeats 4000000 in
theorem places_lox_in (b p r x y i : Int) (w : World) (h : Gm.Right ⟨b, p, r⟩) (hx : x < 0) (hi : 0 ≤ i ∧ i ≤ b * p - 1) : Calls Try.prog 4 #[(⟨b, p, r⟩ : Gm).val, .agg #[.int .i64 x, .int .i64 y], .int .i64 i] w fun e w' => e = .returned (.bool true) ∧ Below w.heap.size w w' := by
  have hPlace := fun W => place_any ⟨b, p, r⟩ x y W
  have hAt := fun W => at_any ⟨b, p, r⟩ i W
  have hRight := fun W => right13_any ⟨b, p, r⟩ W
  rw [decide_eq_true h] at hRight
  have hb8 : 8 ≤ b := h.1
  have hb34 : b ≤ 34 := h.2.1
  have hp4 : p ≤ 32 := h.2.2.2.1
  have hp3 : 4 ≤ p := h.2.2.1
  rw [Gm.at_ok h hi] at hAt
  have i1 : wrap64 (b * p) = b * p := gwr64 (by have := mul_within (y := b) (p := p) (by omega) (by omega) (by omega) hp4; omega)
  have i2 : ¬ i < 0 := by omega
  have i3 : ¬ b * p ≤ i := by omega
  have i4 : i / p * p + i % p = i := Int.ediv_mul_add_emod i p
  have i5 : 0 ≤ i % p := Int.emod_nonneg _ (by omega)
  have i6 : i % p < p := Int.emod_lt_of_pos _ (by omega)
  have i7 : wrap64 (i / p * p) = i / p * p := gwr64 (by have := mul_within (y := b) (p := p) (by omega) (by omega) (by omega) hp4; omega)
  have i8 : wrap64 (i / p * p + i % p) = i := by rw [i4]; exact gwr64 (by have := mul_within (y := b) (p := p) (by omega) (by omega) (by omega) hp4; omega)
  simp only at hAt
  generalize i / p = qa at *
  generalize i % p = qs at *
  clear i4 hi
  rw [Gm.place_none (show ¬ Gm.Has ⟨b, p, r⟩ x y from fun h => by obtain ⟨_, _, _, _⟩ := h; omega)] at hPlace
  clear h hb8 hb34 hp4 hp3
  have S := hide (PSt.start w b p r x y)
  unfold Gm.val at *
  try simp only at *
  try simp only [atV] at hAt
  go_enter Try.func4, Try.ntmps4
  obtain ⟨c0, c1, c2, c3, c4⟩ := S.out.cells
  go_wp2_with fail
  clear c0 c1 c2 c3 c4
  (with_reducible refine (hPlace _).mono ?_)
  rintro e w1 ⟨rfl, hb⟩
  have S2 := hide (S.out.next hb)
  clear S
  have S := hide S2.out
  clear S2
  clear hb
  obtain ⟨c0, c1, c2, c3, c4⟩ := S.out.cells
  go_wp2_with fail
  clear c0 c1 c2 c3 c4
  (with_reducible refine (hAt _).mono ?_)
  rintro e w2 ⟨rfl, hb⟩
  have S2 := hide (S.out.next hb)
  clear S
  have S := hide S2.out
  clear S2
  clear hb
  obtain ⟨c0, c1, c2, c3, c4⟩ := S.out.cells
  clear c0 c1 c2 c3 c4
  have hb := (Below.refl w2.heap.size w2).alloc (Nat.le_refl _) (.cells #[.int .i64 (qa), .int .i64 (qs)] 28)
  have S2 := hide (S.out.next hb)
  clear S
  have S := hide S2.out
  clear S2
  clear hb
  have Q := hide (QSt.new (qa) (qs) w2)
  obtain ⟨c0, c1, c2, c3, c4⟩ := S.out.cells
  have c5 := Q.out.box.x
  have c6 := Q.out.box.y
  go_wp2_with fail
  clear c0 c1 c2 c3 c4 c5 c6
  (with_reducible refine (hRight _).mono ?_)
  rintro e w3 ⟨rfl, hb⟩
  have S2 := hide (S.out.next hb)
  clear S
  have S := hide S2.out
  clear S2
  have Q2 := hide (Q.out.next hb)
  clear Q
  have Q := hide Q2.out
  clear Q2
  clear hb
  obtain ⟨c0, c1, c2, c3, c4⟩ := S.out.cells
  have c5 := Q.out.box.x
  have c6 := Q.out.box.y
  go_wp2_with fail
  clear c0 c1 c2 c3 c4 c5 c6
  (with_reducible refine (awake13_any _).mono ?_)
  rintro e w4 ⟨rfl, hb⟩
  have S2 := hide (S.out.next hb)
  clear S
  have S := hide S2.out
  clear S2
  have Q2 := hide (Q.out.next hb)
  clear Q
  have Q := hide Q2.out
  clear Q2
  clear hb
  obtain ⟨c0, c1, c2, c3, c4⟩ := S.out.cells
  have c5 := Q.out.box.x
  have c6 := Q.out.box.y
  go_wp2
  go_ret
  exact ⟨rfl, S.out.below⟩

set_option maxHeartbeats 4000000 in
theorem places_lox_lo (b p r x y i : Int) (w : World) (h : Gm.Right ⟨b, p, r⟩) (hx : x < 0) (hi : i < 0) : Calls Try.prog 4 #[(⟨b, p, r⟩ : Gm).val, .agg #[.int .i64 x, .int .i64 y], .int .i64 i] w fun e w' => e = .returned (.bool true) ∧ Below w.heap.size w w' := by
  have hPlace := fun W => place_any ⟨b, p, r⟩ x y W
  have hAt := fun W => at_any ⟨b, p, r⟩ i W
  have hRight := fun W => right13_any ⟨b, p, r⟩ W
  rw [decide_eq_true h] at hRight
  have hb8 : 8 ≤ b := h.1
  have hb34 : b ≤ 34 := h.2.1
  have hp4 : p ≤ 32 := h.2.2.2.1
  have hp3 : 4 ≤ p := h.2.2.1
  rw [Gm.at_none (show ¬ (0 ≤ i ∧ i ≤ (⟨b, p, r⟩ : Gm).b * (⟨b, p, r⟩ : Gm).p - 1) from fun h => by omega)] at hAt
  rw [Gm.place_none (show ¬ Gm.Has ⟨b, p, r⟩ x y from fun h => by obtain ⟨_, _, _, _⟩ := h; omega)] at hPlace
  clear h hb8 hb34 hp4 hp3
  have S := hide (PSt.start w b p r x y)
  unfold Gm.val at *
  try simp only at *
  try simp only [atV] at hAt
  go_enter Try.func4, Try.ntmps4
  obtain ⟨c0, c1, c2, c3, c4⟩ := S.out.cells
  go_wp2_with fail
  clear c0 c1 c2 c3 c4
  (with_reducible refine (hPlace _).mono ?_)
  rintro e w1 ⟨rfl, hb⟩
  have S2 := hide (S.out.next hb)
  clear S
  have S := hide S2.out
  clear S2
  clear hb
  obtain ⟨c0, c1, c2, c3, c4⟩ := S.out.cells
  go_wp2_with fail
  clear c0 c1 c2 c3 c4
  (with_reducible refine (hAt _).mono ?_)
  rintro e w2 ⟨rfl, hb⟩
  have S2 := hide (S.out.next hb)
  clear S
  have S := hide S2.out
  clear S2
  clear hb
  obtain ⟨c0, c1, c2, c3, c4⟩ := S.out.cells
  clear c0 c1 c2 c3 c4
  have hb := (Below.refl w2.heap.size w2).alloc (Nat.le_refl _) (.cells #[.int .i64 (0), .int .i64 (0)] 28)
  have S2 := hide (S.out.next hb)
  clear S
  have S := hide S2.out
  clear S2
  clear hb
  have Q := hide (QSt.new (0) (0) w2)
  obtain ⟨c0, c1, c2, c3, c4⟩ := S.out.cells
  have c5 := Q.out.box.x
  have c6 := Q.out.box.y
  go_wp2_with fail
  clear c0 c1 c2 c3 c4 c5 c6
  (with_reducible refine (hRight _).mono ?_)
  rintro e w3 ⟨rfl, hb⟩
  have S2 := hide (S.out.next hb)
  clear S
  have S := hide S2.out
  clear S2
  have Q2 := hide (Q.out.next hb)
  clear Q
  have Q := hide Q2.out
  clear Q2
  clear hb
  obtain ⟨c0, c1, c2, c3, c4⟩ := S.out.cells
  have c5 := Q.out.box.x
  have c6 := Q.out.box.y
  go_wp2_with fail
  clear c0 c1 c2 c3 c4 c5 c6
  (with_reducible refine (awake13_any _).mono ?_)
  rintro e w4 ⟨rfl, hb⟩
  have S2 := hide (S.out.next hb)
  clear S
  have S := hide S2.out
  clear S2
  have Q2 := hide (Q.out.next hb)
  clear Q
  have Q := hide Q2.out
  clear Q2
  clear hb
  obtain ⟨c0, c1, c2, c3, c4⟩ := S.out.cells
  have c5 := Q.out.box.x
  have c6 := Q.out.box.y
  go_wp2
  go_ret
  exact ⟨rfl, S.out.below⟩

set_option maxHeartbeats 4000000 in
theorem places_lox_hi (b p r x y i : Int) (w : World) (h : Gm.Right ⟨b, p, r⟩) (hx : x < 0) (hi0 : ¬ i < 0) (hi : b * p ≤ i) : Calls Try.prog 4 #[(⟨b, p, r⟩ : Gm).val, .agg #[.int .i64 x, .int .i64 y], .int .i64 i] w fun e w' => e = .returned (.bool true) ∧ Below w.heap.size w w' := by
  have hPlace := fun W => place_any ⟨b, p, r⟩ x y W
  have hAt := fun W => at_any ⟨b, p, r⟩ i W
  have hRight := fun W => right13_any ⟨b, p, r⟩ W
  rw [decide_eq_true h] at hRight
  have hb8 : 8 ≤ b := h.1
  have hb34 : b ≤ 34 := h.2.1
  have hp4 : p ≤ 32 := h.2.2.2.1
  have hp3 : 4 ≤ p := h.2.2.1
  rw [Gm.at_none (show ¬ (0 ≤ i ∧ i ≤ (⟨b, p, r⟩ : Gm).b * (⟨b, p, r⟩ : Gm).p - 1) from fun h => by simp only at h; omega)] at hAt
  have i1 : wrap64 (b * p) = b * p := gwr64 (by have := mul_within (y := b) (p := p) (by omega) (by omega) (by omega) hp4; omega)
  rw [Gm.place_none (show ¬ Gm.Has ⟨b, p, r⟩ x y from fun h => by obtain ⟨_, _, _, _⟩ := h; omega)] at hPlace
  clear h hb8 hb34 hp4 hp3
  have S := hide (PSt.start w b p r x y)
  unfold Gm.val at *
  try simp only at *
  try simp only [atV] at hAt
  go_enter Try.func4, Try.ntmps4
  obtain ⟨c0, c1, c2, c3, c4⟩ := S.out.cells
  go_wp2_with fail
  clear c0 c1 c2 c3 c4
  (with_reducible refine (hPlace _).mono ?_)
  rintro e w1 ⟨rfl, hb⟩
  have S2 := hide (S.out.next hb)
  clear S
  have S := hide S2.out
  clear S2
  clear hb
  obtain ⟨c0, c1, c2, c3, c4⟩ := S.out.cells
  go_wp2_with fail
  clear c0 c1 c2 c3 c4
  (with_reducible refine (hAt _).mono ?_)
  rintro e w2 ⟨rfl, hb⟩
  have S2 := hide (S.out.next hb)
  clear S
  have S := hide S2.out
  clear S2
  clear hb
  obtain ⟨c0, c1, c2, c3, c4⟩ := S.out.cells
  clear c0 c1 c2 c3 c4
  have hb := (Below.refl w2.heap.size w2).alloc (Nat.le_refl _) (.cells #[.int .i64 (0), .int .i64 (0)] 28)
  have S2 := hide (S.out.next hb)
  clear S
  have S := hide S2.out
  clear S2
  clear hb
  have Q := hide (QSt.new (0) (0) w2)
  obtain ⟨c0, c1, c2, c3, c4⟩ := S.out.cells
  have c5 := Q.out.box.x
  have c6 := Q.out.box.y
  go_wp2_with fail
  clear c0 c1 c2 c3 c4 c5 c6
  (with_reducible refine (hRight _).mono ?_)
  rintro e w3 ⟨rfl, hb⟩
  have S2 := hide (S.out.next hb)
  clear S
  have S := hide S2.out
  clear S2
  have Q2 := hide (Q.out.next hb)
  clear Q
  have Q := hide Q2.out
  clear Q2
  clear hb
  obtain ⟨c0, c1, c2, c3, c4⟩ := S.out.cells
  have c5 := Q.out.box.x
  have c6 := Q.out.box.y
  go_wp2_with fail
  clear c0 c1 c2 c3 c4 c5 c6
  (with_reducible refine (awake13_any _).mono ?_)
  rintro e w4 ⟨rfl, hb⟩
  have S2 := hide (S.out.next hb)
  clear S
  have S := hide S2.out
  clear S2
  have Q2 := hide (Q.out.next hb)
  clear Q
  have Q := hide Q2.out
  clear Q2
  clear hb
  obtain ⟨c0, c1, c2, c3, c4⟩ := S.out.cells
  have c5 := Q.out.box.x
  have c6 := Q.out.box.y
  go_wp2
  go_ret
  exact ⟨rfl, S.out.below⟩

set_option maxHeartbeats 4000000 in
theorem places_hix_in (b p r x y i : Int) (w : World) (h : Gm.Right ⟨b, p, r⟩) (hx0 : 0 ≤ x) (hx : ¬ x < b) (hi : 0 ≤ i ∧ i ≤ b * p - 1) : Calls Try.prog 4 #[(⟨b, p, r⟩ : Gm).val, .agg #[.int .i64 x, .int .i64 y], .int .i64 i] w fun e w' => e = .returned (.bool true) ∧ Below w.heap.size w w' := by
  have hPlace := fun W => place_any ⟨b, p, r⟩ x y W
  have hAt := fun W => at_any ⟨b, p, r⟩ i W
  have hRight := fun W => right13_any ⟨b, p, r⟩ W
  rw [decide_eq_true h] at hRight
  have hb8 : 8 ≤ b := h.1
  have hb34 : b ≤ 34 := h.2.1
  have hp4 : p ≤ 32 := h.2.2.2.1
  have hp3 : 4 ≤ p := h.2.2.1
  rw [Gm.at_ok h hi] at hAt
  have i1 : wrap64 (b * p) = b * p := gwr64 (by have := mul_within (y := b) (p := p) (by omega) (by omega) (by omega) hp4; omega)
  have i2 : ¬ i < 0 := by omega
  have i3 : ¬ b * p ≤ i := by omega
  have i4 : i / p * p + i % p = i := Int.ediv_mul_add_emod i p
  have i5 : 0 ≤ i % p := Int.emod_nonneg _ (by omega)
  have i6 : i % p < p := Int.emod_lt_of_pos _ (by omega)
  have i7 : wrap64 (i / p * p) = i / p * p := gwr64 (by have := mul_within (y := b) (p := p) (by omega) (by omega) (by omega) hp4; omega)
  have i8 : wrap64 (i / p * p + i % p) = i := by rw [i4]; exact gwr64 (by have := mul_within (y := b) (p := p) (by omega) (by omega) (by omega) hp4; omega)
  simp only at hAt
  generalize i / p = qa at *
  generalize i % p = qs at *
  clear i4 hi
  rw [Gm.place_none (show ¬ Gm.Has ⟨b, p, r⟩ x y from fun h => by obtain ⟨_, h2, _, _⟩ := h; simp only at h2; omega)] at hPlace
  clear h hb8 hb34 hp4 hp3
  have S := hide (PSt.start w b p r x y)
  unfold Gm.val at *
  try simp only at *
  try simp only [atV] at hAt
  go_enter Try.func4, Try.ntmps4
  obtain ⟨c0, c1, c2, c3, c4⟩ := S.out.cells
  go_wp2_with fail
  clear c0 c1 c2 c3 c4
  (with_reducible refine (hPlace _).mono ?_)
  rintro e w1 ⟨rfl, hb⟩
  have S2 := hide (S.out.next hb)
  clear S
  have S := hide S2.out
  clear S2
  clear hb
  obtain ⟨c0, c1, c2, c3, c4⟩ := S.out.cells
  go_wp2_with fail
  clear c0 c1 c2 c3 c4
  (with_reducible refine (hAt _).mono ?_)
  rintro e w2 ⟨rfl, hb⟩
  have S2 := hide (S.out.next hb)
  clear S
  have S := hide S2.out
  clear S2
  clear hb
  obtain ⟨c0, c1, c2, c3, c4⟩ := S.out.cells
  clear c0 c1 c2 c3 c4
  have hb := (Below.refl w2.heap.size w2).alloc (Nat.le_refl _) (.cells #[.int .i64 (qa), .int .i64 (qs)] 28)
  have S2 := hide (S.out.next hb)
  clear S
  have S := hide S2.out
  clear S2
  clear hb
  have Q := hide (QSt.new (qa) (qs) w2)
  obtain ⟨c0, c1, c2, c3, c4⟩ := S.out.cells
  have c5 := Q.out.box.x
  have c6 := Q.out.box.y
  go_wp2_with fail
  clear c0 c1 c2 c3 c4 c5 c6
  (with_reducible refine (hRight _).mono ?_)
  rintro e w3 ⟨rfl, hb⟩
  have S2 := hide (S.out.next hb)
  clear S
  have S := hide S2.out
  clear S2
  have Q2 := hide (Q.out.next hb)
  clear Q
  have Q := hide Q2.out
  clear Q2
  clear hb
  obtain ⟨c0, c1, c2, c3, c4⟩ := S.out.cells
  have c5 := Q.out.box.x
  have c6 := Q.out.box.y
  go_wp2_with fail
  clear c0 c1 c2 c3 c4 c5 c6
  (with_reducible refine (awake13_any _).mono ?_)
  rintro e w4 ⟨rfl, hb⟩
  have S2 := hide (S.out.next hb)
  clear S
  have S := hide S2.out
  clear S2
  have Q2 := hide (Q.out.next hb)
  clear Q
  have Q := hide Q2.out
  clear Q2
  clear hb
  obtain ⟨c0, c1, c2, c3, c4⟩ := S.out.cells
  have c5 := Q.out.box.x
  have c6 := Q.out.box.y
  go_wp2
  go_ret
  exact ⟨rfl, S.out.below⟩

set_option maxHeartbeats 4000000 in
theorem places_hix_lo (b p r x y i : Int) (w : World) (h : Gm.Right ⟨b, p, r⟩) (hx0 : 0 ≤ x) (hx : ¬ x < b) (hi : i < 0) : Calls Try.prog 4 #[(⟨b, p, r⟩ : Gm).val, .agg #[.int .i64 x, .int .i64 y], .int .i64 i] w fun e w' => e = .returned (.bool true) ∧ Below w.heap.size w w' := by
  have hPlace := fun W => place_any ⟨b, p, r⟩ x y W
  have hAt := fun W => at_any ⟨b, p, r⟩ i W
  have hRight := fun W => right13_any ⟨b, p, r⟩ W
  rw [decide_eq_true h] at hRight
  have hb8 : 8 ≤ b := h.1
  have hb34 : b ≤ 34 := h.2.1
  have hp4 : p ≤ 32 := h.2.2.2.1
  have hp3 : 4 ≤ p := h.2.2.1
  rw [Gm.at_none (show ¬ (0 ≤ i ∧ i ≤ (⟨b, p, r⟩ : Gm).b * (⟨b, p, r⟩ : Gm).p - 1) from fun h => by omega)] at hAt
  rw [Gm.place_none (show ¬ Gm.Has ⟨b, p, r⟩ x y from fun h => by obtain ⟨_, h2, _, _⟩ := h; simp only at h2; omega)] at hPlace
  clear h hb8 hb34 hp4 hp3
  have S := hide (PSt.start w b p r x y)
  unfold Gm.val at *
  try simp only at *
  try simp only [atV] at hAt
  go_enter Try.func4, Try.ntmps4
  obtain ⟨c0, c1, c2, c3, c4⟩ := S.out.cells
  go_wp2_with fail
  clear c0 c1 c2 c3 c4
  (with_reducible refine (hPlace _).mono ?_)
  rintro e w1 ⟨rfl, hb⟩
  have S2 := hide (S.out.next hb)
  clear S
  have S := hide S2.out
  clear S2
  clear hb
  obtain ⟨c0, c1, c2, c3, c4⟩ := S.out.cells
  go_wp2_with fail
  clear c0 c1 c2 c3 c4
  (with_reducible refine (hAt _).mono ?_)
  rintro e w2 ⟨rfl, hb⟩
  have S2 := hide (S.out.next hb)
  clear S
  have S := hide S2.out
  clear S2
  clear hb
  obtain ⟨c0, c1, c2, c3, c4⟩ := S.out.cells
  clear c0 c1 c2 c3 c4
  have hb := (Below.refl w2.heap.size w2).alloc (Nat.le_refl _) (.cells #[.int .i64 (0), .int .i64 (0)] 28)
  have S2 := hide (S.out.next hb)
  clear S
  have S := hide S2.out
  clear S2
  clear hb
  have Q := hide (QSt.new (0) (0) w2)
  obtain ⟨c0, c1, c2, c3, c4⟩ := S.out.cells
  have c5 := Q.out.box.x
  have c6 := Q.out.box.y
  go_wp2_with fail
  clear c0 c1 c2 c3 c4 c5 c6
  (with_reducible refine (hRight _).mono ?_)
  rintro e w3 ⟨rfl, hb⟩
  have S2 := hide (S.out.next hb)
  clear S
  have S := hide S2.out
  clear S2
  have Q2 := hide (Q.out.next hb)
  clear Q
  have Q := hide Q2.out
  clear Q2
  clear hb
  obtain ⟨c0, c1, c2, c3, c4⟩ := S.out.cells
  have c5 := Q.out.box.x
  have c6 := Q.out.box.y
  go_wp2_with fail
  clear c0 c1 c2 c3 c4 c5 c6
  (with_reducible refine (awake13_any _).mono ?_)
  rintro e w4 ⟨rfl, hb⟩
  have S2 := hide (S.out.next hb)
  clear S
  have S := hide S2.out
  clear S2
  have Q2 := hide (Q.out.next hb)
  clear Q
  have Q := hide Q2.out
  clear Q2
  clear hb
  obtain ⟨c0, c1, c2, c3, c4⟩ := S.out.cells
  have c5 := Q.out.box.x
  have c6 := Q.out.box.y
  go_wp2
  go_ret
  exact ⟨rfl, S.out.below⟩

set_option maxHeartbeats 4000000 in
theorem places_hix_hi (b p r x y i : Int) (w : World) (h : Gm.Right ⟨b, p, r⟩) (hx0 : 0 ≤ x) (hx : ¬ x < b) (hi0 : ¬ i < 0) (hi : b * p ≤ i) : Calls Try.prog 4 #[(⟨b, p, r⟩ : Gm).val, .agg #[.int .i64 x, .int .i64 y], .int .i64 i] w fun e w' => e = .returned (.bool true) ∧ Below w.heap.size w w' := by
  have hPlace := fun W => place_any ⟨b, p, r⟩ x y W
  have hAt := fun W => at_any ⟨b, p, r⟩ i W
  have hRight := fun W => right13_any ⟨b, p, r⟩ W
  rw [decide_eq_true h] at hRight
  have hb8 : 8 ≤ b := h.1
  have hb34 : b ≤ 34 := h.2.1
  have hp4 : p ≤ 32 := h.2.2.2.1
  have hp3 : 4 ≤ p := h.2.2.1
  rw [Gm.at_none (show ¬ (0 ≤ i ∧ i ≤ (⟨b, p, r⟩ : Gm).b * (⟨b, p, r⟩ : Gm).p - 1) from fun h => by simp only at h; omega)] at hAt
  have i1 : wrap64 (b * p) = b * p := gwr64 (by have := mul_within (y := b) (p := p) (by omega) (by omega) (by omega) hp4; omega)
  rw [Gm.place_none (show ¬ Gm.Has ⟨b, p, r⟩ x y from fun h => by obtain ⟨_, h2, _, _⟩ := h; simp only at h2; omega)] at hPlace
  clear h hb8 hb34 hp4 hp3
  have S := hide (PSt.start w b p r x y)
  unfold Gm.val at *
  try simp only at *
  try simp only [atV] at hAt
  go_enter Try.func4, Try.ntmps4
  obtain ⟨c0, c1, c2, c3, c4⟩ := S.out.cells
  go_wp2_with fail
  clear c0 c1 c2 c3 c4
  (with_reducible refine (hPlace _).mono ?_)
  rintro e w1 ⟨rfl, hb⟩
  have S2 := hide (S.out.next hb)
  clear S
  have S := hide S2.out
  clear S2
  clear hb
  obtain ⟨c0, c1, c2, c3, c4⟩ := S.out.cells
  go_wp2_with fail
  clear c0 c1 c2 c3 c4
  (with_reducible refine (hAt _).mono ?_)
  rintro e w2 ⟨rfl, hb⟩
  have S2 := hide (S.out.next hb)
  clear S
  have S := hide S2.out
  clear S2
  clear hb
  obtain ⟨c0, c1, c2, c3, c4⟩ := S.out.cells
  clear c0 c1 c2 c3 c4
  have hb := (Below.refl w2.heap.size w2).alloc (Nat.le_refl _) (.cells #[.int .i64 (0), .int .i64 (0)] 28)
  have S2 := hide (S.out.next hb)
  clear S
  have S := hide S2.out
  clear S2
  clear hb
  have Q := hide (QSt.new (0) (0) w2)
  obtain ⟨c0, c1, c2, c3, c4⟩ := S.out.cells
  have c5 := Q.out.box.x
  have c6 := Q.out.box.y
  go_wp2_with fail
  clear c0 c1 c2 c3 c4 c5 c6
  (with_reducible refine (hRight _).mono ?_)
  rintro e w3 ⟨rfl, hb⟩
  have S2 := hide (S.out.next hb)
  clear S
  have S := hide S2.out
  clear S2
  have Q2 := hide (Q.out.next hb)
  clear Q
  have Q := hide Q2.out
  clear Q2
  clear hb
  obtain ⟨c0, c1, c2, c3, c4⟩ := S.out.cells
  have c5 := Q.out.box.x
  have c6 := Q.out.box.y
  go_wp2_with fail
  clear c0 c1 c2 c3 c4 c5 c6
  (with_reducible refine (awake13_any _).mono ?_)
  rintro e w4 ⟨rfl, hb⟩
  have S2 := hide (S.out.next hb)
  clear S
  have S := hide S2.out
  clear S2
  have Q2 := hide (Q.out.next hb)
  clear Q
  have Q := hide Q2.out
  clear Q2
  clear hb
  obtain ⟨c0, c1, c2, c3, c4⟩ := S.out.cells
  have c5 := Q.out.box.x
  have c6 := Q.out.box.y
  go_wp2
  go_ret
  exact ⟨rfl, S.out.below⟩

set_option maxHeartbeats 4000000 in
theorem places_loy_in (b p r x y i : Int) (w : World) (h : Gm.Right ⟨b, p, r⟩) (hx0 : 0 ≤ x) (hx : x < b) (hy : y < 0) (hi : 0 ≤ i ∧ i ≤ b * p - 1) : Calls Try.prog 4 #[(⟨b, p, r⟩ : Gm).val, .agg #[.int .i64 x, .int .i64 y], .int .i64 i] w fun e w' => e = .returned (.bool true) ∧ Below w.heap.size w w' := by
  have hPlace := fun W => place_any ⟨b, p, r⟩ x y W
  have hAt := fun W => at_any ⟨b, p, r⟩ i W
  have hRight := fun W => right13_any ⟨b, p, r⟩ W
  rw [decide_eq_true h] at hRight
  have hb8 : 8 ≤ b := h.1
  have hb34 : b ≤ 34 := h.2.1
  have hp4 : p ≤ 32 := h.2.2.2.1
  have hp3 : 4 ≤ p := h.2.2.1
  rw [Gm.at_ok h hi] at hAt
  have i1 : wrap64 (b * p) = b * p := gwr64 (by have := mul_within (y := b) (p := p) (by omega) (by omega) (by omega) hp4; omega)
  have i2 : ¬ i < 0 := by omega
  have i3 : ¬ b * p ≤ i := by omega
  have i4 : i / p * p + i % p = i := Int.ediv_mul_add_emod i p
  have i5 : 0 ≤ i % p := Int.emod_nonneg _ (by omega)
  have i6 : i % p < p := Int.emod_lt_of_pos _ (by omega)
  have i7 : wrap64 (i / p * p) = i / p * p := gwr64 (by have := mul_within (y := b) (p := p) (by omega) (by omega) (by omega) hp4; omega)
  have i8 : wrap64 (i / p * p + i % p) = i := by rw [i4]; exact gwr64 (by have := mul_within (y := b) (p := p) (by omega) (by omega) (by omega) hp4; omega)
  simp only at hAt
  generalize i / p = qa at *
  generalize i % p = qs at *
  clear i4 hi
  rw [Gm.place_none (show ¬ Gm.Has ⟨b, p, r⟩ x y from fun h => by obtain ⟨_, _, _, _⟩ := h; omega)] at hPlace
  clear h hb8 hb34 hp4 hp3
  have S := hide (PSt.start w b p r x y)
  unfold Gm.val at *
  try simp only at *
  try simp only [atV] at hAt
  go_enter Try.func4, Try.ntmps4
  obtain ⟨c0, c1, c2, c3, c4⟩ := S.out.cells
  go_wp2_with fail
  clear c0 c1 c2 c3 c4
  (with_reducible refine (hPlace _).mono ?_)
  rintro e w1 ⟨rfl, hb⟩
  have S2 := hide (S.out.next hb)
  clear S
  have S := hide S2.out
  clear S2
  clear hb
  obtain ⟨c0, c1, c2, c3, c4⟩ := S.out.cells
  go_wp2_with fail
  clear c0 c1 c2 c3 c4
  (with_reducible refine (hAt _).mono ?_)
  rintro e w2 ⟨rfl, hb⟩
  have S2 := hide (S.out.next hb)
  clear S
  have S := hide S2.out
  clear S2
  clear hb
  obtain ⟨c0, c1, c2, c3, c4⟩ := S.out.cells
  clear c0 c1 c2 c3 c4
  have hb := (Below.refl w2.heap.size w2).alloc (Nat.le_refl _) (.cells #[.int .i64 (qa), .int .i64 (qs)] 28)
  have S2 := hide (S.out.next hb)
  clear S
  have S := hide S2.out
  clear S2
  clear hb
  have Q := hide (QSt.new (qa) (qs) w2)
  obtain ⟨c0, c1, c2, c3, c4⟩ := S.out.cells
  have c5 := Q.out.box.x
  have c6 := Q.out.box.y
  go_wp2_with fail
  clear c0 c1 c2 c3 c4 c5 c6
  (with_reducible refine (hRight _).mono ?_)
  rintro e w3 ⟨rfl, hb⟩
  have S2 := hide (S.out.next hb)
  clear S
  have S := hide S2.out
  clear S2
  have Q2 := hide (Q.out.next hb)
  clear Q
  have Q := hide Q2.out
  clear Q2
  clear hb
  obtain ⟨c0, c1, c2, c3, c4⟩ := S.out.cells
  have c5 := Q.out.box.x
  have c6 := Q.out.box.y
  go_wp2_with fail
  clear c0 c1 c2 c3 c4 c5 c6
  (with_reducible refine (awake13_any _).mono ?_)
  rintro e w4 ⟨rfl, hb⟩
  have S2 := hide (S.out.next hb)
  clear S
  have S := hide S2.out
  clear S2
  have Q2 := hide (Q.out.next hb)
  clear Q
  have Q := hide Q2.out
  clear Q2
  clear hb
  obtain ⟨c0, c1, c2, c3, c4⟩ := S.out.cells
  have c5 := Q.out.box.x
  have c6 := Q.out.box.y
  go_wp2
  go_ret
  exact ⟨rfl, S.out.below⟩

set_option maxHeartbeats 4000000 in
theorem places_loy_lo (b p r x y i : Int) (w : World) (h : Gm.Right ⟨b, p, r⟩) (hx0 : 0 ≤ x) (hx : x < b) (hy : y < 0) (hi : i < 0) : Calls Try.prog 4 #[(⟨b, p, r⟩ : Gm).val, .agg #[.int .i64 x, .int .i64 y], .int .i64 i] w fun e w' => e = .returned (.bool true) ∧ Below w.heap.size w w' := by
  have hPlace := fun W => place_any ⟨b, p, r⟩ x y W
  have hAt := fun W => at_any ⟨b, p, r⟩ i W
  have hRight := fun W => right13_any ⟨b, p, r⟩ W
  rw [decide_eq_true h] at hRight
  have hb8 : 8 ≤ b := h.1
  have hb34 : b ≤ 34 := h.2.1
  have hp4 : p ≤ 32 := h.2.2.2.1
  have hp3 : 4 ≤ p := h.2.2.1
  rw [Gm.at_none (show ¬ (0 ≤ i ∧ i ≤ (⟨b, p, r⟩ : Gm).b * (⟨b, p, r⟩ : Gm).p - 1) from fun h => by omega)] at hAt
  rw [Gm.place_none (show ¬ Gm.Has ⟨b, p, r⟩ x y from fun h => by obtain ⟨_, _, _, _⟩ := h; omega)] at hPlace
  clear h hb8 hb34 hp4 hp3
  have S := hide (PSt.start w b p r x y)
  unfold Gm.val at *
  try simp only at *
  try simp only [atV] at hAt
  go_enter Try.func4, Try.ntmps4
  obtain ⟨c0, c1, c2, c3, c4⟩ := S.out.cells
  go_wp2_with fail
  clear c0 c1 c2 c3 c4
  (with_reducible refine (hPlace _).mono ?_)
  rintro e w1 ⟨rfl, hb⟩
  have S2 := hide (S.out.next hb)
  clear S
  have S := hide S2.out
  clear S2
  clear hb
  obtain ⟨c0, c1, c2, c3, c4⟩ := S.out.cells
  go_wp2_with fail
  clear c0 c1 c2 c3 c4
  (with_reducible refine (hAt _).mono ?_)
  rintro e w2 ⟨rfl, hb⟩
  have S2 := hide (S.out.next hb)
  clear S
  have S := hide S2.out
  clear S2
  clear hb
  obtain ⟨c0, c1, c2, c3, c4⟩ := S.out.cells
  clear c0 c1 c2 c3 c4
  have hb := (Below.refl w2.heap.size w2).alloc (Nat.le_refl _) (.cells #[.int .i64 (0), .int .i64 (0)] 28)
  have S2 := hide (S.out.next hb)
  clear S
  have S := hide S2.out
  clear S2
  clear hb
  have Q := hide (QSt.new (0) (0) w2)
  obtain ⟨c0, c1, c2, c3, c4⟩ := S.out.cells
  have c5 := Q.out.box.x
  have c6 := Q.out.box.y
  go_wp2_with fail
  clear c0 c1 c2 c3 c4 c5 c6
  (with_reducible refine (hRight _).mono ?_)
  rintro e w3 ⟨rfl, hb⟩
  have S2 := hide (S.out.next hb)
  clear S
  have S := hide S2.out
  clear S2
  have Q2 := hide (Q.out.next hb)
  clear Q
  have Q := hide Q2.out
  clear Q2
  clear hb
  obtain ⟨c0, c1, c2, c3, c4⟩ := S.out.cells
  have c5 := Q.out.box.x
  have c6 := Q.out.box.y
  go_wp2_with fail
  clear c0 c1 c2 c3 c4 c5 c6
  (with_reducible refine (awake13_any _).mono ?_)
  rintro e w4 ⟨rfl, hb⟩
  have S2 := hide (S.out.next hb)
  clear S
  have S := hide S2.out
  clear S2
  have Q2 := hide (Q.out.next hb)
  clear Q
  have Q := hide Q2.out
  clear Q2
  clear hb
  obtain ⟨c0, c1, c2, c3, c4⟩ := S.out.cells
  have c5 := Q.out.box.x
  have c6 := Q.out.box.y
  go_wp2
  go_ret
  exact ⟨rfl, S.out.below⟩

set_option maxHeartbeats 4000000 in
theorem places_loy_hi (b p r x y i : Int) (w : World) (h : Gm.Right ⟨b, p, r⟩) (hx0 : 0 ≤ x) (hx : x < b) (hy : y < 0) (hi0 : ¬ i < 0) (hi : b * p ≤ i) : Calls Try.prog 4 #[(⟨b, p, r⟩ : Gm).val, .agg #[.int .i64 x, .int .i64 y], .int .i64 i] w fun e w' => e = .returned (.bool true) ∧ Below w.heap.size w w' := by
  have hPlace := fun W => place_any ⟨b, p, r⟩ x y W
  have hAt := fun W => at_any ⟨b, p, r⟩ i W
  have hRight := fun W => right13_any ⟨b, p, r⟩ W
  rw [decide_eq_true h] at hRight
  have hb8 : 8 ≤ b := h.1
  have hb34 : b ≤ 34 := h.2.1
  have hp4 : p ≤ 32 := h.2.2.2.1
  have hp3 : 4 ≤ p := h.2.2.1
  rw [Gm.at_none (show ¬ (0 ≤ i ∧ i ≤ (⟨b, p, r⟩ : Gm).b * (⟨b, p, r⟩ : Gm).p - 1) from fun h => by simp only at h; omega)] at hAt
  have i1 : wrap64 (b * p) = b * p := gwr64 (by have := mul_within (y := b) (p := p) (by omega) (by omega) (by omega) hp4; omega)
  rw [Gm.place_none (show ¬ Gm.Has ⟨b, p, r⟩ x y from fun h => by obtain ⟨_, _, _, _⟩ := h; omega)] at hPlace
  clear h hb8 hb34 hp4 hp3
  have S := hide (PSt.start w b p r x y)
  unfold Gm.val at *
  try simp only at *
  try simp only [atV] at hAt
  go_enter Try.func4, Try.ntmps4
  obtain ⟨c0, c1, c2, c3, c4⟩ := S.out.cells
  go_wp2_with fail
  clear c0 c1 c2 c3 c4
  (with_reducible refine (hPlace _).mono ?_)
  rintro e w1 ⟨rfl, hb⟩
  have S2 := hide (S.out.next hb)
  clear S
  have S := hide S2.out
  clear S2
  clear hb
  obtain ⟨c0, c1, c2, c3, c4⟩ := S.out.cells
  go_wp2_with fail
  clear c0 c1 c2 c3 c4
  (with_reducible refine (hAt _).mono ?_)
  rintro e w2 ⟨rfl, hb⟩
  have S2 := hide (S.out.next hb)
  clear S
  have S := hide S2.out
  clear S2
  clear hb
  obtain ⟨c0, c1, c2, c3, c4⟩ := S.out.cells
  clear c0 c1 c2 c3 c4
  have hb := (Below.refl w2.heap.size w2).alloc (Nat.le_refl _) (.cells #[.int .i64 (0), .int .i64 (0)] 28)
  have S2 := hide (S.out.next hb)
  clear S
  have S := hide S2.out
  clear S2
  clear hb
  have Q := hide (QSt.new (0) (0) w2)
  obtain ⟨c0, c1, c2, c3, c4⟩ := S.out.cells
  have c5 := Q.out.box.x
  have c6 := Q.out.box.y
  go_wp2_with fail
  clear c0 c1 c2 c3 c4 c5 c6
  (with_reducible refine (hRight _).mono ?_)
  rintro e w3 ⟨rfl, hb⟩
  have S2 := hide (S.out.next hb)
  clear S
  have S := hide S2.out
  clear S2
  have Q2 := hide (Q.out.next hb)
  clear Q
  have Q := hide Q2.out
  clear Q2
  clear hb
  obtain ⟨c0, c1, c2, c3, c4⟩ := S.out.cells
  have c5 := Q.out.box.x
  have c6 := Q.out.box.y
  go_wp2_with fail
  clear c0 c1 c2 c3 c4 c5 c6
  (with_reducible refine (awake13_any _).mono ?_)
  rintro e w4 ⟨rfl, hb⟩
  have S2 := hide (S.out.next hb)
  clear S
  have S := hide S2.out
  clear S2
  have Q2 := hide (Q.out.next hb)
  clear Q
  have Q := hide Q2.out
  clear Q2
  clear hb
  obtain ⟨c0, c1, c2, c3, c4⟩ := S.out.cells
  have c5 := Q.out.box.x
  have c6 := Q.out.box.y
  go_wp2
  go_ret
  exact ⟨rfl, S.out.below⟩

set_option maxHeartbeats 4000000 in
theorem places_hiy_in (b p r x y i : Int) (w : World) (h : Gm.Right ⟨b, p, r⟩) (hx0 : 0 ≤ x) (hx : x < b) (hy0 : 0 ≤ y) (hy : ¬ y < p) (hi : 0 ≤ i ∧ i ≤ b * p - 1) : Calls Try.prog 4 #[(⟨b, p, r⟩ : Gm).val, .agg #[.int .i64 x, .int .i64 y], .int .i64 i] w fun e w' => e = .returned (.bool true) ∧ Below w.heap.size w w' := by
  have hPlace := fun W => place_any ⟨b, p, r⟩ x y W
  have hAt := fun W => at_any ⟨b, p, r⟩ i W
  have hRight := fun W => right13_any ⟨b, p, r⟩ W
  rw [decide_eq_true h] at hRight
  have hb8 : 8 ≤ b := h.1
  have hb34 : b ≤ 34 := h.2.1
  have hp4 : p ≤ 32 := h.2.2.2.1
  have hp3 : 4 ≤ p := h.2.2.1
  rw [Gm.at_ok h hi] at hAt
  have i1 : wrap64 (b * p) = b * p := gwr64 (by have := mul_within (y := b) (p := p) (by omega) (by omega) (by omega) hp4; omega)
  have i2 : ¬ i < 0 := by omega
  have i3 : ¬ b * p ≤ i := by omega
  have i4 : i / p * p + i % p = i := Int.ediv_mul_add_emod i p
  have i5 : 0 ≤ i % p := Int.emod_nonneg _ (by omega)
  have i6 : i % p < p := Int.emod_lt_of_pos _ (by omega)
  have i7 : wrap64 (i / p * p) = i / p * p := gwr64 (by have := mul_within (y := b) (p := p) (by omega) (by omega) (by omega) hp4; omega)
  have i8 : wrap64 (i / p * p + i % p) = i := by rw [i4]; exact gwr64 (by have := mul_within (y := b) (p := p) (by omega) (by omega) (by omega) hp4; omega)
  simp only at hAt
  generalize i / p = qa at *
  generalize i % p = qs at *
  clear i4 hi
  rw [Gm.place_none (show ¬ Gm.Has ⟨b, p, r⟩ x y from fun h => by obtain ⟨_, _, _, h2⟩ := h; simp only at h2; omega)] at hPlace
  clear h hb8 hb34 hp4 hp3
  have S := hide (PSt.start w b p r x y)
  unfold Gm.val at *
  try simp only at *
  try simp only [atV] at hAt
  go_enter Try.func4, Try.ntmps4
  obtain ⟨c0, c1, c2, c3, c4⟩ := S.out.cells
  go_wp2_with fail
  clear c0 c1 c2 c3 c4
  (with_reducible refine (hPlace _).mono ?_)
  rintro e w1 ⟨rfl, hb⟩
  have S2 := hide (S.out.next hb)
  clear S
  have S := hide S2.out
  clear S2
  clear hb
  obtain ⟨c0, c1, c2, c3, c4⟩ := S.out.cells
  go_wp2_with fail
  clear c0 c1 c2 c3 c4
  (with_reducible refine (hAt _).mono ?_)
  rintro e w2 ⟨rfl, hb⟩
  have S2 := hide (S.out.next hb)
  clear S
  have S := hide S2.out
  clear S2
  clear hb
  obtain ⟨c0, c1, c2, c3, c4⟩ := S.out.cells
  clear c0 c1 c2 c3 c4
  have hb := (Below.refl w2.heap.size w2).alloc (Nat.le_refl _) (.cells #[.int .i64 (qa), .int .i64 (qs)] 28)
  have S2 := hide (S.out.next hb)
  clear S
  have S := hide S2.out
  clear S2
  clear hb
  have Q := hide (QSt.new (qa) (qs) w2)
  obtain ⟨c0, c1, c2, c3, c4⟩ := S.out.cells
  have c5 := Q.out.box.x
  have c6 := Q.out.box.y
  go_wp2_with fail
  clear c0 c1 c2 c3 c4 c5 c6
  (with_reducible refine (hRight _).mono ?_)
  rintro e w3 ⟨rfl, hb⟩
  have S2 := hide (S.out.next hb)
  clear S
  have S := hide S2.out
  clear S2
  have Q2 := hide (Q.out.next hb)
  clear Q
  have Q := hide Q2.out
  clear Q2
  clear hb
  obtain ⟨c0, c1, c2, c3, c4⟩ := S.out.cells
  have c5 := Q.out.box.x
  have c6 := Q.out.box.y
  go_wp2_with fail
  clear c0 c1 c2 c3 c4 c5 c6
  (with_reducible refine (awake13_any _).mono ?_)
  rintro e w4 ⟨rfl, hb⟩
  have S2 := hide (S.out.next hb)
  clear S
  have S := hide S2.out
  clear S2
  have Q2 := hide (Q.out.next hb)
  clear Q
  have Q := hide Q2.out
  clear Q2
  clear hb
  obtain ⟨c0, c1, c2, c3, c4⟩ := S.out.cells
  have c5 := Q.out.box.x
  have c6 := Q.out.box.y
  go_wp2
  go_ret
  exact ⟨rfl, S.out.below⟩

set_option maxHeartbeats 4000000 in
theorem places_hiy_lo (b p r x y i : Int) (w : World) (h : Gm.Right ⟨b, p, r⟩) (hx0 : 0 ≤ x) (hx : x < b) (hy0 : 0 ≤ y) (hy : ¬ y < p) (hi : i < 0) : Calls Try.prog 4 #[(⟨b, p, r⟩ : Gm).val, .agg #[.int .i64 x, .int .i64 y], .int .i64 i] w fun e w' => e = .returned (.bool true) ∧ Below w.heap.size w w' := by
  have hPlace := fun W => place_any ⟨b, p, r⟩ x y W
  have hAt := fun W => at_any ⟨b, p, r⟩ i W
  have hRight := fun W => right13_any ⟨b, p, r⟩ W
  rw [decide_eq_true h] at hRight
  have hb8 : 8 ≤ b := h.1
  have hb34 : b ≤ 34 := h.2.1
  have hp4 : p ≤ 32 := h.2.2.2.1
  have hp3 : 4 ≤ p := h.2.2.1
  rw [Gm.at_none (show ¬ (0 ≤ i ∧ i ≤ (⟨b, p, r⟩ : Gm).b * (⟨b, p, r⟩ : Gm).p - 1) from fun h => by omega)] at hAt
  rw [Gm.place_none (show ¬ Gm.Has ⟨b, p, r⟩ x y from fun h => by obtain ⟨_, _, _, h2⟩ := h; simp only at h2; omega)] at hPlace
  clear h hb8 hb34 hp4 hp3
  have S := hide (PSt.start w b p r x y)
  unfold Gm.val at *
  try simp only at *
  try simp only [atV] at hAt
  go_enter Try.func4, Try.ntmps4
  obtain ⟨c0, c1, c2, c3, c4⟩ := S.out.cells
  go_wp2_with fail
  clear c0 c1 c2 c3 c4
  (with_reducible refine (hPlace _).mono ?_)
  rintro e w1 ⟨rfl, hb⟩
  have S2 := hide (S.out.next hb)
  clear S
  have S := hide S2.out
  clear S2
  clear hb
  obtain ⟨c0, c1, c2, c3, c4⟩ := S.out.cells
  go_wp2_with fail
  clear c0 c1 c2 c3 c4
  (with_reducible refine (hAt _).mono ?_)
  rintro e w2 ⟨rfl, hb⟩
  have S2 := hide (S.out.next hb)
  clear S
  have S := hide S2.out
  clear S2
  clear hb
  obtain ⟨c0, c1, c2, c3, c4⟩ := S.out.cells
  clear c0 c1 c2 c3 c4
  have hb := (Below.refl w2.heap.size w2).alloc (Nat.le_refl _) (.cells #[.int .i64 (0), .int .i64 (0)] 28)
  have S2 := hide (S.out.next hb)
  clear S
  have S := hide S2.out
  clear S2
  clear hb
  have Q := hide (QSt.new (0) (0) w2)
  obtain ⟨c0, c1, c2, c3, c4⟩ := S.out.cells
  have c5 := Q.out.box.x
  have c6 := Q.out.box.y
  go_wp2_with fail
  clear c0 c1 c2 c3 c4 c5 c6
  (with_reducible refine (hRight _).mono ?_)
  rintro e w3 ⟨rfl, hb⟩
  have S2 := hide (S.out.next hb)
  clear S
  have S := hide S2.out
  clear S2
  have Q2 := hide (Q.out.next hb)
  clear Q
  have Q := hide Q2.out
  clear Q2
  clear hb
  obtain ⟨c0, c1, c2, c3, c4⟩ := S.out.cells
  have c5 := Q.out.box.x
  have c6 := Q.out.box.y
  go_wp2_with fail
  clear c0 c1 c2 c3 c4 c5 c6
  (with_reducible refine (awake13_any _).mono ?_)
  rintro e w4 ⟨rfl, hb⟩
  have S2 := hide (S.out.next hb)
  clear S
  have S := hide S2.out
  clear S2
  have Q2 := hide (Q.out.next hb)
  clear Q
  have Q := hide Q2.out
  clear Q2
  clear hb
  obtain ⟨c0, c1, c2, c3, c4⟩ := S.out.cells
  have c5 := Q.out.box.x
  have c6 := Q.out.box.y
  go_wp2
  go_ret
  exact ⟨rfl, S.out.below⟩

set_option maxHeartbeats 4000000 in
theorem places_hiy_hi (b p r x y i : Int) (w : World) (h : Gm.Right ⟨b, p, r⟩) (hx0 : 0 ≤ x) (hx : x < b) (hy0 : 0 ≤ y) (hy : ¬ y < p) (hi0 : ¬ i < 0) (hi : b * p ≤ i) : Calls Try.prog 4 #[(⟨b, p, r⟩ : Gm).val, .agg #[.int .i64 x, .int .i64 y], .int .i64 i] w fun e w' => e = .returned (.bool true) ∧ Below w.heap.size w w' := by
  have hPlace := fun W => place_any ⟨b, p, r⟩ x y W
  have hAt := fun W => at_any ⟨b, p, r⟩ i W
  have hRight := fun W => right13_any ⟨b, p, r⟩ W
  rw [decide_eq_true h] at hRight
  have hb8 : 8 ≤ b := h.1
  have hb34 : b ≤ 34 := h.2.1
  have hp4 : p ≤ 32 := h.2.2.2.1
  have hp3 : 4 ≤ p := h.2.2.1
  rw [Gm.at_none (show ¬ (0 ≤ i ∧ i ≤ (⟨b, p, r⟩ : Gm).b * (⟨b, p, r⟩ : Gm).p - 1) from fun h => by simp only at h; omega)] at hAt
  have i1 : wrap64 (b * p) = b * p := gwr64 (by have := mul_within (y := b) (p := p) (by omega) (by omega) (by omega) hp4; omega)
  rw [Gm.place_none (show ¬ Gm.Has ⟨b, p, r⟩ x y from fun h => by obtain ⟨_, _, _, h2⟩ := h; simp only at h2; omega)] at hPlace
  clear h hb8 hb34 hp4 hp3
  have S := hide (PSt.start w b p r x y)
  unfold Gm.val at *
  try simp only at *
  try simp only [atV] at hAt
  go_enter Try.func4, Try.ntmps4
  obtain ⟨c0, c1, c2, c3, c4⟩ := S.out.cells
  go_wp2_with fail
  clear c0 c1 c2 c3 c4
  (with_reducible refine (hPlace _).mono ?_)
  rintro e w1 ⟨rfl, hb⟩
  have S2 := hide (S.out.next hb)
  clear S
  have S := hide S2.out
  clear S2
  clear hb
  obtain ⟨c0, c1, c2, c3, c4⟩ := S.out.cells
  go_wp2_with fail
  clear c0 c1 c2 c3 c4
  (with_reducible refine (hAt _).mono ?_)
  rintro e w2 ⟨rfl, hb⟩
  have S2 := hide (S.out.next hb)
  clear S
  have S := hide S2.out
  clear S2
  clear hb
  obtain ⟨c0, c1, c2, c3, c4⟩ := S.out.cells
  clear c0 c1 c2 c3 c4
  have hb := (Below.refl w2.heap.size w2).alloc (Nat.le_refl _) (.cells #[.int .i64 (0), .int .i64 (0)] 28)
  have S2 := hide (S.out.next hb)
  clear S
  have S := hide S2.out
  clear S2
  clear hb
  have Q := hide (QSt.new (0) (0) w2)
  obtain ⟨c0, c1, c2, c3, c4⟩ := S.out.cells
  have c5 := Q.out.box.x
  have c6 := Q.out.box.y
  go_wp2_with fail
  clear c0 c1 c2 c3 c4 c5 c6
  (with_reducible refine (hRight _).mono ?_)
  rintro e w3 ⟨rfl, hb⟩
  have S2 := hide (S.out.next hb)
  clear S
  have S := hide S2.out
  clear S2
  have Q2 := hide (Q.out.next hb)
  clear Q
  have Q := hide Q2.out
  clear Q2
  clear hb
  obtain ⟨c0, c1, c2, c3, c4⟩ := S.out.cells
  have c5 := Q.out.box.x
  have c6 := Q.out.box.y
  go_wp2_with fail
  clear c0 c1 c2 c3 c4 c5 c6
  (with_reducible refine (awake13_any _).mono ?_)
  rintro e w4 ⟨rfl, hb⟩
  have S2 := hide (S.out.next hb)
  clear S
  have S := hide S2.out
  clear S2
  have Q2 := hide (Q.out.next hb)
  clear Q
  have Q := hide Q2.out
  clear Q2
  clear hb
  obtain ⟨c0, c1, c2, c3, c4⟩ := S.out.cells
  have c5 := Q.out.box.x
  have c6 := Q.out.box.y
  go_wp2
  go_ret
  exact ⟨rfl, S.out.below⟩

theorem geomPlaces_any (b p r x y i : Int) (w : World) : Calls Try.prog 4 #[(⟨b, p, r⟩ : Gm).val, .agg #[.int .i64 x, .int .i64 y], .int .i64 i] w fun e w' => e = .returned (.bool true) ∧ Below w.heap.size w w' := by
  by_cases h : Gm.Right ⟨b, p, r⟩
  · by_cases x0 : x < 0
    · by_cases i0 : i < 0
      · exact places_lox_lo b p r x y i w h x0 i0
      by_cases i1 : b * p ≤ i
      · exact places_lox_hi b p r x y i w h x0 i0 i1
      exact places_lox_in b p r x y i w h x0 ⟨by omega, by omega⟩
    · by_cases x1 : x < b
      · by_cases y0 : y < 0
        · by_cases i0 : i < 0
          · exact places_loy_lo b p r x y i w h (by omega) x1 y0 i0
          by_cases i1 : b * p ≤ i
          · exact places_loy_hi b p r x y i w h (by omega) x1 y0 i0 i1
          exact places_loy_in b p r x y i w h (by omega) x1 y0 ⟨by omega, by omega⟩
        · by_cases y1 : y < p
          · by_cases i0 : i < 0
            · exact places_has_lo b p r x y i w h ⟨by omega, by omega, by omega, by omega⟩ i0
            by_cases i1 : b * p ≤ i
            · exact places_has_hi b p r x y i w h ⟨by omega, by omega, by omega, by omega⟩ i0 i1
            exact places_has_in b p r x y i w h ⟨by omega, by omega, by omega, by omega⟩ ⟨by omega, by omega⟩
          · by_cases i0 : i < 0
            · exact places_hiy_lo b p r x y i w h (by omega) x1 (by omega) y1 i0
            by_cases i1 : b * p ≤ i
            · exact places_hiy_hi b p r x y i w h (by omega) x1 (by omega) y1 i0 i1
            exact places_hiy_in b p r x y i w h (by omega) x1 (by omega) y1 ⟨by omega, by omega⟩
      · by_cases i0 : i < 0
        · exact places_hix_lo b p r x y i w h (by omega) x1 i0
        by_cases i1 : b * p ≤ i
        · exact places_hix_hi b p r x y i w h (by omega) x1 i0 i1
        exact places_hix_in b p r x y i w h (by omega) x1 ⟨by omega, by omega⟩
  · exact places_wrong b p r x y i w h

end Go.Proofs.Ytfogjnnklneepaa
