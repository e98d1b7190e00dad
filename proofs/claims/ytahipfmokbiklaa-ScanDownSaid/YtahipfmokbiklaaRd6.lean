/-
  THE REFERENCE OF LAYER 14: Program. (By gen/Rd6.gen.py.)
-/
import Derived.Test.YtahipfmokbiklaaOLs
import Derived.Test.YtahipfmokbiklaaRd2
namespace Go.Proofs.Ytahipfmokbiklaa
open Go.RowKit
open Go.Sort

/-- The states of a page programmed: the string read, its bytes, the bytes mixed, the string, the store. -/
def PhiQ (w5 : World) (o l : List UInt8) (rp I : Nat) (i : Nat) (f : Nat → Value) (W : World) : Prop :=
  (i ≤ 4 ∧ Below w5.heap.size w5 W ∧ (i = 2 → ∃ A c, f 69 = .slice A 256 c ∧ Lies W W.heap.size A (bys o)) ∧ (i = 3 → ∃ A c, f 72 = .slice A 256 c ∧ Lies W W.heap.size A (bys l))) ∨
    (5 ≤ i ∧ ∃ W0, Below w5.heap.size w5 W0 ∧ W = W0.setCell ⟨rp, I, none⟩ (.string (str l)))
theorem PhiQ.loc (w5 : World) (o l : List UInt8) (rp I : Nat) : ∀ i f g W, (∀ t ∈ [69, 72], f t = g t) → PhiQ w5 o l rp I i f W → PhiQ w5 o l rp I i g W := by
  intro i f g W h hΦ
  have h1 := h 69 (by simp)
  have h2 := h 72 (by simp)
  unfold PhiQ at *
  rw [← h1, ← h2]
  exact hΦ
theorem PhiQ.cell {w5 : World} {o l : List UInt8} {rp I i : Nat} {f : Nat → Value} {W : World} (h : PhiQ w5 o l rp I i f W) {p : Addr} {v : Value} (hp : p.block ≠ rp) (hc : w5.cell? p = some v) : W.cell? p = some v := by
  rcases h with ⟨_, h, _⟩ | ⟨_, W0, h, rfl⟩
  · exact (h.cell (World.block_lt_of_cell? _ p hc)).trans hc
  · refine (World.cell?_setCell_other _ _ _ _ (fun e => hp ?_)).trans ((h.cell (World.block_lt_of_cell? _ p hc)).trans hc)
    exact (congrArg Addr.block e).symm
theorem PhiQ.at0 {w5 : World} {o l : List UInt8} {rp I i : Nat} {f : Nat → Value} {W : World} (hi : i ≤ 4) (h : PhiQ w5 o l rp I i f W) : Below w5.heap.size w5 W := by
  rcases h with ⟨_, h, _⟩ | ⟨h, _⟩
  · exact h
  · omega
theorem PhiQ.at2 {w5 : World} {o l : List UInt8} {rp I : Nat} {f : Nat → Value} {W : World} (h : PhiQ w5 o l rp I 2 f W) : ∃ A c, f 69 = .slice A 256 c ∧ Lies W W.heap.size A (bys o) := by
  rcases h with ⟨_, _, h, _⟩ | ⟨h, _⟩
  · exact h rfl
  · exact absurd h (by decide)
theorem PhiQ.at3 {w5 : World} {o l : List UInt8} {rp I : Nat} {f : Nat → Value} {W : World} (h : PhiQ w5 o l rp I 3 f W) : ∃ A c, f 72 = .slice A 256 c ∧ Lies W W.heap.size A (bys l) := by
  rcases h with ⟨_, _, _, h⟩ | ⟨h, _⟩
  · exact h rfl
  · exact absurd h (by decide)
/-- The states of a region with one store. -/
def PhiS (w5 : World) (p : Addr) (u : Value) (i : Nat) (_ : Nat → Value) (W : World) : Prop :=
  (i = 0 ∧ Below w5.heap.size w5 W) ∨ (1 ≤ i ∧ ∃ W0, Below w5.heap.size w5 W0 ∧ W = W0.setCell p u)
theorem PhiS.loc (w5 : World) (p : Addr) (u : Value) : ∀ i f g W, (∀ t ∈ ([] : List Nat), f t = g t) → PhiS w5 p u i f W → PhiS w5 p u i g W := fun _ _ _ _ _ h => h
theorem PhiS.cell {w5 : World} {p : Addr} {u : Value} {i : Nat} {f : Nat → Value} {W : World} (h : PhiS w5 p u i f W) {a : Addr} {v : Value} (hp : a.block ≠ p.block) (hc : w5.cell? a = some v) : W.cell? a = some v := by
  rcases h with ⟨_, h⟩ | ⟨_, W0, h, rfl⟩
  · exact (h.cell (World.block_lt_of_cell? _ a hc)).trans hc
  · refine (World.cell?_setCell_other _ _ _ _ (fun e => hp ?_)).trans ((h.cell (World.block_lt_of_cell? _ a hc)).trans hc)
    exact (congrArg Addr.block e).symm
theorem PhiS.at0 {w5 : World} {p : Addr} {u : Value} {f : Nat → Value} {W : World} (h : PhiS w5 p u 0 f W) : Below w5.heap.size w5 W := by
  rcases h with ⟨_, h⟩ | ⟨h, _⟩
  · exact h
  · exact absurd h (by decide)
theorem PhiS.at1 {w5 : World} {p : Addr} {u : Value} {f : Nat → Value} {W : World} (h : PhiS w5 p u 1 f W) : ∃ W0, Below w5.heap.size w5 W0 ∧ W = W0.setCell p u := by
  rcases h with ⟨h, _⟩ | ⟨_, h⟩
  · exact absurd h (by decide)
  · exact h
theorem i64w' {y : Nat} (h : y < 32) : wrap64 ((y : Int) + 1) = ((y + 1 : Nat) : Int) := by rw [i64w (by omega)]; rfl
theorem i64w'' {y : Nat} (h : y < 32) : IntKind.i64.wrap ((y : Int) + 1) = ((y + 1 : Nat) : Int) := by rw [IntWalk.i64_in _ (by omega)]; rfl
section
variable {w : World} {B0 B : Nat} {q : Pn} {D : Dv} {r rp rn rw cp cn cw : Nat}
theorem RefAt.lies_tch (h : RefAt w B0 B q D r rp rn rw cp cn cw) {w' : World} {A : Option Addr} {l : List UInt8} {B2 : Nat} (hB2 : B2 ≤ w.heap.size) (hl : LiesT w B2 A l) (ht : Tch [r, rp, rn, rw] w w') : LiesT w' B2 A l := by
  obtain ⟨c1, h1, _⟩ := h.pages
  obtain ⟨c2, h2, _⟩ := h.next
  obtain ⟨c3, h3, _⟩ := h.wear
  have h0 := h.box
  refine hl.kept (fun b hb ⟨cs, fr, hc⟩ => ht.block b (by omega) ?_)
  simp only [List.mem_cons, List.not_mem_nil, or_false, not_or]
  refine ⟨?_, ?_, ?_, ?_⟩ <;> rintro rfl
  · rw [h0] at hc; simp at hc
  · rw [h1] at hc; simp at hc
  · rw [h2] at hc; simp at hc
  · rw [h3] at hc; simp at hc
end

section
variable {w : World} {B0 B : Nat} {q : Pn} {D : Dv} {r rp rn rw cp cn cw : Nat}
theorem rprog_down (h : RefAt w B0 B q D r rp rn rw cp cn cw) (hd : D.dn = true) (x y : Int) (A : Option Addr) (n c : Nat) :
    Calls Try.prog 31 #[.pointer (some ⟨r, 0, none⟩), .agg #[.int .i64 x, .int .i64 y], .slice A n c] w fun e w' => e = .returned (.int .i64 9) ∧ Below w.heap.size w w' := by
  have c9 : w.cell? ⟨r, 9, none⟩ = some (.bool D.dn) := h.c 9 _ rfl
  rw [hd] at c9
  have Hb := hide ((Below.refl w.heap.size w).alloc (Nat.le_refl _) (.cells #[.int .i64 x, .int .i64 y] 46))
  have d9 := (Hb.out.cell (World.block_lt_of_cell? _ _ c9)).trans c9
  clear c9 h hd
  go_enter Try.func31, Try.ntmps31
  go_wp2
  go_ret
  exact ⟨rfl, Hb.out⟩
theorem rprog_out (h : RefAt w B0 B q D r rp rn rw cp cn cw) (hB : B ≤ w.heap.size) (hd : D.dn = false) (x y : Int) (hn : ¬ D.g.Has x y) (A : Option Addr) (n c : Nat) :
    Calls Try.prog 31 #[.pointer (some ⟨r, 0, none⟩), .agg #[.int .i64 x, .int .i64 y], .slice A n c] w fun e w' => e = .returned (.int .i64 3) ∧ Below w.heap.size w w' := by
  have c9 : w.cell? ⟨r, 9, none⟩ = some (.bool D.dn) := h.c 9 _ rfl
  rw [hd] at c9
  have hb := (Below.refl w.heap.size w).alloc (Nat.le_refl _) (.cells #[.int .i64 x, .int .i64 y] 46)
  have Hb := hide hb
  have HP := BoxedP.new x y w
  have p0 := HP.x
  have p1 := HP.y
  have d9 := (hb.cell (World.block_lt_of_cell? _ _ c9)).trans c9
  have FH := hide (here_any (h.below (hb.mono hB)) x y)
  rw [decide_eq_false hn] at FH
  clear c9 h hd hn hb HP hB
  go_enter Try.func31, Try.ntmps31
  go_wp2_with fail
  (with_reducible refine FH.out.mono ?_)
  rintro e w2 ⟨rfl, hb⟩
  have Hb2 := hide (Hb.out.trans (hb.mono Hb.out.size))
  clear hb FH Hb p0 p1 d9
  go_wp2
  go_ret
  exact ⟨rfl, Hb2.out⟩
set_option maxHeartbeats 4000000 in
theorem rprog_marked (h : RefAt w B0 B q D r rp rn rw cp cn cw) (hB : B ≤ w.heap.size) (hd : D.dn = false) (x y : Nat) (hx : x < D.nb) (hy : y < D.np) (hm : D.bad x = true) (A : Option Addr) (c : Nat) :
    Calls Try.prog 31 #[.pointer (some ⟨r, 0, none⟩), .agg #[.int .i64 (x : Int), .int .i64 (y : Int)], .slice A 256 c] w fun e w' => e = .returned (.int .i64 12) ∧ Below w.heap.size w w' := by
  have c9 : w.cell? ⟨r, 9, none⟩ = some (.bool D.dn) := h.c 9 _ rfl
  rw [hd] at c9
  obtain ⟨s1, s2, s3, s4, s5, s6⟩ := h.sides
  have hb := (Below.refl w.heap.size w).alloc (Nat.le_refl _) (.cells #[.int .i64 (x : Int), .int .i64 (y : Int)] 46)
  have Hb := hide hb
  have Hs := hide (show w.heap.size < (w.alloc (.cells #[.int .i64 (x : Int), .int .i64 (y : Int)] 46)).heap.size by simp)
  have HP := hide (BoxedP.new (x : Int) (y : Int) w)
  have p0 := HP.out.x
  have p1 := HP.out.y
  have d9 := (hb.cell (World.block_lt_of_cell? _ _ c9)).trans c9
  have H1 := hide (h.below (hb.mono hB))
  have HB := hide (Nat.le_trans hB hb.size)
  have HB0 := hide hB
  have FH := hide (here_any H1.out (x : Int) (y : Int))
  rw [decide_eq_true (show D.g.Has (x : Int) (y : Int) by unfold Gm.Has; omega)] at FH
  have Hx := hide hx
  have Hm := hide hm
  have Hxi := hide (show (x : Int) < (D.nb : Int) from Int.ofNat_lt.2 hx)
  clear c9 h hd hb hx hy hB hm s1 s2 s3 s4 s5 s6
  go_enter Try.func31, Try.ntmps31
  go_wp2_with fail
  (with_reducible refine FH.out.mono ?_)
  rintro e w2 ⟨rfl, hb⟩
  have Hb2 := hide (Hb.out.trans (hb.mono Hb.out.size))
  have HP2 := hide (HP.out.below hb Hs.out)
  have Hs2 := hide (Nat.lt_of_lt_of_le Hs.out hb.size)
  have H2 := hide (H1.out.below (hb.mono HB.out))
  have HB2 := hide (Nat.le_trans HB.out hb.size)
  clear hb FH Hb p0 p1 d9 HP H1 Hs HB
  have p0 := HP2.out.x
  have p1 := HP2.out.y
  have c3 : w2.cell? ⟨r, 3, none⟩ = some (.slice q.A1 q.n1 q.c1) := H2.out.c 3 _ rfl
  have c5 : w2.cell? ⟨r, 5, none⟩ = some (.slice (some ⟨rn, 0, none⟩) D.nb cn) := H2.out.c 5 _ rfl
  have cx := H2.out.next.cell Hx.out
  have FHs := fun n => has_any q.A1 q.n1 q.c1 B0 q.bl (x : Int) (w2.drewN n) (H2.out.plan.l1.drewN n) H2.out.plan.h1 (Nat.le_trans H2.out.few.1 (by decide))
  rw [← H2.out.bad x Hx.out, Hm.out] at FHs
  have hxi := Hxi.out
  go_upto_region 5 with fail
  go_quiet (first | (go_at_call 13; refine (FHs _).mono ?_; rintro e w' ⟨rfl, rfl⟩; exact ⟨rfl, _, rfl⟩))
  go_wp2
  go_ret
  exact ⟨rfl, bel_drewN Hb2.out _⟩
set_option maxHeartbeats 4000000 in
theorem rprog_order (h : RefAt w B0 B q D r rp rn rw cp cn cw) (hB : B ≤ w.heap.size) (hd : D.dn = false) (x y : Nat) (hx : x < D.nb) (hy : y < D.np) (hm : D.bad x = false) (ho : y ≠ D.nx x) (A : Option Addr) (c : Nat) :
    Calls Try.prog 31 #[.pointer (some ⟨r, 0, none⟩), .agg #[.int .i64 (x : Int), .int .i64 (y : Int)], .slice A 256 c] w fun e w' => e = .returned (.int .i64 11) ∧ Below w.heap.size w w' := by
  have c9 : w.cell? ⟨r, 9, none⟩ = some (.bool D.dn) := h.c 9 _ rfl
  rw [hd] at c9
  obtain ⟨s1, s2, s3, s4, s5, s6⟩ := h.sides
  have hb := (Below.refl w.heap.size w).alloc (Nat.le_refl _) (.cells #[.int .i64 (x : Int), .int .i64 (y : Int)] 46)
  have Hb := hide hb
  have Hs := hide (show w.heap.size < (w.alloc (.cells #[.int .i64 (x : Int), .int .i64 (y : Int)] 46)).heap.size by simp)
  have HP := hide (BoxedP.new (x : Int) (y : Int) w)
  have p0 := HP.out.x
  have p1 := HP.out.y
  have d9 := (hb.cell (World.block_lt_of_cell? _ _ c9)).trans c9
  have H1 := hide (h.below (hb.mono hB))
  have HB := hide (Nat.le_trans hB hb.size)
  have HB0 := hide hB
  have FH := hide (here_any H1.out (x : Int) (y : Int))
  rw [decide_eq_true (show D.g.Has (x : Int) (y : Int) by unfold Gm.Has; omega)] at FH
  have Hx := hide hx
  have Hm := hide hm
  have Hxi := hide (show (x : Int) < (D.nb : Int) from Int.ofNat_lt.2 hx)
  have ho2 : (((D.nx x : Nat) : Int) != (y : Int)) = true := bne_iff_ne.2 (by omega)
  clear c9 h hd hb hx hy hB hm s1 s2 s3 s4 s5 s6
  go_enter Try.func31, Try.ntmps31
  go_wp2_with fail
  (with_reducible refine FH.out.mono ?_)
  rintro e w2 ⟨rfl, hb⟩
  have Hb2 := hide (Hb.out.trans (hb.mono Hb.out.size))
  have HP2 := hide (HP.out.below hb Hs.out)
  have Hs2 := hide (Nat.lt_of_lt_of_le Hs.out hb.size)
  have H2 := hide (H1.out.below (hb.mono HB.out))
  have HB2 := hide (Nat.le_trans HB.out hb.size)
  clear hb FH Hb p0 p1 d9 HP H1 Hs HB
  have p0 := HP2.out.x
  have p1 := HP2.out.y
  have c3 : w2.cell? ⟨r, 3, none⟩ = some (.slice q.A1 q.n1 q.c1) := H2.out.c 3 _ rfl
  have c5 : w2.cell? ⟨r, 5, none⟩ = some (.slice (some ⟨rn, 0, none⟩) D.nb cn) := H2.out.c 5 _ rfl
  have cx := H2.out.next.cell Hx.out
  have FHs := fun n => has_any q.A1 q.n1 q.c1 B0 q.bl (x : Int) (w2.drewN n) (H2.out.plan.l1.drewN n) H2.out.plan.h1 (Nat.le_trans H2.out.few.1 (by decide))
  rw [← H2.out.bad x Hx.out, Hm.out] at FHs
  have hxi := Hxi.out
  go_upto_region 5 with fail
  go_quiet (first | (go_at_call 13; refine (FHs _).mono ?_; rintro e w' ⟨rfl, rfl⟩; exact ⟨rfl, _, rfl⟩))
  go_upto_region 7 with fail
  go_quiet (fail)
  go_wp2
  go_ret
  exact ⟨rfl, bel_drewN (bel_drewN Hb2.out _) _⟩
set_option maxRecDepth 4000 in
set_option maxHeartbeats 8000000 in
theorem rprog_ok (h : RefAt w B0 B q D r rp rn rw cp cn cw) (hB : B ≤ w.heap.size) (hd : D.dn = false) (x y : Nat) (hx : x < D.nb) (hy : y < D.np) (hm : D.bad x = false) (he : y = D.nx x) (A : Option Addr) (c : Nat) (b : List UInt8) (hops : D.ops < 1000000) (hbl : b.length = 256) (hlb : LiesT w w.heap.size A b) (hpl : ∀ i, i < D.nb * D.np → (D.pg i).length = 256) :
    Calls Try.prog 31 #[.pointer (some ⟨r, 0, none⟩), .agg #[.int .i64 (x : Int), .int .i64 (y : Int)], .slice A 256 c] w fun e w' => e = .returned (.int .i64 D.err) ∧ RefAt w' B0 B q (D.progd x b) r rp rn rw cp cn cw ∧ Tch [r, rp, rn, rw] w w' := by
  have c9 : w.cell? ⟨r, 9, none⟩ = some (.bool D.dn) := h.c 9 _ rfl
  rw [hd] at c9
  obtain ⟨s1, s2, s3, s4, s5, s6⟩ := h.sides
  have hb := (Below.refl w.heap.size w).alloc (Nat.le_refl _) (.cells #[.int .i64 (x : Int), .int .i64 (y : Int)] 46)
  have Hb := hide hb
  have Hs := hide (show w.heap.size < (w.alloc (.cells #[.int .i64 (x : Int), .int .i64 (y : Int)] 46)).heap.size by simp)
  have HP := hide (BoxedP.new (x : Int) (y : Int) w)
  have p0 := HP.out.x
  have p1 := HP.out.y
  have d9 := (hb.cell (World.block_lt_of_cell? _ _ c9)).trans c9
  have H1 := hide (h.below (hb.mono hB))
  have HB := hide (Nat.le_trans hB hb.size)
  have HB0 := hide hB
  have FH := hide (here_any H1.out (x : Int) (y : Int))
  rw [decide_eq_true (show D.g.Has (x : Int) (y : Int) by unfold Gm.Has; omega)] at FH
  have Hx := hide hx
  have Hm := hide hm
  have Hxi := hide (show (x : Int) < (D.nb : Int) from Int.ofNat_lt.2 hx)
  have Hops := hide hops
  have Hbl := hide hbl
  have HLb := hide (hlb.kept (w' := w.alloc (.cells #[.int .i64 (x : Int), .int .i64 (y : Int)] 46)) fun b hB _ => hb.block b hB)
  have He := hide he
  obtain ⟨Z, I, N, hN, hZ, hI, hIN, hIN2, hNb, k1, k2, k3, k4⟩ := pg_nums hx s2 s4 hy
  have HI := hide hI
  have HN := hide hN
  have HIN := hide (hN ▸ hIN : I < D.nb * D.np)
  have Hpl := hide (hpl I HIN.out)
  have Hs6 := hide s6
  have Hyb := hide (Nat.lt_of_lt_of_le hy s4)
  clear hops hbl hlb he hZ hI hIN hN hNb hpl
  clear c9 h hd hb hx hy hB hm s1 s2 s3 s4 s5 s6
  go_enter Try.func31, Try.ntmps31
  go_wp2_with fail
  (with_reducible refine FH.out.mono ?_)
  rintro e w2 ⟨rfl, hb⟩
  have Hb2 := hide (Hb.out.trans (hb.mono Hb.out.size))
  have HP2 := hide (HP.out.below hb Hs.out)
  have Hs2 := hide (Nat.lt_of_lt_of_le Hs.out hb.size)
  have H2 := hide (H1.out.below (hb.mono HB.out))
  have HB2 := hide (Nat.le_trans HB.out hb.size)
  have HLb2 := hide (HLb.out.kept fun b hB' _ => hb.block b (Nat.lt_of_lt_of_le hB' Hb.out.size))
  clear HLb
  clear hb FH Hb p0 p1 d9 HP H1 Hs HB
  have p0 := HP2.out.x
  have p1 := HP2.out.y
  have c3 : w2.cell? ⟨r, 3, none⟩ = some (.slice q.A1 q.n1 q.c1) := H2.out.c 3 _ rfl
  have c5 : w2.cell? ⟨r, 5, none⟩ = some (.slice (some ⟨rn, 0, none⟩) D.nb cn) := H2.out.c 5 _ rfl
  have cx := H2.out.next.cell Hx.out
  have FHs := fun n => has_any q.A1 q.n1 q.c1 B0 q.bl (x : Int) (w2.drewN n) (H2.out.plan.l1.drewN n) H2.out.plan.h1 (Nat.le_trans H2.out.few.1 (by decide))
  rw [← H2.out.bad x Hx.out, Hm.out] at FHs
  have hxi := Hxi.out
  go_upto_region 5 with fail
  go_quiet (first | (go_at_call 13; refine (FHs _).mono ?_; rintro e w' ⟨rfl, rfl⟩; exact ⟨rfl, _, rfl⟩))
  go_upto_region 7 with fail
  rw [← He.out] at cx
  go_quiet (fail)
  have FF := fun n => fault_any (w := w2.drewN n) (H2.out.below (bel_drewN (Below.refl B w2) n)) HB2.out Hops.out
  go_wp2_with fail
  (with_reducible refine (FF _).mono ?_)
  clear FF
  rintro e w4 ⟨A', m', c', l', rfl, hm', h300, hl', htk, hR4, hT4⟩
  have hof : w.heap.size ∉ [r] := by have := H2.out.hi.1; have := HB0.out; simp only [List.mem_cons, List.not_mem_nil, or_false]; omega
  have HP4 : Hid (BoxedP (x : Int) (y : Int) w.heap.size w4) := hide ((hT4.block _ Hs2.out hof).trans HP2.out)
  have hTw : Tch [r] w w4 := ((Tch.of_below Hb2.out).drewN _).trans hT4
  have HT4 : Hid (Tch [r, rp, rn, rw] w w4) := hide (hTw.mono (by simp))
  have HLb4 := hide (H2.out.lies_tch (Nat.le_trans (Nat.le_refl _) Hb2.out.size) HLb2.out (((Tch.refl [r, rp, rn, rw] w2).drewN _).trans (hT4.mono (by simp))))
  have HR4 := hide hR4
  have HM4 := hide (hl' w4 (Tch.refl _ _))
  have HM3 := hide h300
  have Hml := hide hm'
  have Htk := hide htk
  have HB4 := hide (Nat.le_trans HB2.out hT4.size)
  clear hof hTw hR4 hl' h300 hm' htk hT4 HP2 Hs2 H2 HB2 HLb2 p0 p1 c3 c5 cx FHs hxi Hb2
  have p0 := HP4.out.x
  have p1 := HP4.out.y
  have c1 : w4.cell? ⟨r, 1, none⟩ = some (.int .i64 D.g.p) := HR4.out.c 1 _ rfl
  rw [Hs6.out] at c1
  go_upto_region 10 with fail
  go_quiet (fail)
  clear p0 p1 c1
  have HP5 : Hid (BoxedP (x : Int) (y : Int) w.heap.size (w4.drewN nq)) := hide HP4.out
  have HR5 : Hid (RefAt (w4.drewN nq) B0 B q { D with ops := D.ops + 1 } r rp rn rw cp cn cw) := hide (HR4.out.below (bel_drewN (Below.refl B w4) nq))
  have HLb5 : Hid (LiesT (w4.drewN nq) w.heap.size A b) := hide (HLb4.out.kept fun _ _ _ => rfl)
  have HM5 : Hid (Lies (w4.drewN nq) (w4.drewN nq).heap.size A' (bys l')) := hide HM4.out
  have HT5 : Hid (Tch [r, rp, rn, rw] w (w4.drewN nq)) := hide (HT4.out.drewN nq)
  have HB5 : Hid (B ≤ (w4.drewN nq).heap.size) := hide HB4.out
  have HW5 : Hid (w.heap.size ≤ (w4.drewN nq).heap.size) := hide HT5.out.size
  clear HP4 HR4 HLb4 HM4 HT4 HB4 k1 k2 k3 k4
  generalize w4.drewN nq = w5 at *
  have Hn := hide HR5.out.nes
  have Hbx := hide (Nat.ne_of_gt (Nat.lt_of_lt_of_le HR5.out.hi.2.1 HB0.out))
  have Hbn := hide (Nat.ne_of_gt (Nat.lt_of_lt_of_le HR5.out.hi.2.2.1 HB0.out))
  obtain ⟨o, ho⟩ : ∃ o, o = D.pg I := ⟨_, rfl⟩
  have Ho := hide ho
  have Ho256 := hide (show o.length = 256 by rw [ho]; exact Hpl.out)
  obtain ⟨l, hl⟩ : ∃ l, l = progL o b l' := ⟨_, rfl⟩
  have Hl := hide hl
  have Hl256 := hide (show l.length = 256 by rw [hl, progL_len]; exact Ho256.out)
  clear ho hl
  have C4 : Hid (w5.cell? ⟨r, 4, none⟩ = some (.slice (some ⟨rp, 0, none⟩) N cp)) := hide (by rw [HN.out]; exact HR5.out.c 4 _ rfl)
  have CP : Hid (w5.cell? ⟨rp, I, none⟩ = some (.string (str o))) := hide (by rw [Ho.out]; exact HR5.out.pages.cell HIN.out)
  have FP := HR5.out.pages.free I
  have FPH := hide FP
  clear FP
  go_upto_region 11 with fail
  refine Big.wp_region_big (by kernel_rfl) (fun d v => match d with | 57 => v = .pointer (some ⟨r, 0, none⟩) | 58 => v = .pointer (some ⟨r, 0, none⟩) | 59 => v = .pointer (some ⟨r, 4, none⟩) | 60 => v = .slice (some ⟨rp, 0, none⟩) N cp | 61 => v = .int .i64 (I : Int) | 62 => v = .pointer (some ⟨r, 0, none⟩) | 63 => v = .pointer (some ⟨r, 0, none⟩) | 64 => v = .pointer (some ⟨r, 4, none⟩) | 65 => v = .slice (some ⟨rp, 0, none⟩) N cp | 66 => v = .int .i64 (I : Int) | 67 => v = .pointer (some ⟨rp, I, none⟩) | 68 => v = .string (str o) | 69 => ∃ A c, v = .slice A 256 c | 70 => v = .slice A 256 c | 71 => v = .slice A' m' c' | 72 => ∃ A c, v = .slice A 256 c | 73 => v = .string (str l) | 74 => v = .pointer (some ⟨rp, I, none⟩) | _ => True) (PhiQ w5 o l rp I) [11, 12, 15, 16, 18] [69, 72] (by kernel_rfl) (by kernel_rfl) (by decide) (PhiQ.loc _ _ _ _ _) (Or.inl ⟨by decide, (Below.refl _ _).drew, fun h => absurd h (by decide), fun h => absurd h (by decide)⟩) ⟨?_, ?_, ?_, ?_, ?_, ?_, ?_, ?_, ?_, ?_, ?_, ?_, ?_, ?_, ?_, ?_, ?_, ?_, ?_, trivial⟩ ?_
  · refine Big.small (by decide) ?_
    intro i' a' w' hi' hΦ h'
    have e0 : a'.tmps.getD 0 undef = .pointer (some ⟨r, 0, none⟩) := Big.sb h' 0 (by kernel_rfl) (by kernel_rfl) rfl
    exact .val (want0 rfl) rfl (by simp [Act.eval, e0, go_sem]) rfl
  · refine Big.small (by decide) ?_
    intro i' a' w' hi' hΦ h'
    have e57 : a'.tmps.getD 57 undef = .pointer (some ⟨r, 0, none⟩) := Big.sw h' 57 (by kernel_rfl) (by kernel_rfl)
    exact .val (want0 rfl) rfl (by simp [Act.eval, e57, go_sem]) rfl
  · refine Big.small (by decide) ?_
    intro i' a' w' hi' hΦ h'
    have e58 : a'.tmps.getD 58 undef = .pointer (some ⟨r, 0, none⟩) := Big.sw h' 58 (by kernel_rfl) (by kernel_rfl)
    exact .val (want0 rfl) rfl (by simp [Act.eval, e58, go_sem]) rfl
  · refine Big.small (by decide) ?_
    intro i' a' w' hi' hΦ h'
    have c4 := hΦ.cell (p := ⟨r, 4, none⟩) Hn.out.1 C4.out
    have e59 : a'.tmps.getD 59 undef = .pointer (some ⟨r, 4, none⟩) := Big.sw h' 59 (by kernel_rfl) (by kernel_rfl)
    exact .val (want0 rfl) rfl (by simp [Act.eval, e59, c4, go_sem]) rfl
  · refine Big.small (by decide) ?_
    intro i' a' w' hi' hΦ h'
    have e9 : a'.tmps.getD 9 undef = .int .i64 (I : Int) := Big.sb h' 9 (by kernel_rfl) (by kernel_rfl) rfl
    exact .val (want0 rfl) rfl (by simp [Act.eval, e9, go_sem]) rfl
  · refine Big.small (by decide) ?_
    intro i' a' w' hi' hΦ h'
    have e0 : a'.tmps.getD 0 undef = .pointer (some ⟨r, 0, none⟩) := Big.sb h' 0 (by kernel_rfl) (by kernel_rfl) rfl
    exact .val (want0 rfl) rfl (by simp [Act.eval, e0, go_sem]) rfl
  · refine Big.small (by decide) ?_
    intro i' a' w' hi' hΦ h'
    have e62 : a'.tmps.getD 62 undef = .pointer (some ⟨r, 0, none⟩) := Big.sw h' 62 (by kernel_rfl) (by kernel_rfl)
    exact .val (want0 rfl) rfl (by simp [Act.eval, e62, go_sem]) rfl
  · refine Big.small (by decide) ?_
    intro i' a' w' hi' hΦ h'
    have e63 : a'.tmps.getD 63 undef = .pointer (some ⟨r, 0, none⟩) := Big.sw h' 63 (by kernel_rfl) (by kernel_rfl)
    exact .val (want0 rfl) rfl (by simp [Act.eval, e63, go_sem]) rfl
  · refine Big.small (by decide) ?_
    intro i' a' w' hi' hΦ h'
    have c4 := hΦ.cell (p := ⟨r, 4, none⟩) Hn.out.1 C4.out
    have e64 : a'.tmps.getD 64 undef = .pointer (some ⟨r, 4, none⟩) := Big.sw h' 64 (by kernel_rfl) (by kernel_rfl)
    exact .val (want0 rfl) rfl (by simp [Act.eval, e64, c4, go_sem]) rfl
  · refine Big.small (by decide) ?_
    intro i' a' w' hi' hΦ h'
    have e9 : a'.tmps.getD 9 undef = .int .i64 (I : Int) := Big.sb h' 9 (by kernel_rfl) (by kernel_rfl) rfl
    exact .val (want0 rfl) rfl (by simp [Act.eval, e9, go_sem]) rfl
  · refine Big.small (by decide) ?_
    intro i' a' w' hi' hΦ h'
    have e65 : a'.tmps.getD 65 undef = .slice (some ⟨rp, 0, none⟩) N cp := Big.sw h' 65 (by kernel_rfl) (by kernel_rfl)
    have e66 : a'.tmps.getD 66 undef = .int .i64 (I : Int) := Big.sw h' 66 (by kernel_rfl) (by kernel_rfl)
    exact .val (want0 rfl) rfl (by simp [Act.eval, e65, e66, hIN2, go_sem]) rfl
  · refine Big.great (i := 0) rfl (by decide) ?_
    intro a' w' hsz' hΦ h'
    have hb' := hΦ.at0 (by decide)
    have e67 : a'.tmps.getD 67 undef = .pointer (some ⟨rp, I, none⟩) := Big.sw h' 67 (by kernel_rfl) (by kernel_rfl)
    have cp := (hb'.cell (World.block_lt_of_cell? _ _ CP.out)).trans CP.out
    exact .made (d := 68) (want0 rfl) rfl (by simp [Act.eval, e67, cp, go_sem]) rfl (.inl ⟨by decide, hb', fun h => absurd h (by decide), fun h => absurd h (by decide)⟩)
  · refine Big.great (i := 1) rfl (by decide) ?_
    intro a' w' hsz' hΦ h'
    have hb' := hΦ.at0 (by decide)
    have e68 : a'.tmps.getD 68 undef = .string (str o) := Big.sw h' 68 (by kernel_rfl) (by kernel_rfl)
    obtain ⟨c2, w6, hcv, hb2, hl2⟩ := strBytes w' o
    rw [Ho256.out] at hcv
    exact .made (d := 69) (v := .slice (some ⟨w'.heap.size, 0, none⟩) 256 c2) (w' := w6) (want0 rfl) rfl (by simp [Act.eval, e68, hcv, go_sem]) ⟨_, _, rfl⟩ (.inl ⟨by decide, hb'.trans (hb2.mono hb'.size), fun _ => ⟨_, _, Big.slots_put (by rw [hsz']; simp), hl2⟩, fun h => absurd h (by decide)⟩)
  · refine Big.small (by decide) ?_
    intro i' a' w' hi' hΦ h'
    have e2 : a'.tmps.getD 2 undef = .slice A 256 c := Big.sb h' 2 (by kernel_rfl) (by kernel_rfl) rfl
    exact .val (want0 rfl) rfl (by simp [Act.eval, e2, go_sem]) rfl
  · refine Big.small (by decide) ?_
    intro i' a' w' hi' hΦ h'
    have e8 : a'.tmps.getD 8 undef = .slice A' m' c' := Big.sb h' 8 (by kernel_rfl) (by kernel_rfl) rfl
    exact .val (want0 rfl) rfl (by simp [Act.eval, e8, go_sem]) rfl
  · refine Big.great (i := 2) rfl (by decide) ?_
    intro a' w' hsz' hΦ h'
    have hb' := hΦ.at0 (by decide)
    obtain ⟨A2, c2, e69, hl2⟩ := hΦ.at2
    have e69' : a'.tmps.getD 69 undef = .slice A2 256 c2 := e69
    have e70 : a'.tmps.getD 70 undef = .slice A 256 c := Big.sw h' 70 (by kernel_rfl) (by kernel_rfl)
    have e71 : a'.tmps.getD 71 undef = .slice A' m' c' := Big.sw h' 71 (by kernel_rfl) (by kernel_rfl)
    refine .called (d := 72) (want0 rfl) rfl (by simp [Act.eval, e69', e70, e71, go_sem]) ((part_any A2 A A' 256 c2 c m' c' w'.heap.size o b l' w' hl2 Ho256.out.symm ((HLb5.out.lies.below (hb'.mono HW5.out)).up (Nat.le_trans HW5.out hb'.size)) Hbl.out.symm ((HM5.out.below hb').up hb'.size) Hml.out (Nat.le_refl _) (by decide) (Nat.le_trans HM3.out (by decide))).mono ?_)
    rintro e w9 ⟨A3, c3, rfl, ho, hb9⟩
    rw [← Hl.out] at ho
    exact ⟨_, rfl, ⟨A3, c3, rfl⟩, .inl ⟨by decide, hb'.trans (hb9.mono hb'.size), fun h => absurd h (by decide), fun _ => ⟨A3, c3, Big.slots_put (by rw [hsz']; simp), Lies.of_own ho⟩⟩⟩
  · refine Big.great (i := 3) rfl (by decide) ?_
    intro a' w' hsz' hΦ h'
    have hb' := hΦ.at0 (by decide)
    obtain ⟨A3, c3, e72, hl3⟩ := hΦ.at3
    have e72' : a'.tmps.getD 72 undef = .slice A3 256 c3 := e72
    have hcv := strU8 c3 hl3 Hl256.out.symm
    exact .made (d := 73) (want0 rfl) rfl (by simp [Act.eval, e72', hcv, go_sem]) rfl (.inl ⟨by decide, hb', fun h => absurd h (by decide), fun h => absurd h (by decide)⟩)
  · refine Big.small (by decide) ?_
    intro i' a' w' hi' hΦ h'
    have e60 : a'.tmps.getD 60 undef = .slice (some ⟨rp, 0, none⟩) N cp := Big.sw h' 60 (by kernel_rfl) (by kernel_rfl)
    have e61 : a'.tmps.getD 61 undef = .int .i64 (I : Int) := Big.sw h' 61 (by kernel_rfl) (by kernel_rfl)
    exact .val (want0 rfl) rfl (by simp [Act.eval, e60, e61, hIN2, go_sem]) rfl
  · refine Big.great (i := 4) rfl (by decide) ?_
    intro a' w' hsz' hΦ h'
    have hb' := hΦ.at0 (by decide)
    have e73 : a'.tmps.getD 73 undef = .string (str l) := Big.sw h' 73 (by kernel_rfl) (by kernel_rfl)
    have e74 : a'.tmps.getD 74 undef = .pointer (some ⟨rp, I, none⟩) := Big.sw h' 74 (by kernel_rfl) (by kernel_rfl)
    have cw := (hb'.cell (World.block_lt_of_cell? _ _ CP.out)).trans CP.out
    have cf := (HR5.out.pages.kept (hb'.block _ (HR5.out.pages.lt))).free I
    exact .stored (w' := w'.setCell ⟨rp, I, none⟩ (.string (str l))) (want0 rfl) rfl (by simp [Act.eval, e73, e74, cw, cf, go_sem]) (.inr ⟨by decide, w', hb', rfl⟩)
  · intro a' w' hdf hsz hwr hkp hΦ
    rcases hΦ with ⟨h, _⟩ | ⟨_, W0, hb', rfl⟩
    · exact absurd h (by decide)
    obtain ⟨v69, f69⟩ : ∃ v, a'.tmps.getD 69 undef = v := ⟨_, rfl⟩
    obtain ⟨v72, f72⟩ : ∃ v, a'.tmps.getD 72 undef = v := ⟨_, rfl⟩
    have f57 : a'.tmps.getD 57 undef = .pointer (some ⟨r, 0, none⟩) := hwr 57 (by kernel_rfl)
    have f58 : a'.tmps.getD 58 undef = .pointer (some ⟨r, 0, none⟩) := hwr 58 (by kernel_rfl)
    have f59 : a'.tmps.getD 59 undef = .pointer (some ⟨r, 4, none⟩) := hwr 59 (by kernel_rfl)
    have f60 : a'.tmps.getD 60 undef = .slice (some ⟨rp, 0, none⟩) N cp := hwr 60 (by kernel_rfl)
    have f61 : a'.tmps.getD 61 undef = .int .i64 (I : Int) := hwr 61 (by kernel_rfl)
    have f62 : a'.tmps.getD 62 undef = .pointer (some ⟨r, 0, none⟩) := hwr 62 (by kernel_rfl)
    have f63 : a'.tmps.getD 63 undef = .pointer (some ⟨r, 0, none⟩) := hwr 63 (by kernel_rfl)
    have f64 : a'.tmps.getD 64 undef = .pointer (some ⟨r, 4, none⟩) := hwr 64 (by kernel_rfl)
    have f65 : a'.tmps.getD 65 undef = .slice (some ⟨rp, 0, none⟩) N cp := hwr 65 (by kernel_rfl)
    have f66 : a'.tmps.getD 66 undef = .int .i64 (I : Int) := hwr 66 (by kernel_rfl)
    have f67 : a'.tmps.getD 67 undef = .pointer (some ⟨rp, I, none⟩) := hwr 67 (by kernel_rfl)
    have f68 : a'.tmps.getD 68 undef = .string (str o) := hwr 68 (by kernel_rfl)
    have f70 : a'.tmps.getD 70 undef = .slice A 256 c := hwr 70 (by kernel_rfl)
    have f71 : a'.tmps.getD 71 undef = .slice A' m' c' := hwr 71 (by kernel_rfl)
    have f73 : a'.tmps.getD 73 undef = .string (str l) := hwr 73 (by kernel_rfl)
    have f74 : a'.tmps.getD 74 undef = .pointer (some ⟨rp, I, none⟩) := hwr 74 (by kernel_rfl)
    have hfr := Flo2.frame_eq [(57, .pointer (some ⟨r, 0, none⟩)), (58, .pointer (some ⟨r, 0, none⟩)), (59, .pointer (some ⟨r, 4, none⟩)), (60, .slice (some ⟨rp, 0, none⟩) N cp), (61, .int .i64 (I : Int)), (62, .pointer (some ⟨r, 0, none⟩)), (63, .pointer (some ⟨r, 0, none⟩)), (64, .pointer (some ⟨r, 4, none⟩)), (65, .slice (some ⟨rp, 0, none⟩) N cp), (66, .int .i64 (I : Int)), (67, .pointer (some ⟨rp, I, none⟩)), (68, .string (str o)), (69, v69), (70, .slice A 256 c), (71, .slice A' m' c'), (72, v72), (73, .string (str l)), (74, .pointer (some ⟨rp, I, none⟩))] a'.tmps _ hsz (by
      intro x hx
      simp only [List.mem_cons, List.not_mem_nil, or_false] at hx
      rcases hx with h | h | h | h | h | h | h | h | h | h | h | h | h | h | h | h | h | h <;> subst h
      · exact f57
      · exact f58
      · exact f59
      · exact f60
      · exact f61
      · exact f62
      · exact f63
      · exact f64
      · exact f65
      · exact f66
      · exact f67
      · exact f68
      · exact f69
      · exact f70
      · exact f71
      · exact f72
      · exact f73
      · exact f74) (fun t ht => hkp t (Flo3.writes_not _ _ (by kernel_rfl) ht))
    have ha := Flo3.act_ext hfr hdf
    have HR6 := hide ((HR5.out.below (hb'.mono HB5.out)).set_page I l)
    have HP6 : Hid (BoxedP (x : Int) (y : Int) w.heap.size (W0.setCell ⟨rp, I, none⟩ (.string (str l)))) := hide ((Below.heap_setCell _ _ _ _ Hbx.out).trans ((hb'.block _ (Array.getElem?_eq_some_iff.1 HP5.out).1).trans HP5.out))
    have HB6s : B ≤ (W0.setCell ⟨rp, I, none⟩ (.string (str l))).heap.size := by simpa [World.setCell] using Nat.le_trans HB5.out hb'.size
    have HT6 : Hid (Tch [r, rp, rn, rw] w (W0.setCell ⟨rp, I, none⟩ (.string (str l)))) := hide ((HT5.out.trans (Tch.of_below hb')).trans (Tch.set (by simp) _))
    clear hfr hwr hkp hsz hdf hb' f69 f72 f57 f58 f59 f60 f61 f62 f63 f64 f65 f66 f67 f68 f70 f71 f73 f74 HR5 HP5 HT5 C4 CP FPH HM5 HLb5 hIN2
    subst ha
    simp only [Flo2.puts, List.foldl_cons, List.foldl_nil, List.setIfInBounds_toArray, List.set, Exit.then]
    generalize W0.setCell ⟨rp, I, none⟩ (.string (str l)) = w6 at *
    have HBs := hide HB6s
    have P0 := hide HP6.out.x
    have P1 := hide HP6.out.y
    have C5 : Hid (w6.cell? ⟨r, 5, none⟩ = some (.slice (some ⟨rn, 0, none⟩) D.nb cn)) := hide (HR6.out.c 5 _ rfl)
    have CX : Hid (w6.cell? ⟨rn, x, none⟩ = some (.int .i64 (D.nx x : Int))) := hide (HR6.out.next.cell Hx.out)
    have y1 : wrap64 ((y : Int) + 1) = ((y + 1 : Nat) : Int) := i64w' Hyb.out
    have y2 : IntKind.i64.wrap ((y : Int) + 1) = ((y + 1 : Nat) : Int) := i64w'' Hyb.out
    have hxi := Hxi.out
    go_upto_region 12 with fail
    refine Big.wp_region_big (by kernel_rfl) (fun d v => match d with | 75 => v = .pointer (some ⟨r, 0, none⟩) | 76 => v = .pointer (some ⟨r, 0, none⟩) | 77 => v = .pointer (some ⟨r, 5, none⟩) | 78 => v = .slice (some ⟨rn, 0, none⟩) D.nb cn | 79 => v = .pointer (some ⟨w.heap.size, 0, none⟩) | 80 => v = .int .i64 (x : Int) | 81 => v = .pointer (some ⟨w.heap.size, 1, none⟩) | 82 => v = .int .i64 (y : Int) | 83 => v = .int .i64 ((y + 1 : Nat) : Int) | 84 => v = .pointer (some ⟨rn, x, none⟩) | _ => True) (PhiS w6 ⟨rn, x, none⟩ (.int .i64 ((y + 1 : Nat) : Int))) [10] [] (by kernel_rfl) (by kernel_rfl) (by decide) (PhiS.loc _ _ _) (Or.inl ⟨rfl, (Below.refl _ _).drew⟩) ⟨?_, ?_, ?_, ?_, ?_, ?_, ?_, ?_, ?_, ?_, ?_, trivial⟩ ?_
    · refine Big.small (by decide) ?_
      intro i' a' w' hi' hΦ h'
      have e0 : a'.tmps.getD 0 undef = .pointer (some ⟨r, 0, none⟩) := Big.sb h' 0 (by kernel_rfl) (by kernel_rfl) rfl
      exact .val (want0 rfl) rfl (by simp [Act.eval, e0, go_sem]) rfl
    · refine Big.small (by decide) ?_
      intro i' a' w' hi' hΦ h'
      have e75 : a'.tmps.getD 75 undef = .pointer (some ⟨r, 0, none⟩) := Big.sw h' 75 (by kernel_rfl) (by kernel_rfl)
      exact .val (want0 rfl) rfl (by simp [Act.eval, e75, go_sem]) rfl
    · refine Big.small (by decide) ?_
      intro i' a' w' hi' hΦ h'
      have e76 : a'.tmps.getD 76 undef = .pointer (some ⟨r, 0, none⟩) := Big.sw h' 76 (by kernel_rfl) (by kernel_rfl)
      exact .val (want0 rfl) rfl (by simp [Act.eval, e76, go_sem]) rfl
    · refine Big.small (by decide) ?_
      intro i' a' w' hi' hΦ h'
      have c5 := hΦ.cell Hn.out.2.1 C5.out
      have e77 : a'.tmps.getD 77 undef = .pointer (some ⟨r, 5, none⟩) := Big.sw h' 77 (by kernel_rfl) (by kernel_rfl)
      exact .val (want0 rfl) rfl (by simp [Act.eval, e77, c5, go_sem]) rfl
    · refine Big.small (by decide) ?_
      intro i' a' w' hi' hΦ h'
      have e4 : a'.tmps.getD 4 undef = .pointer (some ⟨w.heap.size, 0, none⟩) := Big.sb h' 4 (by kernel_rfl) (by kernel_rfl) rfl
      exact .val (want0 rfl) rfl (by simp [Act.eval, e4, go_sem]) rfl
    · refine Big.small (by decide) ?_
      intro i' a' w' hi' hΦ h'
      have p0 := hΦ.cell Hbn.out P0.out
      have e79 : a'.tmps.getD 79 undef = .pointer (some ⟨w.heap.size, 0, none⟩) := Big.sw h' 79 (by kernel_rfl) (by kernel_rfl)
      exact .val (want0 rfl) rfl (by simp [Act.eval, e79, p0, go_sem]) rfl
    · refine Big.small (by decide) ?_
      intro i' a' w' hi' hΦ h'
      have e4 : a'.tmps.getD 4 undef = .pointer (some ⟨w.heap.size, 0, none⟩) := Big.sb h' 4 (by kernel_rfl) (by kernel_rfl) rfl
      exact .val (want0 rfl) rfl (by simp [Act.eval, e4, go_sem]) rfl
    · refine Big.small (by decide) ?_
      intro i' a' w' hi' hΦ h'
      have p1 := hΦ.cell Hbn.out P1.out
      have e81 : a'.tmps.getD 81 undef = .pointer (some ⟨w.heap.size, 1, none⟩) := Big.sw h' 81 (by kernel_rfl) (by kernel_rfl)
      exact .val (want0 rfl) rfl (by simp [Act.eval, e81, p1, go_sem]) rfl
    · refine Big.small (by decide) ?_
      intro i' a' w' hi' hΦ h'
      have e82 : a'.tmps.getD 82 undef = .int .i64 (y : Int) := Big.sw h' 82 (by kernel_rfl) (by kernel_rfl)
      exact .val (want0 rfl) rfl (by simp [Act.eval, e82, y1, y2, go_sem]) rfl
    · refine Big.small (by decide) ?_
      intro i' a' w' hi' hΦ h'
      have e78 : a'.tmps.getD 78 undef = .slice (some ⟨rn, 0, none⟩) D.nb cn := Big.sw h' 78 (by kernel_rfl) (by kernel_rfl)
      have e80 : a'.tmps.getD 80 undef = .int .i64 (x : Int) := Big.sw h' 80 (by kernel_rfl) (by kernel_rfl)
      exact .val (want0 rfl) rfl (by simp [Act.eval, e78, e80, hxi, go_sem]) rfl
    · refine Big.great (i := 0) rfl (by decide) ?_
      intro a' w' hsz' hΦ h'
      have hb' := hΦ.at0
      have e83 : a'.tmps.getD 83 undef = .int .i64 ((y + 1 : Nat) : Int) := Big.sw h' 83 (by kernel_rfl) (by kernel_rfl)
      have e84 : a'.tmps.getD 84 undef = .pointer (some ⟨rn, x, none⟩) := Big.sw h' 84 (by kernel_rfl) (by kernel_rfl)
      have cw := (hb'.cell (World.block_lt_of_cell? _ _ CX.out)).trans CX.out
      have cf := (HR6.out.next.kept (hb'.block _ (HR6.out.next.lt))).free x
      generalize ((y + 1 : Nat) : Int) = y3 at *
      exact .stored (w' := w'.setCell ⟨rn, x, none⟩ (.int .i64 y3)) (want0 rfl) rfl (by simp [Act.eval, e83, e84, cw, cf, go_sem]) (.inr ⟨by decide, w', hb', rfl⟩)
    · intro a' w' hdf hsz hwr hkp hΦ
      obtain ⟨W0, hb', rfl⟩ := hΦ.at1
      have f75 : a'.tmps.getD 75 undef = .pointer (some ⟨r, 0, none⟩) := hwr 75 (by kernel_rfl)
      have f76 : a'.tmps.getD 76 undef = .pointer (some ⟨r, 0, none⟩) := hwr 76 (by kernel_rfl)
      have f77 : a'.tmps.getD 77 undef = .pointer (some ⟨r, 5, none⟩) := hwr 77 (by kernel_rfl)
      have f78 : a'.tmps.getD 78 undef = .slice (some ⟨rn, 0, none⟩) D.nb cn := hwr 78 (by kernel_rfl)
      have f79 : a'.tmps.getD 79 undef = .pointer (some ⟨w.heap.size, 0, none⟩) := hwr 79 (by kernel_rfl)
      have f80 : a'.tmps.getD 80 undef = .int .i64 (x : Int) := hwr 80 (by kernel_rfl)
      have f81 : a'.tmps.getD 81 undef = .pointer (some ⟨w.heap.size, 1, none⟩) := hwr 81 (by kernel_rfl)
      have f82 : a'.tmps.getD 82 undef = .int .i64 (y : Int) := hwr 82 (by kernel_rfl)
      have f83 : a'.tmps.getD 83 undef = .int .i64 ((y + 1 : Nat) : Int) := hwr 83 (by kernel_rfl)
      have f84 : a'.tmps.getD 84 undef = .pointer (some ⟨rn, x, none⟩) := hwr 84 (by kernel_rfl)
      have hfr := Flo2.frame_eq [(75, .pointer (some ⟨r, 0, none⟩)), (76, .pointer (some ⟨r, 0, none⟩)), (77, .pointer (some ⟨r, 5, none⟩)), (78, .slice (some ⟨rn, 0, none⟩) D.nb cn), (79, .pointer (some ⟨w.heap.size, 0, none⟩)), (80, .int .i64 (x : Int)), (81, .pointer (some ⟨w.heap.size, 1, none⟩)), (82, .int .i64 (y : Int)), (83, .int .i64 ((y + 1 : Nat) : Int)), (84, .pointer (some ⟨rn, x, none⟩))] a'.tmps _ hsz (by
        intro x hx
        simp only [List.mem_cons, List.not_mem_nil, or_false] at hx
        rcases hx with h | h | h | h | h | h | h | h | h | h <;> subst h
        · exact f75
        · exact f76
        · exact f77
        · exact f78
        · exact f79
        · exact f80
        · exact f81
        · exact f82
        · exact f83
        · exact f84) (fun t ht => hkp t (Flo3.writes_not _ _ (by kernel_rfl) ht))
      have ha := Flo3.act_ext hfr hdf
      have HR7 := hide ((HR6.out.below (hb'.mono HBs.out)).set_next x (y + 1))
      have HT7 : Hid (Tch [r, rp, rn, rw] w (W0.setCell ⟨rn, x, none⟩ (.int .i64 ((y + 1 : Nat) : Int)))) := hide ((HT6.out.trans (Tch.of_below hb')).trans (Tch.set (by simp) _))
      clear hfr hwr hkp hsz hdf hb' hΦ f75 f76 f77 f78 f79 f80 f81 f82 f83 f84 HR6 HP6 HT6 C5 CX P0 P1 y1 y2 hxi
      subst ha
      simp only [Flo2.puts, List.foldl_cons, List.foldl_nil, List.setIfInBounds_toArray, List.set, Exit.then]
      generalize W0.setCell ⟨rn, x, none⟩ (.int .i64 ((y + 1 : Nat) : Int)) = w7 at *
      go_wp2_with fail
      have HE := end_any HR7.out D.kind
      obtain ⟨ev, hev⟩ : ∃ ev, ev = (if D.kind = 1 then (10 : Int) else if D.kind = 2 then 9 else 0) := ⟨_, rfl⟩
      rw [← hev] at HE
      have Hev := hide (show D.err = ev from hev.symm)
      clear hev
      (with_reducible refine HE.mono ?_)
      clear HE
      rintro e w8 ⟨rfl, hR8, hT8⟩
      have HR8 := hide hR8
      have HT8 := hide (HT7.out.trans (hT8.mono (S' := [r, rp, rn, rw]) (by simp)))
      clear hR8 hT8 HR7 HT7
      go_wp2
      go_ret
      refine ⟨by first | rfl | (rw [Hev.out]; rfl), ?_, HT8.out⟩
      have hg : D.progd x b = { D with ops := D.ops + 1, pg := upd D.pg I l, nx := upd D.nx x (y + 1), dn := if D.kind = 1 then D.dn else if D.kind = 2 then true else D.dn } := by
        unfold Dv.progd Dv.begun
        rw [Hl.out, Ho.out, ← He.out, ← HI.out, ← Htk.out, progL_take _ _ _ Hpl.out]
      rw [hg]
      exact HR8.out
end
end Go.Proofs.Ytahipfmokbiklaa
