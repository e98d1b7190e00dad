/-
  CONTRACTS of package nand: bytes, page, Read.
-/
import Derived.Test.YtppecnimpnlipaaDev1
import Derived.Lib.QuietBelow
import Derived.Deep.RegionWith
import Derived.Deep.DeepCutAuto
namespace Go.Proofs.Ytppecnimpnlipaa
open Go.RowKit
open Go.Sort

section
variable {w : World} {B0 B : Nat} {D : Dv} {k kb kp km : Nat}
theorem Gm.place_nat {g : Gm} (h : g.Right) {x y nb np : Nat} (hb : g.b = (nb : Int)) (hp : g.p = (np : Int)) (hx : x < nb) (hy : y < np) : g.place (x : Int) (y : Int) = ((x * np + y : Nat) : Int) := by
  rw [Gm.place_ok h ⟨by omega, by omega, by omega, by omega⟩, hp]
  simp
theorem lt_mul {x y nb np : Nat} (hx : x < nb) (hy : y < np) : x * np + y < nb * np := by
  have : (x + 1) * np ≤ nb * np := Nat.mul_le_mul_right _ hx
  rw [Nat.add_mul] at this
  omega

set_option maxHeartbeats 1000000 in
theorem bytes_any (h : DevAt w B0 B D k kb kp km) (hB : B ≤ w.heap.size) (x y : Nat) (hx : x < D.nb) (hy : y < D.np) :
    Calls Try.prog 57 #[.pointer (some ⟨k, 0, none⟩), .agg #[.int .i64 (x : Int), .int .i64 (y : Int)]] w fun e w' => e = .returned (.slice (some ⟨kp, (x * D.np + y) * 256, none⟩) 256 256) ∧ Below w.heap.size w w' := by
  obtain ⟨s1, s2, s3, s4, s5, s6⟩ := h.sides
  have hk := h.hi.1
  have fp := fun W => place_any D.g (x : Int) (y : Int) W
  rw [Gm.place_nat h.right s5 s6 hx hy] at fp
  have hlt := lt_mul hx hy
  have hbig : D.nb * D.np ≤ 34 * 32 := Nat.mul_le_mul s2 s4
  have b1 := (Below.refl w.heap.size w).alloc (Nat.le_refl _) (.cells #[.int .i64 (x : Int), .int .i64 (y : Int)] 39)
  have Hb1 := hide b1
  have h1 := h.below (b1.mono hB)
  have c0 := h1.c0
  have c1 := h1.c1
  have c2 := h1.c2
  have c4 := h1.c4
  generalize hi : x * D.np + y = i at *
  generalize D.nb * D.np = n at *
  have p0 : (w.alloc (.cells #[.int .i64 (x : Int), .int .i64 (y : Int)] 39)).cell? ⟨w.heap.size, 0, none⟩ = some (.int .i64 (x : Int)) := by simp
  have p1 : (w.alloc (.cells #[.int .i64 (x : Int), .int .i64 (y : Int)] 39)).cell? ⟨w.heap.size, 1, none⟩ = some (.int .i64 (y : Int)) := by simp
  generalize hw1 : w.alloc (.cells #[.int .i64 (x : Int), .int .i64 (y : Int)] 39) = w1 at *
  have HW := hide hw1
  have q0 := fun d os => cell_regrown c0 d os
  have q1 := fun d os => cell_regrown c1 d os
  have q2 := fun d os => cell_regrown c2 d os
  have q4 := fun d os => cell_regrown c4 d os
  have r0 := fun d os => cell_regrown p0 d os
  have r1 := fun d os => cell_regrown p1 d os
  have hlt' : (i : Int) < (n : Int) := by omega
  rcases D with ⟨⟨gb, gp, gr⟩, D1, D2, D3, D4, D5, D6, D7⟩
  simp only [Gm.val] at *
  clear h h1 c0 c1 c2 c4 p0 p1 s1 s2 s3 s4 s5 s6 hk hi hbig b1 hx hy hlt hB
  go_enter Try.func57, Try.ntmps57
  go_upto_region 1 with fail
  clear hw1
  refine wp_region_quiet_below (by kernel_rfl) (by kernel_rfl) ?_
  repeat (go_big_quiet_step (exact Calls.regrown_of (fp _)))
  refine wpQuiet_nil ?_
  intro _ hw'
  obtain ⟨⟨dq, osq⟩, hw''⟩ := hw'
  subst hw''
  go_wp2
  go_ret
  exact ⟨rfl, Hb1.out.trans ((below_regrown w1 dq osq).mono Hb1.out.size)⟩

/-- What a page that is looked for answers. -/
def Dv.look (D : Dv) (x y : Int) : Int := if D.dn = true then 9 else if D.g.Has x y then 0 else 3

theorem page_nil (x y : Int) (w : World) : Calls Try.prog 49 #[.pointer none, .agg #[.int .i64 x, .int .i64 y]] w fun e w' => e = .returned (.tuple #[.slice none 0 0, .int .i64 1]) ∧ Below w.heap.size w w' := by
  have Hb1 := hide ((Below.refl w.heap.size w).alloc (Nat.le_refl _) (.cells #[.int .i64 x, .int .i64 y] 39))
  go_enter Try.func49, Try.ntmps49
  go_wp2
  go_ret2
  exact ⟨rfl, Hb1.out⟩

theorem page_down (h : DevAt w B0 B D k kb kp km) (hB : B ≤ w.heap.size) (x y : Int) (hd : D.dn = true) :
    Calls Try.prog 49 #[.pointer (some ⟨k, 0, none⟩), .agg #[.int .i64 x, .int .i64 y]] w fun e w' => e = .returned (.tuple #[.slice none 0 0, .int .i64 9]) ∧ Below w.heap.size w w' := by
  have b1 := (Below.refl w.heap.size w).alloc (Nat.le_refl _) (.cells #[.int .i64 x, .int .i64 y] 39)
  have Hb1 := hide b1
  have c7 := (h.below (b1.mono hB)).c7
  rw [hd] at c7
  clear h b1 hd hB
  go_enter Try.func49, Try.ntmps49
  go_wp2
  go_ret2
  exact ⟨rfl, Hb1.out⟩

set_option maxHeartbeats 1000000 in
theorem page_out (h : DevAt w B0 B D k kb kp km) (hB : B ≤ w.heap.size) (x y : Int) (hd : D.dn = false) (hx : ¬ D.g.Has x y) :
    Calls Try.prog 49 #[.pointer (some ⟨k, 0, none⟩), .agg #[.int .i64 x, .int .i64 y]] w fun e w' => e = .returned (.tuple #[.slice none 0 0, .int .i64 3]) ∧ Below w.heap.size w w' := by
  have hk := h.hi.1
  have fp := fun W => place_any D.g x y W
  rw [Gm.place_none hx] at fp
  have b1 := (Below.refl w.heap.size w).alloc (Nat.le_refl _) (.cells #[.int .i64 x, .int .i64 y] 39)
  have Hb1 := hide b1
  have h1 := h.below (b1.mono hB)
  have c0 := h1.c0
  have c1 := h1.c1
  have c2 := h1.c2
  have c7 := h1.c7
  rw [hd] at c7
  have p0 : (w.alloc (.cells #[.int .i64 x, .int .i64 y] 39)).cell? ⟨w.heap.size, 0, none⟩ = some (.int .i64 x) := by simp
  have p1 : (w.alloc (.cells #[.int .i64 x, .int .i64 y] 39)).cell? ⟨w.heap.size, 1, none⟩ = some (.int .i64 y) := by simp
  generalize hw1 : w.alloc (.cells #[.int .i64 x, .int .i64 y] 39) = w1 at *
  have q0 := fun d os => cell_regrown c0 d os
  have q1 := fun d os => cell_regrown c1 d os
  have q2 := fun d os => cell_regrown c2 d os
  have r0 := fun d os => cell_regrown p0 d os
  have r1 := fun d os => cell_regrown p1 d os
  rcases D with ⟨⟨gb, gp, gr⟩, D1, D2, D3, D4, D5, D6, D7⟩
  simp only [Gm.val] at *
  clear h h1 c0 c1 c2 p0 p1 hk b1 hx hB hd
  go_enter Try.func49, Try.ntmps49
  go_upto_region 5 with fail
  clear hw1 c7
  refine wp_region_quiet_below (by kernel_rfl) (by kernel_rfl) ?_
  repeat (go_big_quiet_step (exact Calls.regrown_of (fp _)))
  refine wpQuiet_nil ?_
  intro _ hw'
  obtain ⟨⟨dq, osq⟩, hw''⟩ := hw'
  subst hw''
  go_wp2
  go_ret2
  exact ⟨rfl, Hb1.out.trans ((below_regrown w1 dq osq).mono Hb1.out.size)⟩

set_option maxHeartbeats 1000000 in
theorem page_ok (h : DevAt w B0 B D k kb kp km) (hB : B ≤ w.heap.size) (x y : Nat) (hd : D.dn = false) (hx : x < D.nb) (hy : y < D.np) :
    Calls Try.prog 49 #[.pointer (some ⟨k, 0, none⟩), .agg #[.int .i64 (x : Int), .int .i64 (y : Int)]] w fun e w' => e = .returned (.tuple #[.slice (some ⟨kp, (x * D.np + y) * 256, none⟩) 256 256, .int .i64 0]) ∧ Below w.heap.size w w' := by
  obtain ⟨s1, s2, s3, s4, s5, s6⟩ := h.sides
  have hk := h.hi.1
  have fp := fun W => place_any D.g (x : Int) (y : Int) W
  rw [Gm.place_nat h.right s5 s6 hx hy] at fp
  have hpos : ¬ ((x * D.np + y : Nat) : Int) < 0 := by omega
  have b1 := (Below.refl w.heap.size w).alloc (Nat.le_refl _) (.cells #[.int .i64 (x : Int), .int .i64 (y : Int)] 39)
  have Hb1 := hide b1
  have h1 := h.below (b1.mono hB)
  have HB := hide (Nat.le_trans hB b1.size)
  have Fb := hide (fun W (hb : Below (w.alloc (.cells #[.int .i64 (x : Int), .int .i64 (y : Int)] 39)).heap.size (w.alloc (.cells #[.int .i64 (x : Int), .int .i64 (y : Int)] 39)) W) => bytes_any (h1.below (hb.mono HB.out)) (Nat.le_trans HB.out hb.size) x y hx hy)
  have c0 := h1.c0
  have c1 := h1.c1
  have c2 := h1.c2
  have c7 := h1.c7
  rw [hd] at c7
  generalize hi : x * D.np + y = i at *
  have p0 : (w.alloc (.cells #[.int .i64 (x : Int), .int .i64 (y : Int)] 39)).cell? ⟨w.heap.size, 0, none⟩ = some (.int .i64 (x : Int)) := by simp
  have p1 : (w.alloc (.cells #[.int .i64 (x : Int), .int .i64 (y : Int)] 39)).cell? ⟨w.heap.size, 1, none⟩ = some (.int .i64 (y : Int)) := by simp
  generalize hw1 : w.alloc (.cells #[.int .i64 (x : Int), .int .i64 (y : Int)] 39) = w1 at *
  have q0 := fun d os => cell_regrown c0 d os
  have q1 := fun d os => cell_regrown c1 d os
  have q2 := fun d os => cell_regrown c2 d os
  have r0 := fun d os => cell_regrown p0 d os
  have r1 := fun d os => cell_regrown p1 d os
  rcases D with ⟨⟨gb, gp, gr⟩, D1, D2, D3, D4, D5, D6, D7⟩
  simp only [Gm.val] at *
  clear h h1 c0 c1 c2 p0 p1 s1 s2 s3 s4 s5 s6 hk hi b1 hx hy hB hd HB
  go_enter Try.func49, Try.ntmps49
  go_upto_region 5 with fail
  clear hw1 c7
  refine wp_region_quiet_below (by kernel_rfl) (by kernel_rfl) ?_
  repeat (go_big_quiet_step (exact Calls.regrown_of (fp _)))
  refine wpQuiet_nil ?_
  intro _ hw'
  obtain ⟨⟨dq, osq⟩, hw''⟩ := hw'
  subst hw''
  have Fb2 := hide (Fb.out _ (below_regrown w1 dq osq))
  have Hb2 := hide (Hb1.out.trans ((below_regrown w1 dq osq).mono Hb1.out.size))
  have y0 := r0 dq osq
  have y1 := r1 dq osq
  clear q0 q1 q2 r0 r1 Fb Hb1 fp
  generalize grow (redrawn w1 dq) osq = w2 at *
  go_wp2_with fail
  (with_reducible refine Fb2.out.mono ?_)
  rintro e w3 ⟨rfl, hb⟩
  have Hb3 := hide (Hb2.out.trans (hb.mono Hb2.out.size))
  clear hb Fb2 Hb2
  go_wp2
  go_ret2
  exact ⟨rfl, Hb3.out⟩

theorem read_bad (w1 : World) (v : Value) (x y : Int) (c : Int) (hc : c ≠ 0) (hB : w1 = w.alloc (.cells #[.int .i64 x, .int .i64 y] 39))
    (hp : Calls Try.prog 49 #[v, .agg #[.int .i64 x, .int .i64 y]] w1 fun e w' => e = .returned (.tuple #[.slice none 0 0, .int .i64 c]) ∧ Below w1.heap.size w1 w') :
    Calls Try.prog 20 #[v, .agg #[.int .i64 x, .int .i64 y]] w fun e w' => e = .returned (.tuple #[.slice none 0 0, .int .i64 c]) ∧ Below w.heap.size w w' := by
  subst hB
  have Hb1 := hide ((Below.refl w.heap.size w).alloc (Nat.le_refl _) (.cells #[.int .i64 x, .int .i64 y] 39))
  have Hp := hide hp
  have hc2 : (c != 0) = true := bne_iff_ne.2 hc
  clear hp
  go_enter Try.func20, Try.ntmps20
  go_wp2_with fail
  (with_reducible refine Hp.out.mono ?_)
  rintro e w3 ⟨rfl, hb⟩
  have Hb3 := hide (Hb1.out.trans (hb.mono Hb1.out.size))
  clear hb Hp Hb1
  go_wp2
  go_ret2
  exact ⟨rfl, Hb3.out⟩
theorem read_nil (x y : Int) (w : World) : Calls Try.prog 20 #[.pointer none, .agg #[.int .i64 x, .int .i64 y]] w fun e w' => e = .returned (.tuple #[.slice none 0 0, .int .i64 1]) ∧ Below w.heap.size w w' :=
  read_bad _ _ x y 1 (by decide) rfl (page_nil x y _)
theorem read_down (h : DevAt w B0 B D k kb kp km) (hB : B ≤ w.heap.size) (x y : Int) (hd : D.dn = true) :
    Calls Try.prog 20 #[.pointer (some ⟨k, 0, none⟩), .agg #[.int .i64 x, .int .i64 y]] w fun e w' => e = .returned (.tuple #[.slice none 0 0, .int .i64 9]) ∧ Below w.heap.size w w' := by
  have b1 := (Below.refl w.heap.size w).alloc (Nat.le_refl _) (.cells #[.int .i64 x, .int .i64 y] 39)
  exact read_bad _ _ x y 9 (by decide) rfl (page_down (h.below (b1.mono hB)) (Nat.le_trans hB b1.size) x y hd)
theorem read_out (h : DevAt w B0 B D k kb kp km) (hB : B ≤ w.heap.size) (x y : Int) (hd : D.dn = false) (hx : ¬ D.g.Has x y) :
    Calls Try.prog 20 #[.pointer (some ⟨k, 0, none⟩), .agg #[.int .i64 x, .int .i64 y]] w fun e w' => e = .returned (.tuple #[.slice none 0 0, .int .i64 3]) ∧ Below w.heap.size w w' := by
  have b1 := (Below.refl w.heap.size w).alloc (Nat.le_refl _) (.cells #[.int .i64 x, .int .i64 y] 39)
  exact read_bad _ _ x y 3 (by decide) rfl (page_out (h.below (b1.mono hB)) (Nat.le_trans hB b1.size) x y hd hx)
theorem read_ok (h : DevAt w B0 B D k kb kp km) (hB : B ≤ w.heap.size) (x y : Nat) (hd : D.dn = false) (hx : x < D.nb) (hy : y < D.np) :
    Calls Try.prog 20 #[.pointer (some ⟨k, 0, none⟩), .agg #[.int .i64 (x : Int), .int .i64 (y : Int)]] w fun e w' => ∃ A' c', e = .returned (.tuple #[.slice A' 256 c', .int .i64 0]) ∧
      w'.ownsRow w.heap.size 5 1 (.slice A' 256 c') 256 (bys (D.pg (x * D.np + y))) ∧ Below w.heap.size w w' := by
  have b1 := (Below.refl w.heap.size w).alloc (Nat.le_refl _) (.cells #[.int .i64 (x : Int), .int .i64 (y : Int)] 39)
  have Hb1 := hide b1
  have h1 := h.below (b1.mono hB)
  have hB1 := Nat.le_trans hB b1.size
  have Hp := hide (page_ok h1 hB1 x y hd hx hy)
  have hlt := lt_mul hx hy
  have Hl := hide (fun W (hb : Below (w.alloc (.cells #[.int .i64 (x : Int), .int .i64 (y : Int)] 39)).heap.size (w.alloc (.cells #[.int .i64 (x : Int), .int .i64 (y : Int)] 39)) W) => (h1.below (hb.mono hB1)).page hlt)
  have Hn := hide (h.plen _ hlt)
  clear h1 h b1 hB hB1 hlt hx hy hd
  generalize x * D.np + y = i at *
  generalize D.pg i = l at *
  go_enter Try.func20, Try.ntmps20
  go_wp2_with fail
  (with_reducible refine Hp.out.mono ?_)
  rintro e w3 ⟨rfl, hb⟩
  have Hl3 := hide (Hl.out _ hb)
  have Hb3 := hide (Hb1.out.trans (hb.mono Hb1.out.size))
  clear hb Hp Hb1 Hl
  go_wp2_with fail
  (with_reducible refine (clone_any _ 256 256 B (bys l) _ Hl3.out (by rw [bys_len, Hn.out]) (bys_one l) (by decide)).mono ?_)
  rintro e w4 ⟨v', rfl, ho, hb⟩
  obtain ⟨A', c', rfl, _⟩ := own_form ho
  have Ho := hide ho
  have Hb4 := hide (Hb3.out.trans (hb.mono Hb3.out.size))
  clear ho hb
  go_wp2
  go_ret2
  exact ⟨A', c', rfl, own_up Ho.out Hb3.out.size, Hb4.out⟩
end
end Go.Proofs.Ytppecnimpnlipaa
