/-
  A STRUCT OUT OF THE MIDST OF A BLOCK. Nothing here speaks of one program.
  CONTRACTS of package nand: block, and what is looked at (Marked, Next, Wear, Ops, Down, Sides, Power); of a nil device, too.
  WHAT COVERS WHAT, plain: erased pages, the places of pages. (Cut out of OneM and Dev2.)
  CONTRACTS of package nand: bytes, page, Read.
-/
import Derived.Test.YtahipfmokbiklaaWords
import Derived.Deep.MidRow
import Derived.Test.YtahipfmokbiklaaDev
import Derived.Test.YtahipfmokbiklaaBits
import Derived.Lib.QuietBelow
import Derived.Deep.RegionWith
import Derived.Deep.DeepCutAuto
namespace Go.Proofs.Ytahipfmokbiklaa
section
open Go.RowKit

/-- A struct out of the midst of a block. -/
theorem wpl_load_mid {P : Program} {ops : Array Oper} {rest : List Oper} {op : Oper} {a : Act} {w : World} {Q : Exit → Act → World → Prop} (hgd : op.guard = none) (ty : TypeId) (x : Operand) (ho : op.op = .load ty x) (b k : Nat) (cs : List Value) (hc : w.rangeAt b k cs)
    (hx : a.eval x = .pointer (some ⟨b, k, none⟩)) (d : TypeDesc) (hu : P.underlying ty = some d) (hd : d.isRow = true) (n : Nat) (hi : (P.info? ty).map (·.size) = some n) (hn : cs.length = n)
    (h : wpList P ops Q rest (a.put op.dst (.agg cs.toArray)) w) : wpList P ops Q (op :: rest) a w :=
  wpList_load_mid hgd ty x ho b k hx cs d hc hu hd (by rw [hi, hn]) h
end
section
open Go.RowKit

theorem i64w {n : Int} (h : -9223372036854775808 ≤ n ∧ n ≤ 9223372036854775807) : wrap64 n = n := by unfold wrap64; omega

/-- A result that lies in a cell of its own. -/
theorem results_cell1 {fn : Func} {p : Tmp} {ty : TypeId} (h : fn.results = #[.cell p ty]) (tmps : Array Value) (P : Program) (w : World) :
    (results fn tmps).run P w = ((asAddr (tmps.getD p undef)).run P w).andThen fun a w₁ => (loadVar ty a).run P w₁ := by
  simp only [results, h]
  simp [Sem.run_bind, Result.andThen]

section
variable {w : World} {B0 B : Nat} {D : Dv} {k kb kp km : Nat}
theorem block_none (h : DevAt w B0 B D k kb kp km) (z : Int) (hz : ¬ (0 ≤ z ∧ z < (D.nb : Int))) : Calls Try.prog 44 #[.pointer (some ⟨k, 0, none⟩), .int .i64 z] w fun e w' => e = .returned (.pointer none) ∧ w = w' := by
  have c3 := h.c3
  clear h
  generalize D.nb = n at *
  by_cases h0 : z < 0
  · clear hz
    go_enter Try.func44, Try.ntmps44
    go_wp2
    go_ret
    exact ⟨rfl, rfl⟩
  · have h1 : (n : Int) ≤ z := by omega
    clear hz
    go_enter Try.func44, Try.ntmps44
    go_wp2
    go_ret
    exact ⟨rfl, rfl⟩
theorem block_some (h : DevAt w B0 B D k kb kp km) (i : Nat) (hi : i < D.nb) : Calls Try.prog 44 #[.pointer (some ⟨k, 0, none⟩), .int .i64 (i : Int)] w fun e w' => e = .returned (.pointer (some ⟨kb, i * 3, none⟩)) ∧ w = w' := by
  have c3 := h.c3
  clear h
  generalize D.nb = n at *
  have h0 : ¬ (i : Int) < 0 := by omega
  have h1 : ¬ (n : Int) ≤ (i : Int) := by omega
  have h2 : (i : Int) < (n : Int) := by omega
  clear hi
  go_enter Try.func44, Try.ntmps44
  go_wp2
  go_ret
  exact ⟨rfl, rfl⟩

theorem marked_some (h : DevAt w B0 B D k kb kp km) (i : Nat) (hi : i < D.nb) : Calls Try.prog 61 #[.pointer (some ⟨k, 0, none⟩), .int .i64 (i : Int)] w fun e w' => e = .returned (.bool (D.bad i)) ∧ w = w' := by
  have fb := block_some h i hi
  have c := h.b0 hi
  clear h
  go_enter Try.func61, Try.ntmps61
  go_wp2_with (go_at_call 44; (with_reducible refine fb.mono ?_); rintro e w2 ⟨rfl, rfl⟩; clear fb)
  go_ret
  exact ⟨rfl, rfl⟩

theorem next_some (h : DevAt w B0 B D k kb kp km) (i : Nat) (hi : i < D.nb) : Calls Try.prog 30 #[.pointer (some ⟨k, 0, none⟩), .int .i64 (i : Int)] w fun e w' => e = .returned (.int .i64 (D.nx i : Int)) ∧ w = w' := by
  have fb := block_some h i hi
  have c := h.b1 hi
  clear h
  go_enter Try.func30, Try.ntmps30
  go_wp2_with (go_at_call 44; (with_reducible refine fb.mono ?_); rintro e w2 ⟨rfl, rfl⟩; clear fb)
  go_ret
  exact ⟨rfl, rfl⟩

theorem down_any (h : DevAt w B0 B D k kb kp km) : Calls Try.prog 33 #[.pointer (some ⟨k, 0, none⟩)] w fun e w' => e = .returned (.bool D.dn) ∧ w = w' := by
  have c := h.c7
  clear h
  go_enter Try.func33, Try.ntmps33
  go_wp2
  go_ret
  exact ⟨rfl, rfl⟩

theorem infoG : (Try.prog.info? 23).map (·.size) = some 3 := by kernel_rfl
theorem sides_any (h : DevAt w B0 B D k kb kp km) : Calls Try.prog 34 #[.pointer (some ⟨k, 0, none⟩)] w fun e w' => e = .returned D.g.val ∧ Below w.heap.size w w' := by
  have R := World.rangeAt_alloc h.range (.cells #[.int .i64 0, .int .i64 0, .int .i64 0] 23)
  have Hb := hide (fun o => (Below.refl w.heap.size w).alloc (Nat.le_refl _) o)
  clear h
  unfold Gm.val Gm.cells at *
  go_enter Try.func34, Try.ntmps34
  go_wp2_with (with_reducible refine wpl_load_mid rfl 23 (.tmp 8) rfl k 0 _ R rfl _ Try.underlying23 rfl 3 infoG (by with_unfolding_all rfl) ?_)
  refine bodyPost_ret (v := .agg #[.int .i64 D.g.b, .int .i64 D.g.p, .int .i64 D.g.r]) ?_ rfl ⟨rfl, ?_⟩
  · rw [results_cell1 rfl]
    go_simp
  · repeat (refine Below.setCell ?_ (by simp) _)
    exact Hb.out _

theorem power_any (h : DevAt w B0 B D k kb kp km) (hB : B ≤ w.heap.size) : Calls Try.prog 32 #[.pointer (some ⟨k, 0, none⟩)] w fun e w' => e = .returned (.tuple #[]) ∧ DevAt w' B0 B { D with dn := false } k kb kp km ∧ Tch [k, kb, kp] w w' := by
  have c7 := h.c7
  have f7 := h.f 7
  have Hn := hide (h.set_down hB false)
  clear h
  go_enter Try.func32, Try.ntmps32
  go_wp2
  go_end0
  exact ⟨rfl, Hn.out, Tch.set (by simp) _⟩
end
end
section
open Go.RowKit

theorem rep_getD (j : Nat) (hj : j < 256) : (List.replicate 256 (255 : UInt8)).getD j 0 = 255 := by
  rw [List.getD_eq_getElem?_getD, List.getElem?_replicate, if_pos hj]; rfl
theorem lt_mul {x y nb np : Nat} (hx : x < nb) (hy : y < np) : x * np + y < nb * np := by
  have : (x + 1) * np ≤ nb * np := Nat.mul_le_mul_right _ hx
  rw [Nat.add_mul] at this
  omega
end
section
open Go.RowKit
open Go.Sort

section
variable {w : World} {B0 B : Nat} {D : Dv} {k kb kp km : Nat}
theorem Gm.place_nat {g : Gm} (h : g.Right) {x y nb np : Nat} (hb : g.b = (nb : Int)) (hp : g.p = (np : Int)) (hx : x < nb) (hy : y < np) : g.place (x : Int) (y : Int) = ((x * np + y : Nat) : Int) := by
  rw [Gm.place_ok h ⟨by omega, by omega, by omega, by omega⟩, hp]
  simp
set_option maxHeartbeats 1000000 in
theorem bytes_any (h : DevAt w B0 B D k kb kp km) (hB : B ≤ w.heap.size) (x y : Nat) (hx : x < D.nb) (hy : y < D.np) :
    Calls Try.prog 49 #[.pointer (some ⟨k, 0, none⟩), .agg #[.int .i64 (x : Int), .int .i64 (y : Int)]] w fun e w' => e = .returned (.slice (some ⟨kp, (x * D.np + y) * 256, none⟩) 256 256) ∧ Below w.heap.size w w' := by
  obtain ⟨s1, s2, s3, s4, s5, s6⟩ := h.sides
  have hk := h.hi.1
  have fp := fun W => place_any D.g (x : Int) (y : Int) W
  rw [Gm.place_nat h.right s5 s6 hx hy] at fp
  have hlt := lt_mul hx hy
  have hbig : D.nb * D.np ≤ 34 * 32 := Nat.mul_le_mul s2 s4
  have b1 := (Below.refl w.heap.size w).alloc (Nat.le_refl _) (.cells #[.int .i64 (x : Int), .int .i64 (y : Int)] 46)
  have Hb1 := hide b1
  have h1 := h.below (b1.mono hB)
  have c0 := h1.c0
  have c1 := h1.c1
  have c2 := h1.c2
  have c4 := h1.c4
  generalize hi : x * D.np + y = i at *
  generalize D.nb * D.np = n at *
  have p0 : (w.alloc (.cells #[.int .i64 (x : Int), .int .i64 (y : Int)] 46)).cell? ⟨w.heap.size, 0, none⟩ = some (.int .i64 (x : Int)) := by simp
  have p1 : (w.alloc (.cells #[.int .i64 (x : Int), .int .i64 (y : Int)] 46)).cell? ⟨w.heap.size, 1, none⟩ = some (.int .i64 (y : Int)) := by simp
  generalize hw1 : w.alloc (.cells #[.int .i64 (x : Int), .int .i64 (y : Int)] 46) = w1 at *
  have HW := hide hw1
  have q0 := fun d os => cell_regrown c0 d os
  have q1 := fun d os => cell_regrown c1 d os
  have q2 := fun d os => cell_regrown c2 d os
  have q4 := fun d os => cell_regrown c4 d os
  have r0 := fun d os => cell_regrown p0 d os
  have r1 := fun d os => cell_regrown p1 d os
  have hlt' : (i : Int) < (n : Int) := by omega
  rcases D with ⟨⟨gb, gp, gr⟩, D1, D2, D3, D4, D5, D6, D7⟩
  simp only [Gm.val] at *
  clear h h1 c0 c1 c2 c4 p0 p1 s1 s2 s3 s4 s5 s6 hk hi hbig b1 hx hy hlt hB
  go_enter Try.func49, Try.ntmps49
  go_upto_region 1 with fail
  clear hw1
  refine wp_region_quiet_below (by kernel_rfl) (by kernel_rfl) ?_
  repeat (go_big_quiet_step (exact Calls.regrown_of (fp _)))
  refine wpQuiet_nil ?_
  intro _ hw'
  obtain ⟨⟨dq, osq⟩, hw''⟩ := hw'
  subst hw''
  go_wp2
  go_ret
  exact ⟨rfl, Hb1.out.trans ((below_regrown w1 dq osq).mono Hb1.out.size)⟩

/-- What a page that is looked for answers. -/
def Dv.look (D : Dv) (x y : Int) : Int := if D.dn = true then 9 else if D.g.Has x y then 0 else 3

theorem page_nil (x y : Int) (w : World) : Calls Try.prog 46 #[.pointer none, .agg #[.int .i64 x, .int .i64 y]] w fun e w' => e = .returned (.tuple #[.slice none 0 0, .int .i64 1]) ∧ Below w.heap.size w w' := by
  have Hb1 := hide ((Below.refl w.heap.size w).alloc (Nat.le_refl _) (.cells #[.int .i64 x, .int .i64 y] 46))
  go_enter Try.func46, Try.ntmps46
  go_wp2
  go_ret2
  exact ⟨rfl, Hb1.out⟩

theorem page_down (h : DevAt w B0 B D k kb kp km) (hB : B ≤ w.heap.size) (x y : Int) (hd : D.dn = true) :
    Calls Try.prog 46 #[.pointer (some ⟨k, 0, none⟩), .agg #[.int .i64 x, .int .i64 y]] w fun e w' => e = .returned (.tuple #[.slice none 0 0, .int .i64 9]) ∧ Below w.heap.size w w' := by
  have b1 := (Below.refl w.heap.size w).alloc (Nat.le_refl _) (.cells #[.int .i64 x, .int .i64 y] 46)
  have Hb1 := hide b1
  have c7 := (h.below (b1.mono hB)).c7
  rw [hd] at c7
  clear h b1 hd hB
  go_enter Try.func46, Try.ntmps46
  go_wp2
  go_ret2
  exact ⟨rfl, Hb1.out⟩

set_option maxHeartbeats 1000000 in
theorem page_out (h : DevAt w B0 B D k kb kp km) (hB : B ≤ w.heap.size) (x y : Int) (hd : D.dn = false) (hx : ¬ D.g.Has x y) :
    Calls Try.prog 46 #[.pointer (some ⟨k, 0, none⟩), .agg #[.int .i64 x, .int .i64 y]] w fun e w' => e = .returned (.tuple #[.slice none 0 0, .int .i64 3]) ∧ Below w.heap.size w w' := by
  have hk := h.hi.1
  have fp := fun W => place_any D.g x y W
  rw [Gm.place_none hx] at fp
  have b1 := (Below.refl w.heap.size w).alloc (Nat.le_refl _) (.cells #[.int .i64 x, .int .i64 y] 46)
  have Hb1 := hide b1
  have h1 := h.below (b1.mono hB)
  have c0 := h1.c0
  have c1 := h1.c1
  have c2 := h1.c2
  have c7 := h1.c7
  rw [hd] at c7
  have p0 : (w.alloc (.cells #[.int .i64 x, .int .i64 y] 46)).cell? ⟨w.heap.size, 0, none⟩ = some (.int .i64 x) := by simp
  have p1 : (w.alloc (.cells #[.int .i64 x, .int .i64 y] 46)).cell? ⟨w.heap.size, 1, none⟩ = some (.int .i64 y) := by simp
  generalize hw1 : w.alloc (.cells #[.int .i64 x, .int .i64 y] 46) = w1 at *
  have q0 := fun d os => cell_regrown c0 d os
  have q1 := fun d os => cell_regrown c1 d os
  have q2 := fun d os => cell_regrown c2 d os
  have r0 := fun d os => cell_regrown p0 d os
  have r1 := fun d os => cell_regrown p1 d os
  rcases D with ⟨⟨gb, gp, gr⟩, D1, D2, D3, D4, D5, D6, D7⟩
  simp only [Gm.val] at *
  clear h h1 c0 c1 c2 p0 p1 hk b1 hx hB hd
  go_enter Try.func46, Try.ntmps46
  go_upto_region 5 with fail
  clear hw1 c7
  refine wp_region_quiet_below (by kernel_rfl) (by kernel_rfl) ?_
  repeat (go_big_quiet_step (exact Calls.regrown_of (fp _)))
  refine wpQuiet_nil ?_
  intro _ hw'
  obtain ⟨⟨dq, osq⟩, hw''⟩ := hw'
  subst hw''
  go_wp2
  go_ret2
  exact ⟨rfl, Hb1.out.trans ((below_regrown w1 dq osq).mono Hb1.out.size)⟩

set_option maxHeartbeats 1000000 in
theorem page_ok (h : DevAt w B0 B D k kb kp km) (hB : B ≤ w.heap.size) (x y : Nat) (hd : D.dn = false) (hx : x < D.nb) (hy : y < D.np) :
    Calls Try.prog 46 #[.pointer (some ⟨k, 0, none⟩), .agg #[.int .i64 (x : Int), .int .i64 (y : Int)]] w fun e w' => e = .returned (.tuple #[.slice (some ⟨kp, (x * D.np + y) * 256, none⟩) 256 256, .int .i64 0]) ∧ Below w.heap.size w w' := by
  obtain ⟨s1, s2, s3, s4, s5, s6⟩ := h.sides
  have hk := h.hi.1
  have fp := fun W => place_any D.g (x : Int) (y : Int) W
  rw [Gm.place_nat h.right s5 s6 hx hy] at fp
  have hpos : ¬ ((x * D.np + y : Nat) : Int) < 0 := by omega
  have b1 := (Below.refl w.heap.size w).alloc (Nat.le_refl _) (.cells #[.int .i64 (x : Int), .int .i64 (y : Int)] 46)
  have Hb1 := hide b1
  have h1 := h.below (b1.mono hB)
  have HB := hide (Nat.le_trans hB b1.size)
  have Fb := hide (fun W (hb : Below (w.alloc (.cells #[.int .i64 (x : Int), .int .i64 (y : Int)] 46)).heap.size (w.alloc (.cells #[.int .i64 (x : Int), .int .i64 (y : Int)] 46)) W) => bytes_any (h1.below (hb.mono HB.out)) (Nat.le_trans HB.out hb.size) x y hx hy)
  have c0 := h1.c0
  have c1 := h1.c1
  have c2 := h1.c2
  have c7 := h1.c7
  rw [hd] at c7
  generalize hi : x * D.np + y = i at *
  have p0 : (w.alloc (.cells #[.int .i64 (x : Int), .int .i64 (y : Int)] 46)).cell? ⟨w.heap.size, 0, none⟩ = some (.int .i64 (x : Int)) := by simp
  have p1 : (w.alloc (.cells #[.int .i64 (x : Int), .int .i64 (y : Int)] 46)).cell? ⟨w.heap.size, 1, none⟩ = some (.int .i64 (y : Int)) := by simp
  generalize hw1 : w.alloc (.cells #[.int .i64 (x : Int), .int .i64 (y : Int)] 46) = w1 at *
  have q0 := fun d os => cell_regrown c0 d os
  have q1 := fun d os => cell_regrown c1 d os
  have q2 := fun d os => cell_regrown c2 d os
  have r0 := fun d os => cell_regrown p0 d os
  have r1 := fun d os => cell_regrown p1 d os
  rcases D with ⟨⟨gb, gp, gr⟩, D1, D2, D3, D4, D5, D6, D7⟩
  simp only [Gm.val] at *
  clear h h1 c0 c1 c2 p0 p1 s1 s2 s3 s4 s5 s6 hk hi b1 hx hy hB hd HB
  go_enter Try.func46, Try.ntmps46
  go_upto_region 5 with fail
  clear hw1 c7
  refine wp_region_quiet_below (by kernel_rfl) (by kernel_rfl) ?_
  repeat (go_big_quiet_step (exact Calls.regrown_of (fp _)))
  refine wpQuiet_nil ?_
  intro _ hw'
  obtain ⟨⟨dq, osq⟩, hw''⟩ := hw'
  subst hw''
  have Fb2 := hide (Fb.out _ (below_regrown w1 dq osq))
  have Hb2 := hide (Hb1.out.trans ((below_regrown w1 dq osq).mono Hb1.out.size))
  have y0 := r0 dq osq
  have y1 := r1 dq osq
  clear q0 q1 q2 r0 r1 Fb Hb1 fp
  generalize grow (redrawn w1 dq) osq = w2 at *
  go_wp2_with fail
  (with_reducible refine Fb2.out.mono ?_)
  rintro e w3 ⟨rfl, hb⟩
  have Hb3 := hide (Hb2.out.trans (hb.mono Hb2.out.size))
  clear hb Fb2 Hb2
  go_wp2
  go_ret2
  exact ⟨rfl, Hb3.out⟩

theorem read_bad (w1 : World) (v : Value) (x y : Int) (c : Int) (hc : c ≠ 0) (hB : w1 = w.alloc (.cells #[.int .i64 x, .int .i64 y] 46))
    (hp : Calls Try.prog 46 #[v, .agg #[.int .i64 x, .int .i64 y]] w1 fun e w' => e = .returned (.tuple #[.slice none 0 0, .int .i64 c]) ∧ Below w1.heap.size w1 w') :
    Calls Try.prog 36 #[v, .agg #[.int .i64 x, .int .i64 y]] w fun e w' => e = .returned (.tuple #[.slice none 0 0, .int .i64 c]) ∧ Below w.heap.size w w' := by
  subst hB
  have Hb1 := hide ((Below.refl w.heap.size w).alloc (Nat.le_refl _) (.cells #[.int .i64 x, .int .i64 y] 46))
  have Hp := hide hp
  have hc2 : (c != 0) = true := bne_iff_ne.2 hc
  clear hp
  go_enter Try.func36, Try.ntmps36
  go_wp2_with fail
  (with_reducible refine Hp.out.mono ?_)
  rintro e w3 ⟨rfl, hb⟩
  have Hb3 := hide (Hb1.out.trans (hb.mono Hb1.out.size))
  clear hb Hp Hb1
  go_wp2
  go_ret2
  exact ⟨rfl, Hb3.out⟩
theorem read_nil (x y : Int) (w : World) : Calls Try.prog 36 #[.pointer none, .agg #[.int .i64 x, .int .i64 y]] w fun e w' => e = .returned (.tuple #[.slice none 0 0, .int .i64 1]) ∧ Below w.heap.size w w' :=
  read_bad _ _ x y 1 (by decide) rfl (page_nil x y _)
theorem read_down (h : DevAt w B0 B D k kb kp km) (hB : B ≤ w.heap.size) (x y : Int) (hd : D.dn = true) :
    Calls Try.prog 36 #[.pointer (some ⟨k, 0, none⟩), .agg #[.int .i64 x, .int .i64 y]] w fun e w' => e = .returned (.tuple #[.slice none 0 0, .int .i64 9]) ∧ Below w.heap.size w w' := by
  have b1 := (Below.refl w.heap.size w).alloc (Nat.le_refl _) (.cells #[.int .i64 x, .int .i64 y] 46)
  exact read_bad _ _ x y 9 (by decide) rfl (page_down (h.below (b1.mono hB)) (Nat.le_trans hB b1.size) x y hd)
theorem read_out (h : DevAt w B0 B D k kb kp km) (hB : B ≤ w.heap.size) (x y : Int) (hd : D.dn = false) (hx : ¬ D.g.Has x y) :
    Calls Try.prog 36 #[.pointer (some ⟨k, 0, none⟩), .agg #[.int .i64 x, .int .i64 y]] w fun e w' => e = .returned (.tuple #[.slice none 0 0, .int .i64 3]) ∧ Below w.heap.size w w' := by
  have b1 := (Below.refl w.heap.size w).alloc (Nat.le_refl _) (.cells #[.int .i64 x, .int .i64 y] 46)
  exact read_bad _ _ x y 3 (by decide) rfl (page_out (h.below (b1.mono hB)) (Nat.le_trans hB b1.size) x y hd hx)
theorem read_ok (h : DevAt w B0 B D k kb kp km) (hB : B ≤ w.heap.size) (x y : Nat) (hd : D.dn = false) (hx : x < D.nb) (hy : y < D.np) :
    Calls Try.prog 36 #[.pointer (some ⟨k, 0, none⟩), .agg #[.int .i64 (x : Int), .int .i64 (y : Int)]] w fun e w' => ∃ A' c', e = .returned (.tuple #[.slice A' 256 c', .int .i64 0]) ∧
      w'.ownsRow w.heap.size 5 1 (.slice A' 256 c') 256 (bys (D.pg (x * D.np + y))) ∧ Below w.heap.size w w' := by
  have b1 := (Below.refl w.heap.size w).alloc (Nat.le_refl _) (.cells #[.int .i64 (x : Int), .int .i64 (y : Int)] 46)
  have Hb1 := hide b1
  have h1 := h.below (b1.mono hB)
  have hB1 := Nat.le_trans hB b1.size
  have Hp := hide (page_ok h1 hB1 x y hd hx hy)
  have hlt := lt_mul hx hy
  have Hl := hide (fun W (hb : Below (w.alloc (.cells #[.int .i64 (x : Int), .int .i64 (y : Int)] 46)).heap.size (w.alloc (.cells #[.int .i64 (x : Int), .int .i64 (y : Int)] 46)) W) => (h1.below (hb.mono hB1)).page hlt)
  have Hn := hide (h.plen _ hlt)
  clear h1 h b1 hB hB1 hlt hx hy hd
  generalize x * D.np + y = i at *
  generalize D.pg i = l at *
  go_enter Try.func36, Try.ntmps36
  go_wp2_with fail
  (with_reducible refine Hp.out.mono ?_)
  rintro e w3 ⟨rfl, hb⟩
  have Hl3 := hide (Hl.out _ hb)
  have Hb3 := hide (Hb1.out.trans (hb.mono Hb1.out.size))
  clear hb Hp Hb1 Hl
  go_wp2_with fail
  (with_reducible refine (clone_any _ 256 256 B (bys l) _ Hl3.out (by rw [bys_len, Hn.out]) (bys_one l) (by decide)).mono ?_)
  rintro e w4 ⟨v', rfl, ho, hb⟩
  obtain ⟨A', c', rfl, _⟩ := own_form ho
  have Ho := hide ho
  have Hb4 := hide (Hb3.out.trans (hb.mono Hb3.out.size))
  clear ho hb
  go_wp2
  go_ret2
  exact ⟨A', c', rfl, own_up Ho.out Hb3.out.size, Hb4.out⟩
end
end
end Go.Proofs.Ytahipfmokbiklaa
