/-
  THE REFERENCE OF LAYER 14: Read.
-/
import Derived.Test.YtppecnimpnlipaaRd4
namespace Go.Proofs.Ytppecnimpnlipaa
open Go.RowKit
open Go.Sort

/-- The numbers of a page's place. -/
theorem pg_nums {x y nb np : Nat} (hx : x < nb) (hb : nb ≤ 34) (hp : np ≤ 32) (hy : y < np) : ∃ Z I N : Nat, N = nb * np ∧ Z = x * np ∧ I = x * np + y ∧ I < N ∧ (I : Int) < (N : Int) ∧ N ≤ 34 * 32 ∧ wrap64 ((x : Int) * (np : Int)) = (Z : Int) ∧ IntKind.i64.wrap ((x : Int) * (np : Int)) = (Z : Int) ∧ wrap64 ((Z : Int) + (y : Int)) = (I : Int) ∧ IntKind.i64.wrap ((Z : Int) + (y : Int)) = (I : Int) := by
  have h0 := lt_mul hx hy
  have hN : nb * np ≤ 34 * 32 := Nat.mul_le_mul hb hp
  have e1 : (x : Int) * (np : Int) = ((x * np : Nat) : Int) := (Int.natCast_mul x np).symm
  rw [e1]
  generalize x * np = Z at *
  have e2 : (Z : Int) + (y : Int) = ((Z + y : Nat) : Int) := (Int.natCast_add Z y).symm
  refine ⟨Z, Z + y, nb * np, rfl, rfl, rfl, h0, Int.ofNat_lt.2 h0, hN, i64w (by omega), IntWalk.i64_in _ (by omega), ?_, ?_⟩
  · rw [e2]; exact i64w (by omega)
  · rw [e2]; exact IntWalk.i64_in _ (by omega)

section
variable {w : World} {B0 B : Nat} {q : Pn} {D : Dv} {r rp rn rw cp cn cw : Nat}
theorem rread_down (h : RefAt w B0 B q D r rp rn rw cp cn cw) (hd : D.dn = true) (x y : Int) :
    Calls Try.prog 21 #[.pointer (some ⟨r, 0, none⟩), .agg #[.int .i64 x, .int .i64 y]] w fun e w' => e = .returned (.tuple #[.string ⟨#[]⟩, .int .i64 9]) ∧ Below w.heap.size w w' := by
  have c9 : w.cell? ⟨r, 9, none⟩ = some (.bool D.dn) := h.c 9 _ rfl
  rw [hd] at c9
  have Hb := hide ((Below.refl w.heap.size w).alloc (Nat.le_refl _) (.cells #[.int .i64 x, .int .i64 y] 39))
  have d9 := (Hb.out.cell (World.block_lt_of_cell? _ _ c9)).trans c9
  clear c9 h hd
  go_enter Try.func21, Try.ntmps21
  go_wp2
  exact bodyPost_ret (results_tmp2 rfl _ _ _) rfl ⟨rfl, Hb.out⟩
theorem rread_out (h : RefAt w B0 B q D r rp rn rw cp cn cw) (hB : B ≤ w.heap.size) (hd : D.dn = false) (x y : Int) (hn : ¬ D.g.Has x y) :
    Calls Try.prog 21 #[.pointer (some ⟨r, 0, none⟩), .agg #[.int .i64 x, .int .i64 y]] w fun e w' => e = .returned (.tuple #[.string ⟨#[]⟩, .int .i64 3]) ∧ Below w.heap.size w w' := by
  have c9 : w.cell? ⟨r, 9, none⟩ = some (.bool D.dn) := h.c 9 _ rfl
  rw [hd] at c9
  have hb := (Below.refl w.heap.size w).alloc (Nat.le_refl _) (.cells #[.int .i64 x, .int .i64 y] 39)
  have Hb := hide hb
  have HP := BoxedP.new x y w
  have p0 := HP.x
  have p1 := HP.y
  have d9 := (hb.cell (World.block_lt_of_cell? _ _ c9)).trans c9
  have FH := hide (here_any (h.below (hb.mono hB)) x y)
  rw [decide_eq_false hn] at FH
  clear c9 h hd hn hb HP hB
  go_enter Try.func21, Try.ntmps21
  go_wp2_with fail
  (with_reducible refine FH.out.mono ?_)
  rintro e w2 ⟨rfl, hb⟩
  have Hb2 := hide (Hb.out.trans (hb.mono Hb.out.size))
  clear hb FH Hb p0 p1 d9
  go_wp2
  exact bodyPost_ret (results_tmp2 rfl _ _ _) rfl ⟨rfl, Hb2.out⟩
set_option maxHeartbeats 1000000 in
theorem rread_ok (h : RefAt w B0 B q D r rp rn rw cp cn cw) (hB : B ≤ w.heap.size) (hd : D.dn = false) (x y : Nat) (hx : x < D.nb) (hy : y < D.np) :
    Calls Try.prog 21 #[.pointer (some ⟨r, 0, none⟩), .agg #[.int .i64 (x : Int), .int .i64 (y : Int)]] w fun e w' => e = .returned (.tuple #[.string (str (D.pg (x * D.np + y))), .int .i64 0]) ∧ Below w.heap.size w w' := by
  have c9 : w.cell? ⟨r, 9, none⟩ = some (.bool D.dn) := h.c 9 _ rfl
  rw [hd] at c9
  obtain ⟨s1, s2, s3, s4, s5, s6⟩ := h.sides
  have hb := (Below.refl w.heap.size w).alloc (Nat.le_refl _) (.cells #[.int .i64 (x : Int), .int .i64 (y : Int)] 39)
  have Hb := hide hb
  have Hs := hide (show w.heap.size < (w.alloc (.cells #[.int .i64 (x : Int), .int .i64 (y : Int)] 39)).heap.size by simp)
  have HP := hide (BoxedP.new (x : Int) (y : Int) w)
  have p0 := HP.out.x
  have p1 := HP.out.y
  have d9 := (hb.cell (World.block_lt_of_cell? _ _ c9)).trans c9
  have H1 := hide (h.below (hb.mono hB))
  have HB := hide (Nat.le_trans hB hb.size)
  have FH := hide (here_any H1.out (x : Int) (y : Int))
  rw [decide_eq_true (show D.g.Has (x : Int) (y : Int) by unfold Gm.Has; omega)] at FH
  obtain ⟨Z, I, N, hN, hZ, hI, hIN, hIN2, hNb, k1, k2, k3, k4⟩ := pg_nums hx s2 s4 hy
  rw [← hI]
  have HIN := hide (hN ▸ hIN : I < D.nb * D.np)
  have HN := hide hN
  have Hs6 := hide s6
  clear c9 h hd hb hx hy hB s1 s2 s3 s4 s5 s6 hZ hI hIN hN hNb
  go_enter Try.func21, Try.ntmps21
  go_wp2_with fail
  (with_reducible refine FH.out.mono ?_)
  rintro e w2 ⟨rfl, hb⟩
  have Hb2 := hide (Hb.out.trans (hb.mono Hb.out.size))
  have HP2 := hide (HP.out.below hb Hs.out)
  have H2 := hide (H1.out.below (hb.mono HB.out))
  clear hb FH Hb p0 p1 d9 HP H1 Hs HB
  have p0 := HP2.out.x
  have p1 := HP2.out.y
  have c1 : w2.cell? ⟨r, 1, none⟩ = some (.int .i64 D.g.p) := H2.out.c 1 _ rfl
  have c4 : w2.cell? ⟨r, 4, none⟩ = some (.slice (some ⟨rp, 0, none⟩) (D.nb * D.np) cp) := H2.out.c 4 _ rfl
  have cr := H2.out.pages.cell HIN.out
  rw [Hs6.out] at c1
  rw [← HN.out] at c4
  clear HN Hs6
  go_upto_region 5 with fail
  go_quiet (fail)
  go_wp2
  exact bodyPost_ret (results_tmp2 rfl _ _ _) rfl ⟨rfl, bel_drewN Hb2.out _⟩
end
end Go.Proofs.Ytppecnimpnlipaa
