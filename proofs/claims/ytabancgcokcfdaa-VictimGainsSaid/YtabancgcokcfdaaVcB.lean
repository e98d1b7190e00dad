/-
  LAYER 22, SORTING BY A FUNCTION THAT KEEPS WHAT IT TOLD, walks: breakPatternsCmpFunc: whatever it draws, it only exchanges.
-/
import Derived.Test.YtabancgcokcfdaaVcS
import Derived.Test.YtabancgcokcfdaaShelV
import Derived.Laws.Bits64b
import Derived.BigRegion
namespace Go.Proofs.Ytabancgcokcfdaa
open Go.RowKit
set_option maxRecDepth 8000
namespace Vc
section
variable {L : List Pl2} {S : List Int} {q base g c N : Nat} {W0 : World} {D : Array Int}
theorem pow_bits {n : Nat} (h : 12 < n) (h2 : n < 50) : ∃ M : Nat, 1 <<< Sort.bitsLen n = M ∧ n < M ∧ M ≤ 2 * n ∧ M ≤ 100 := by
  have h1 := Sort.lt_two_pow_bitsLen n
  have h3 := Sort.two_pow_bitsLen_le (n := n) (by omega)
  refine ⟨_, rfl, ?_⟩
  rw [Nat.shiftLeft_eq, Nat.one_mul]
  omega
/-- The row, and beside it the state of the drawing. -/
structure Vx (L : List Pl2) (S : List Int) (q base g c N : Nat) (W0 : World) (D : Array Int) (k X : Nat) (W : World) : Prop where
  row : Vd L S q base g c N W0 D W
  at_ : W.cell? ⟨k, 0, none⟩ = some (.int .u64 (X : Int))
  froz : W.frozen? ⟨k, 0, none⟩ = false
  new : W0.heap.size ≤ k
  ne : k ≠ g
  lt : X < 18446744073709551616
theorem Vx.drewN {k X : Nat} {W : World} (h : Vx L S q base g c N W0 D k X W) (n : Nat) : Vx L S q base g c N W0 D k X (W.drewN n) := ⟨h.row.drewN n, h.at_, h.froz, h.new, h.ne, h.lt⟩
theorem Vx.next {k X Y : Nat} {W : World} (h : Vx L S q base g c N W0 D k X W) (hY : Y < 18446744073709551616) : Vx L S q base g c N W0 D k Y (W.setCell ⟨k, 0, none⟩ (.int .u64 (Y : Int))) := by
  have hb : W.grownBy (W.setCell ⟨k, 0, none⟩ (.int .u64 (Y : Int))) (some k) := grown_setV W ⟨k, 0, none⟩ _
  exact ⟨h.row.grown hb (fun j e => by injection e with e; rw [← e]; exact h.new) (fun e => h.ne (by injection e)), World.cell?_setCell_same' _ _ _ (by rw [h.at_]; rfl), by rw [World.frozen?_setCell]; exact h.froz, h.new, h.ne, hY⟩
theorem Vx.swap {k X : Nat} {W : World} (h : Vx L S q base g c N W0 D k X W) {i j : Nat} (hi : i < N) (hj : j < N) (u v : Int) (hu : D[j]! = u) (hv : D[i]! = v) : Vx L S q base g c N W0 (Sort.swp D i j) k X ((W.setCell ⟨g, i, none⟩ (.int .i64 u)).setCell ⟨g, j, none⟩ (.int .i64 v)).drew := by
  subst hu hv
  refine ⟨(h.row.swap hi hj).drew, ?_, ?_, h.new, h.ne, h.lt⟩
  · show World.cell? ((W.setCell _ _).setCell _ _) _ = _
    rw [World.cell?_setCell_other _ _ _ _ (fun e => h.ne (by injection e with e _ _; exact e.symm)), World.cell?_setCell_other _ _ _ _ (fun e => h.ne (by injection e with e _ _; exact e.symm))]
    exact h.at_
  · show World.frozen? ((W.setCell _ _).setCell _ _) _ = _
    rw [World.frozen?_setCell, World.frozen?_setCell]
    exact h.froz
set_option maxHeartbeats 4000000 in
theorem next_cmp (k X : Nat) (w : World) (h : Vx L S q base g c N W0 D k X w) : Calls Try.prog 45 #[.pointer (some ⟨k, 0, none⟩)] w fun e w' => ∃ Y : Nat, e = .returned (.int .u64 (Y : Int)) ∧ Y < 18446744073709551616 ∧ Vx L S q base g c N W0 D k Y w' := by
  have := AnyF.xorshift_Next Try.layNext k 0 X h.lt w h.at_ h.froz
  change Calls Try.prog 45 _ _ _ at this
  refine this.mono ?_
  rintro e w' ⟨rfl, rfl⟩
  have hl := Sort.xorNextN_lt X h.lt
  exact ⟨_, rfl, hl, (h.next hl).drewN 3⟩
set_option maxHeartbeats 4000000 in
theorem break_cmp (a b : Nat) (w : World) (hs : Vd L S q base g c N W0 D w) (h1 : 12 < b - a) (h2 : b - a < 50) (hb : b ≤ N) (hN : N ≤ 1000) (hW : W0.heap.size ≤ w.heap.size) (hg : g < w.heap.size) :
    Calls Try.prog 35 #[.slice (some ⟨g, 0, none⟩) N c, .int .i64 (a : Int), .int .i64 (b : Int), .func (.func 23) #[] #[.pointer (some ⟨q + 3, 0, none⟩)]] w fun e w' => e = .returned (.tuple #[]) ∧ ∃ E, Sort.PermIn a b D E ∧ Vd L S q base g c N W0 E w' := by
  obtain ⟨LZ, hL⟩ : ∃ LZ, b - a = LZ := ⟨_, rfl⟩
  rw [hL] at h1 h2
  obtain ⟨M, hM, hM1, hM2, hM3⟩ := pow_bits h1 h2
  obtain ⟨s, hS⟩ : ∃ s, LZ / 4 = s := ⟨_, rfl⟩
  obtain ⟨s2, hs2⟩ : ∃ z, s * 2 = z := ⟨_, rfl⟩
  obtain ⟨m, hm⟩ : ∃ m, a + s2 = m := ⟨_, rfl⟩
  obtain ⟨i0, hi0⟩ : ∃ i, m = i + 1 := ⟨m - 1, by omega⟩
  obtain ⟨M1, hM4⟩ : ∃ i, M = i + 1 := ⟨M - 1, by omega⟩
  have HQ : Hid (a ≤ i0 ∧ m + 1 < b ∧ a + LZ = b ∧ b ≤ N ∧ N ≤ 1000 ∧ 12 < LZ ∧ M1 < 2 * LZ ∧ M1 ≤ 100) := hide (by omega)
  have E2 : Hid ((LZ : Int).tdiv 4 = (s : Int)) := hide (by rw [← hS]; exact (Int.ofNat_tdiv LZ 4).symm)
  have r1 : (b : Int) - (a : Int) = (LZ : Int) := by omega
  have r2 : (s : Int) * 2 = (s2 : Int) := by omega
  have r3 : (a : Int) + (s2 : Int) = (m : Int) := by omega
  have r4 : (m : Int) - 1 = (i0 : Int) := by omega
  have r5 : (M : Int) - 1 = (M1 : Int) := by omega
  have q1 : LZ ≤ 1000 ∧ s ≤ 1000 ∧ s2 ≤ 1000 ∧ m ≤ 1000 ∧ i0 ≤ 1000 ∧ M1 ≤ 1000 ∧ m + 1 ≤ 1000 := by omega
  have HM : Hid (LZ < 4611686018427387904) := hide (by omega)
  have l8 : decide ((8 : Int) ≤ (LZ : Int)) = true := decide_eq_true (by omega)
  have HI := hide (show i0 ≤ m + 2 by omega)
  have u1 : IntKind.u64.wrap (LZ : Int) = (LZ : Int) := by rw [IntKind.wrap_u64]; omega
  have u2 : IntKind.u64.wrap ((M : Int) - 1) = (M1 : Int) := by rw [r5, IntKind.wrap_u64]; omega
  have HLL := hide (show LZ < 18446744073709551616 by omega)
  have HMM := hide (show M1 < 18446744073709551616 by omega)
  clear h1 h2 hL hS hs2 hm hi0 hb hN hM1 hM2 hM3 hM4
  have e1 : wrap64 ((b : Int) - (a : Int)) = (LZ : Int) := by rw [r1]; exact w6n q1.1
  have e2 : wrap64 (((LZ : Int)).tdiv 4) = (s : Int) := by rw [E2.out]; exact w6n q1.2.1
  have e2' := E2.out
  have e3 : wrap64 ((s : Int) * 2) = (s2 : Int) := by rw [r2]; exact w6n q1.2.2.1
  have e3' : wrap64 (s : Int) = (s : Int) := w6n q1.2.1
  have e4 : wrap64 ((a : Int) + (s2 : Int)) = (m : Int) := by rw [r3]; exact w6n q1.2.2.2.1
  have e5 : wrap64 ((m : Int) - 1) = (i0 : Int) := by rw [r4]; exact w6n q1.2.2.2.2.1
  have e6 : wrap64 ((m : Int) + 1) = ((m + 1 : Nat) : Int) := w6n q1.2.2.2.2.2.2
  clear r1 r2 r3 r4 r5 q1
  have Hs : Hid (Vx L S q base g c N W0 D w.heap.size LZ (w.alloc (.cells #[.int .u64 (LZ : Int)] 66))) := hide ⟨hs.alloc _, by simp, by simp, hW, by omega, HLL.out⟩
  have FN := hide (fun (E : Array Int) (X : Nat) W (h : Vx L S q base g c N W0 E w.heap.size X W) => next_cmp w.heap.size X W h)
  have FP : Hid (∀ W, Calls Try.prog 44 #[.int .i64 (LZ : Int)] W fun e w' => e = .returned (.int .u64 (M : Int)) ∧ w' = W) := hide (fun W => by
    have := AnyF.nextPowerOfTwo Try.layPow LZ HM.out W
    rw [hM] at this
    exact this)
  have HSZ := hide (Vd.size hs)
  clear hs hW hg hM
  go_enter Try.func35, Try.ntmps35
  go_wp2_with fail
  (with_reducible refine (FP.out _).mono ?_)
  rintro e w1 ⟨rfl, rfl⟩
  clear FP
  go_wp2_with fail
  go_loopw [11, 12] (fun s _ wr => ∃ (i X : Nat) (E : Array Int), i0 ≤ i ∧ i ≤ m + 2 ∧ s = .int .i64 (i : Int) ∧ Hid (Sort.PermIn a b D E) ∧ Hid (Vx L S q base g c N W0 E w.heap.size X wr)) (fun s _ _ => m + 2 - (RowKit.intOf s).toNat)
  case atStart => exact ⟨i0, LZ, D, Nat.le_refl _, HI.out, by first | rfl | exact congrArg _ e5, hide (Sort.permIn_refl _ _ _), Hs⟩
  case round =>
    clear Hs
    have HE := hide (And.intro e1 (And.intro e2 (And.intro e2' (And.intro e3 (And.intro e3' (And.intro e4 (And.intro e5 e6)))))))
    clear e1 e2 e2' e3 e3' e4 e5 e6
    obtain ⟨i, X, E, hi, him, rfl, HP, Hs⟩ := hrel
    by_cases hlt : i ≤ m + 1
    · have g1 : decide ((i : Int) ≤ ((m + 1 : Nat) : Int)) = true := decide_eq_true (Int.ofNat_le.2 hlt)
      have g1' : decide ((i : Int) ≤ (m : Int) + 1) = true := decide_eq_true (by have := Int.ofNat_le.2 hlt; omega)
      have qh := HQ.out
      have HiB := hide (show i < b ∧ a ≤ i ∧ i < N ∧ i + 1 ≤ m + 2 ∧ i ≤ m + 1 by omega)
      have hi1 : i + 1 ≤ 1000 := by omega
      have bi : (i : Int) < (N : Int) := by omega
      have e9 : wrap64 ((i : Int) + 1) = ((i + 1 : Nat) : Int) := w6n hi1
      have HiI := hide hi
      clear hi him hlt hi1 qh
      obtain ⟨e1, e2, e2', e3, e3', e4, e5, e6⟩ := HE.out
      go_wp2_with fail
      (with_reducible refine (FN.out E X _ Hs.out).mono ?_)
      rintro e w1 ⟨Y, rfl, hY, h⟩
      have Hs1 := hide h
      have HY := hide hY
      clear h hY Hs e1 e2 e2' e3 e3' e4 e5 e6
      obtain ⟨O, hO⟩ : ∃ O, Y &&& M1 = O := ⟨_, rfl⟩
      have eA : bits .and .u64 (Y : Int) (M1 : Int) = (O : Int) := by rw [bits_and_u64_nat _ _ HY.out HMM.out, hO]
      have HO : Hid (O ≤ M1) := hide (by rw [← hO]; exact Nat.and_le_right)
      have hO100 : O ≤ 100 := Nat.le_trans HO.out HQ.out.2.2.2.2.2.2.2
      have eO : wrap64 (O : Int) = (O : Int) := w6n (Nat.le_trans hO100 (by decide))
      have eO' : IntKind.i64.wrap (O : Int) = (O : Int) := w6i (Nat.le_trans hO100 (by decide))
      clear hO hO100
      by_cases hOL : LZ ≤ O
      · obtain ⟨P, hP⟩ : ∃ P, O - LZ = P := ⟨_, rfl⟩
        have k1 : (O : Int) - (LZ : Int) = (P : Int) := by clear eO eO'; omega
        have kP : P < LZ ∧ P ≤ 100 := by clear eO eO'; have := HO.out; have := HQ.out; omega
        have g2 : decide ((LZ : Int) ≤ (O : Int)) = true := decide_eq_true (Int.ofNat_le.2 hOL)
        have g2' : decide (LZ ≤ O) = true := decide_eq_true hOL
        have eP : wrap64 ((O : Int) - (LZ : Int)) = (P : Int) := by rw [k1]; exact w6n (Nat.le_trans kP.2 (by decide))
        have eP' : IntKind.i64.wrap ((O : Int) - (LZ : Int)) = (P : Int) := by rw [k1]; exact w6i (Nat.le_trans kP.2 (by decide))
        have HPL := hide kP
        clear hP k1 kP hOL
        obtain ⟨j, hj⟩ : ∃ j, a + P = j := ⟨_, rfl⟩
        have qh := HQ.out
        have q2 := HPL.out
        have k2 : (a : Int) + (P : Int) = (j : Int) := by clear eO eO' eP eP'; omega
        have Hj : Hid (a ≤ j ∧ j < b ∧ j < N) := hide (by clear eO eO' eP eP'; omega)
        have kj : j ≤ 1000 := by clear eO eO' eP eP'; omega
        have bj : (j : Int) < (N : Int) := by clear eO eO' eP eP'; omega
        have ej : wrap64 ((a : Int) + (P : Int)) = (j : Int) := by rw [k2]; exact w6n kj
        have ej' : IntKind.i64.wrap ((a : Int) + (P : Int)) = (j : Int) := by rw [k2]; exact w6i (Nat.le_trans kj (by decide))
        have ci := Vd.at Hs1.out.row HiB.out.2.2.1
        have cj := Vd.at Hs1.out.row Hj.out.2.2
        have fi := Vd.froz Hs1.out.row i
        have fj := Vd.froz Hs1.out.row j
        have HP2 := hide (Sort.permIn_trans _ _ _ _ _ HP.out (Sort.swp_permIn E a b i j HiB.out.2.1 HiB.out.1 Hj.out.1 Hj.out.2.1 (by rw [Vd.size Hs1.out.row]; exact qh.2.2.2.1)))
        have Hs2 := hide (Hs1.out.swap HiB.out.2.2.1 Hj.out.2.2 _ _ rfl rfl)
        generalize hx : E[i]! = x at *
        generalize hy : E[j]! = y at *
        have Hij : Hid (i = j → x = y) := hide (fun h => by rw [← hx, ← hy, h])
        clear hj qh q2 k2 kj HP hx hy Hs1
        by_cases hij : i = j
        · have hxy := Hij.out hij
          subst hij
          subst hxy
          go_wp2
          clear g1 g1' g2 g2' eA eO eO' l8 u1 u2
          go_region
          generalize ((w1.setCell ⟨g, i, none⟩ (.int .i64 x)).setCell ⟨g, i, none⟩ (.int .i64 x)).drew = w2 at *
          clear ci cj fi fj bi bj ej ej'
          go_wp2
          exact ⟨⟨i + 1, Y, _, Nat.le_trans HiI.out (Nat.le_succ i), HiB.out.2.2.2.1, congrArg _ e9, HP2, Hs2⟩, by rw [e9]; exact measS (Nat.lt_succ_of_le HiB.out.2.2.2.2)⟩
        · have n2 : j ≠ i := fun h => hij h.symm
          go_wp2
          clear g1 g1' g2 g2' eA eO eO' l8 u1 u2
          go_region
          generalize ((w1.setCell ⟨g, i, none⟩ (.int .i64 y)).setCell ⟨g, j, none⟩ (.int .i64 x)).drew = w2 at *
          clear ci cj fi fj bi bj ej ej'
          go_wp2
          exact ⟨⟨i + 1, Y, _, Nat.le_trans HiI.out (Nat.le_succ i), HiB.out.2.2.2.1, congrArg _ e9, HP2, Hs2⟩, by rw [e9]; exact measS (Nat.lt_succ_of_le HiB.out.2.2.2.2)⟩
      · have g2 : decide ((LZ : Int) ≤ (O : Int)) = false := decide_eq_false (fun h => hOL (Int.ofNat_le.1 h))
        have g2' : decide (LZ ≤ O) = false := decide_eq_false hOL
        have HPL : Hid (O < LZ ∧ O ≤ 100) := hide (by clear eO eO'; have := HO.out; have := HQ.out; omega)
        clear hOL
        obtain ⟨j, hj⟩ : ∃ j, a + O = j := ⟨_, rfl⟩
        have qh := HQ.out
        have q2 := HPL.out
        have k2 : (a : Int) + (O : Int) = (j : Int) := by clear eO eO'; omega
        have Hj : Hid (a ≤ j ∧ j < b ∧ j < N) := hide (by clear eO eO'; omega)
        have kj : j ≤ 1000 := by clear eO eO'; omega
        have bj : (j : Int) < (N : Int) := by clear eO eO'; omega
        have ej : wrap64 ((a : Int) + (O : Int)) = (j : Int) := by rw [k2]; exact w6n kj
        have ej' : IntKind.i64.wrap ((a : Int) + (O : Int)) = (j : Int) := by rw [k2]; exact w6i (Nat.le_trans kj (by decide))
        have ci := Vd.at Hs1.out.row HiB.out.2.2.1
        have cj := Vd.at Hs1.out.row Hj.out.2.2
        have fi := Vd.froz Hs1.out.row i
        have fj := Vd.froz Hs1.out.row j
        have HP2 := hide (Sort.permIn_trans _ _ _ _ _ HP.out (Sort.swp_permIn E a b i j HiB.out.2.1 HiB.out.1 Hj.out.1 Hj.out.2.1 (by rw [Vd.size Hs1.out.row]; exact qh.2.2.2.1)))
        have Hs2 := hide (Hs1.out.swap HiB.out.2.2.1 Hj.out.2.2 _ _ rfl rfl)
        generalize hx : E[i]! = x at *
        generalize hy : E[j]! = y at *
        have Hij : Hid (i = j → x = y) := hide (fun h => by rw [← hx, ← hy, h])
        clear hj qh q2 k2 kj HP hx hy Hs1
        by_cases hij : i = j
        · have hxy := Hij.out hij
          subst hij
          subst hxy
          go_wp2
          clear g1 g1' g2 g2' eA eO eO' l8 u1 u2
          go_region
          generalize ((w1.setCell ⟨g, i, none⟩ (.int .i64 x)).setCell ⟨g, i, none⟩ (.int .i64 x)).drew = w2 at *
          clear ci cj fi fj bi bj ej ej'
          go_wp2
          exact ⟨⟨i + 1, Y, _, Nat.le_trans HiI.out (Nat.le_succ i), HiB.out.2.2.2.1, congrArg _ e9, HP2, Hs2⟩, by rw [e9]; exact measS (Nat.lt_succ_of_le HiB.out.2.2.2.2)⟩
        · have n2 : j ≠ i := fun h => hij h.symm
          go_wp2
          clear g1 g1' g2 g2' eA eO eO' l8 u1 u2
          go_region
          generalize ((w1.setCell ⟨g, i, none⟩ (.int .i64 y)).setCell ⟨g, j, none⟩ (.int .i64 x)).drew = w2 at *
          clear ci cj fi fj bi bj ej ej'
          go_wp2
          exact ⟨⟨i + 1, Y, _, Nat.le_trans HiI.out (Nat.le_succ i), HiB.out.2.2.2.1, congrArg _ e9, HP2, Hs2⟩, by rw [e9]; exact measS (Nat.lt_succ_of_le HiB.out.2.2.2.2)⟩
    · have g1 : decide ((i : Int) ≤ ((m + 1 : Nat) : Int)) = false := decide_eq_false (fun h => hlt (Int.ofNat_le.1 h))
      have g1' : decide ((i : Int) ≤ (m : Int) + 1) = false := decide_eq_false (fun h => hlt (by omega))
      clear hlt hi him
      obtain ⟨e1, e2, e2', e3, e3', e4, e5, e6⟩ := HE.out
      go_wp2
      go_end0
      exact ⟨rfl, E, HP.out, Hs.out.row⟩
end
end Vc
end Go.Proofs.Ytabancgcokcfdaa
