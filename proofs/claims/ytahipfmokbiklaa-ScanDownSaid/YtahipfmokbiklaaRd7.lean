/-
  THE REFERENCE OF LAYER 14: Erase. (By gen/Rd7.gen.py.)
-/
import Derived.Test.YtahipfmokbiklaaRd6
namespace Go.Proofs.Ytahipfmokbiklaa
open Go.RowKit
open Go.Sort

/-- The states of a region whose last operation stores, m great ones ahead of it that write nothing. -/
def PhiT (w5 : World) (m : Nat) (p : Addr) (u : Value) (i : Nat) (_ : Nat → Value) (W : World) : Prop :=
  (i ≤ m ∧ Below w5.heap.size w5 W) ∨ (m + 1 ≤ i ∧ ∃ W0, Below w5.heap.size w5 W0 ∧ W = W0.setCell p u)
theorem PhiT.loc (w5 : World) (m : Nat) (p : Addr) (u : Value) : ∀ i f g W, (∀ t ∈ ([] : List Nat), f t = g t) → PhiT w5 m p u i f W → PhiT w5 m p u i g W := fun _ _ _ _ _ h => h
theorem PhiT.cell {w5 : World} {m : Nat} {p : Addr} {u : Value} {i : Nat} {f : Nat → Value} {W : World} (h : PhiT w5 m p u i f W) {a : Addr} {v : Value} (hp : a.block ≠ p.block) (hc : w5.cell? a = some v) : W.cell? a = some v := by
  rcases h with ⟨_, h⟩ | ⟨_, W0, h, rfl⟩
  · exact (h.cell (World.block_lt_of_cell? _ a hc)).trans hc
  · refine (World.cell?_setCell_other _ _ _ _ (fun e => hp ?_)).trans ((h.cell (World.block_lt_of_cell? _ a hc)).trans hc)
    exact (congrArg Addr.block e).symm
theorem PhiT.low {w5 : World} {m : Nat} {p : Addr} {u : Value} {i : Nat} {f : Nat → Value} {W : World} (hi : i ≤ m) (h : PhiT w5 m p u i f W) : Below w5.heap.size w5 W := by
  rcases h with ⟨_, h⟩ | ⟨h, _⟩
  · exact h
  · omega
theorem PhiT.top {w5 : World} {m : Nat} {p : Addr} {u : Value} {f : Nat → Value} {W : World} (h : PhiT w5 m p u (m + 1) f W) : ∃ W0, Below w5.heap.size w5 W0 ∧ W = W0.setCell p u := by
  rcases h with ⟨h, _⟩ | ⟨_, h⟩
  · omega
  · exact h
/-- The states of a page erased. -/
def PhiE (w5 : World) (o l : List UInt8) (rp I : Nat) (i : Nat) (f : Nat → Value) (W : World) : Prop :=
  (i ≤ 4 ∧ Below w5.heap.size w5 W ∧ (i = 2 → ∃ A c, f 98 = .slice A 256 c ∧ Lies W W.heap.size A (bys o)) ∧ (i = 3 → ∃ A c, f 100 = .slice A 256 c ∧ Lies W W.heap.size A (bys l))) ∨
    (5 ≤ i ∧ ∃ W0, Below w5.heap.size w5 W0 ∧ W = W0.setCell ⟨rp, I, none⟩ (.string (str l)))
theorem PhiE.loc (w5 : World) (o l : List UInt8) (rp I : Nat) : ∀ i f g W, (∀ t ∈ [98, 100], f t = g t) → PhiE w5 o l rp I i f W → PhiE w5 o l rp I i g W := by
  intro i f g W h hΦ
  have h1 := h 98 (by simp)
  have h2 := h 100 (by simp)
  unfold PhiE at *
  rw [← h1, ← h2]
  exact hΦ
theorem PhiE.cell {w5 : World} {o l : List UInt8} {rp I i : Nat} {f : Nat → Value} {W : World} (h : PhiE w5 o l rp I i f W) {p : Addr} {v : Value} (hp : p.block ≠ rp) (hc : w5.cell? p = some v) : W.cell? p = some v := by
  rcases h with ⟨_, h, _⟩ | ⟨_, W0, h, rfl⟩
  · exact (h.cell (World.block_lt_of_cell? _ p hc)).trans hc
  · refine (World.cell?_setCell_other _ _ _ _ (fun e => hp ?_)).trans ((h.cell (World.block_lt_of_cell? _ p hc)).trans hc)
    exact (congrArg Addr.block e).symm
theorem PhiE.at0 {w5 : World} {o l : List UInt8} {rp I i : Nat} {f : Nat → Value} {W : World} (hi : i ≤ 4) (h : PhiE w5 o l rp I i f W) : Below w5.heap.size w5 W := by
  rcases h with ⟨_, h, _⟩ | ⟨h, _⟩
  · exact h
  · omega
theorem PhiE.at2 {w5 : World} {o l : List UInt8} {rp I : Nat} {f : Nat → Value} {W : World} (h : PhiE w5 o l rp I 2 f W) : ∃ A c, f 98 = .slice A 256 c ∧ Lies W W.heap.size A (bys o) := by
  rcases h with ⟨_, _, h, _⟩ | ⟨h, _⟩
  · exact h rfl
  · exact absurd h (by decide)
theorem PhiE.at3 {w5 : World} {o l : List UInt8} {rp I : Nat} {f : Nat → Value} {W : World} (h : PhiE w5 o l rp I 3 f W) : ∃ A c, f 100 = .slice A 256 c ∧ Lies W W.heap.size A (bys l) := by
  rcases h with ⟨_, _, _, h⟩ | ⟨h, _⟩
  · exact h rfl
  · exact absurd h (by decide)
theorem firstF_kind : ∀ (l : List Flt) (a : Int), (firstF l a).1 = 0 ∨ (firstF l a).1 = 1 ∨ (firstF l a).1 = 2
  | [], _ => .inl rfl
  | f :: l, a => by
    unfold firstF
    split
    · rename_i h
      rw [Bool.and_eq_true] at h
      have := h.1
      unfold Flt.on at this
      rw [decide_eq_true_eq] at this
      exact .inr this.2
    · exact firstF_kind l a
/-- The pages of a block, erased up to K. -/
def erK (pg : Nat → List UInt8) (Z K : Nat) (m : List UInt8) : Nat → List UInt8 := fun q => if Z ≤ q ∧ q < K then erasL (pg q) m else pg q
theorem erK_zero (pg : Nat → List UInt8) (Z : Nat) (m : List UInt8) : erK pg Z Z m = pg := by funext q; unfold erK; rw [if_neg (by omega)]
theorem erK_at (pg : Nat → List UInt8) (Z K : Nat) (m : List UInt8) : erK pg Z K m K = pg K := by unfold erK; rw [if_neg (by omega)]
theorem erK_next (pg : Nat → List UInt8) (Z K : Nat) (m : List UInt8) (h : Z ≤ K) : upd (erK pg Z K m) K (erasL (pg K) m) = erK pg Z (K + 1) m := by
  funext q
  unfold upd
  by_cases e : q = K
  · subst e; rw [if_pos rfl]; unfold erK; rw [if_pos (by omega)]
  · rw [if_neg e]; unfold erK
    by_cases e2 : Z ≤ q ∧ q < K
    · rw [if_pos e2, if_pos (by omega)]
    · rw [if_neg e2, if_neg (by omega)]
theorem wew {z : Nat} (h : z < 1000000) : wrap64 ((z : Int) + 1) = ((z + 1 : Nat) : Int) ∧ IntKind.i64.wrap ((z : Int) + 1) = ((z + 1 : Nat) : Int) := by
  constructor
  · rw [i64w (by omega)]; rfl
  · rw [IntWalk.i64_in _ (by omega)]; rfl

section
variable {w : World} {B0 B : Nat} {q : Pn} {D : Dv} {r rp rn rw cp cn cw : Nat}
theorem rera_down (h : RefAt w B0 B q D r rp rn rw cp cn cw) (hd : D.dn = true) (x : Int) :
    Calls Try.prog 27 #[.pointer (some ⟨r, 0, none⟩), .int .i64 x] w fun e w' => e = .returned (.int .i64 9) ∧ w = w' := by
  have c9 : w.cell? ⟨r, 9, none⟩ = some (.bool D.dn) := h.c 9 _ rfl
  rw [hd] at c9
  clear h hd
  go_enter Try.func27, Try.ntmps27
  go_wp2
  go_ret
  exact ⟨rfl, rfl⟩
theorem rera_out (h : RefAt w B0 B q D r rp rn rw cp cn cw) (hd : D.dn = false) (x : Int) (hx : ¬ (0 ≤ x ∧ x < (D.nb : Int))) :
    Calls Try.prog 27 #[.pointer (some ⟨r, 0, none⟩), .int .i64 x] w fun e w' => e = .returned (.int .i64 3) ∧ w = w' := by
  have c9 : w.cell? ⟨r, 9, none⟩ = some (.bool D.dn) := h.c 9 _ rfl
  have c0 : w.cell? ⟨r, 0, none⟩ = some (.int .i64 D.g.b) := h.c 0 _ rfl
  rw [h.sides.2.2.2.2.1] at c0
  rw [hd] at c9
  clear h hd
  by_cases h1 : x < 0
  · clear hx
    go_enter Try.func27, Try.ntmps27
    go_wp2
    go_ret
    exact ⟨rfl, rfl⟩
  · have h2 : (D.nb : Int) ≤ x := by omega
    clear hx
    go_enter Try.func27, Try.ntmps27
    go_wp2
    go_ret
    exact ⟨rfl, rfl⟩
theorem rera_marked (h : RefAt w B0 B q D r rp rn rw cp cn cw) (hd : D.dn = false) (x : Nat) (hx : x < D.nb) (hm : D.bad x = true) :
    Calls Try.prog 27 #[.pointer (some ⟨r, 0, none⟩), .int .i64 (x : Int)] w fun e w' => e = .returned (.int .i64 12) ∧ w = w' := by
  have c9 : w.cell? ⟨r, 9, none⟩ = some (.bool D.dn) := h.c 9 _ rfl
  have c0 : w.cell? ⟨r, 0, none⟩ = some (.int .i64 D.g.b) := h.c 0 _ rfl
  have c3 : w.cell? ⟨r, 3, none⟩ = some (.slice q.A1 q.n1 q.c1) := h.c 3 _ rfl
  rw [h.sides.2.2.2.2.1] at c0
  rw [hd] at c9
  have FHs := has_any q.A1 q.n1 q.c1 B0 q.bl (x : Int) w h.plan.l1 h.plan.h1 (Nat.le_trans h.few.1 (by decide))
  rw [← h.bad x hx, hm] at FHs
  have h2 : ¬ ((D.nb : Int) ≤ (x : Int)) := by omega
  have h1 : ¬ ((x : Int) < 0) := by omega
  clear h hd hx hm
  go_enter Try.func27, Try.ntmps27
  go_wp2_with fail
  (with_reducible refine FHs.mono ?_)
  rintro e w2 ⟨rfl, rfl⟩
  go_wp2
  go_ret
  exact ⟨rfl, rfl⟩

set_option maxRecDepth 4000 in
set_option maxHeartbeats 8000000 in
theorem rera_ok (h : RefAt w B0 B q D r rp rn rw cp cn cw) (hB : B ≤ w.heap.size) (hd : D.dn = false) (x : Nat) (hx : x < D.nb) (hm : D.bad x = false) (hops : D.ops < 1000000) (hwe : D.we x < 1000000) (hpl : ∀ i, i < D.nb * D.np → (D.pg i).length = 256) :
    Calls Try.prog 27 #[.pointer (some ⟨r, 0, none⟩), .int .i64 (x : Int)] w fun e w' => e = .returned (.int .i64 D.err) ∧ RefAt w' B0 B q (D.erased x) r rp rn rw cp cn cw ∧ Tch [r, rp, rn, rw] w w' := by
  have c9 : w.cell? ⟨r, 9, none⟩ = some (.bool D.dn) := h.c 9 _ rfl
  have c0 : w.cell? ⟨r, 0, none⟩ = some (.int .i64 D.g.b) := h.c 0 _ rfl
  have c3 : w.cell? ⟨r, 3, none⟩ = some (.slice q.A1 q.n1 q.c1) := h.c 3 _ rfl
  obtain ⟨s1, s2, s3, s4, s5, s6⟩ := h.sides
  rw [s5] at c0
  rw [hd] at c9
  have FHs := has_any q.A1 q.n1 q.c1 B0 q.bl (x : Int) w h.plan.l1 h.plan.h1 (Nat.le_trans h.few.1 (by decide))
  rw [← h.bad x hx, hm] at FHs
  have h2 : ¬ ((D.nb : Int) ≤ (x : Int)) := by omega
  have h1 : ¬ ((x : Int) < 0) := by omega
  have Hxi := hide (show (x : Int) < (D.nb : Int) from Int.ofNat_lt.2 hx)
  have Hx := hide hx
  have FF := hide (fault_any h hB hops)
  have Hk := hide (show D.kind = 0 ∨ D.kind = 1 ∨ D.kind = 2 by unfold Dv.kind; rw [h.ft]; exact firstF_kind _ _)
  have Hwe := hide (wew hwe)
  obtain ⟨N, hN⟩ : ∃ N, N = D.nb * D.np := ⟨_, rfl⟩
  obtain ⟨Z, Z2, hZ, hZ2, hZle, hle, w1', w2', w3', hZb⟩ := erase_nums hx s2 hN (by rw [hN]; exact Nat.mul_le_mul s2 s4)
  have HN := hide hN
  have HZ := hide hZ
  have HZ2 := hide hZ2
  have HZle := hide hZle
  have Hle := hide hle
  have HZb := hide hZb
  have Hpl := hide hpl
  have S6 := hide s6
  have W1 := hide w1'
  have W2 := hide w2'
  have W3 := hide w3'
  have HB := hide hB
  clear h hd hx hm hops hwe hN hZ hZ2 hZle hle hZb hpl s1 s2 s3 s4 s5 s6 w1' w2' w3' hB
  go_enter Try.func27, Try.ntmps27
  go_wp2_with fail
  (with_reducible refine FHs.mono ?_)
  rintro e w2 ⟨rfl, rfl⟩
  clear FHs c3
  go_wp2_with fail
  (with_reducible refine FF.out.mono ?_)
  rintro e w4 ⟨A', m', c', l', rfl, hm', h300, hl', htk, hR4, hT4⟩
  have HR4 := hide hR4
  have HT4 : Hid (Tch [r, rp, rn, rw] w w4) := hide (hT4.mono (by simp))
  have HM4 := hide hl'
  have HM3 := hide h300
  have Hml := hide hm'
  have Htk := hide htk
  have HB4 := hide (Nat.le_trans HB.out hT4.size)
  have Hn := hide hR4.nes
  clear hR4 hT4 hl' h300 hm' htk FF c9 c0 h1 h2
  have C6 : Hid (w4.cell? ⟨r, 6, none⟩ = some (.slice (some ⟨rw, 0, none⟩) D.nb cw)) := hide (HR4.out.c 6 _ rfl)
  have CW : Hid (w4.cell? ⟨rw, x, none⟩ = some (.int .i64 (D.we x : Int))) := hide (HR4.out.wear.cell Hx.out)
  have hxi := Hxi.out
  have y1 := Hwe.out.1
  have y2 := Hwe.out.2
  obtain ⟨we1, hwe1⟩ : ∃ z, z = D.we x + 1 := ⟨_, rfl⟩
  have Hwe1 := hide hwe1
  rw [← hwe1] at y1 y2
  clear hwe1
  go_upto_region 8 with fail
  refine Big.wp_region_big (by kernel_rfl) (fun d v => match d with | 34 => v = .pointer (some ⟨r, 0, none⟩) | 35 => v = .pointer (some ⟨r, 0, none⟩) | 36 => v = .pointer (some ⟨r, 6, none⟩) | 37 => v = .slice (some ⟨rw, 0, none⟩) D.nb cw | 38 => v = .int .i64 (x : Int) | 39 => v = .pointer (some ⟨r, 0, none⟩) | 40 => v = .pointer (some ⟨r, 0, none⟩) | 41 => v = .pointer (some ⟨r, 6, none⟩) | 42 => v = .slice (some ⟨rw, 0, none⟩) D.nb cw | 43 => v = .int .i64 (x : Int) | 44 => v = .pointer (some ⟨rw, x, none⟩) | 45 => v = .int .i64 (D.we x : Int) | 46 => v = .int .i64 (we1 : Int) | 47 => v = .pointer (some ⟨rw, x, none⟩) | _ => True) (PhiT w4 1 ⟨rw, x, none⟩ (.int .i64 (we1 : Int))) [11, 14] [] (by kernel_rfl) (by kernel_rfl) (by decide) (PhiT.loc _ _ _ _) (Or.inl ⟨by decide, (Below.refl _ _).drew⟩) ⟨?_, ?_, ?_, ?_, ?_, ?_, ?_, ?_, ?_, ?_, ?_, ?_, ?_, ?_, ?_, trivial⟩ ?_
  · refine Big.small (by decide) ?_
    intro i' a' w' hi' hΦ h'
    have e0 : a'.tmps.getD 0 undef = .pointer (some ⟨r, 0, none⟩) := Big.sb h' 0 (by kernel_rfl) (by kernel_rfl) rfl
    exact .val (want0 rfl) rfl (by simp [Act.eval, e0, go_sem]) rfl
  · refine Big.small (by decide) ?_
    intro i' a' w' hi' hΦ h'
    have e34 : a'.tmps.getD 34 undef = .pointer (some ⟨r, 0, none⟩) := Big.sw h' 34 (by kernel_rfl) (by kernel_rfl)
    exact .val (want0 rfl) rfl (by simp [Act.eval, e34, go_sem]) rfl
  · refine Big.small (by decide) ?_
    intro i' a' w' hi' hΦ h'
    have e35 : a'.tmps.getD 35 undef = .pointer (some ⟨r, 0, none⟩) := Big.sw h' 35 (by kernel_rfl) (by kernel_rfl)
    exact .val (want0 rfl) rfl (by simp [Act.eval, e35, go_sem]) rfl
  · refine Big.small (by decide) ?_
    intro i' a' w' hi' hΦ h'
    have c6 := hΦ.cell Hn.out.2.2.1 C6.out
    have e36 : a'.tmps.getD 36 undef = .pointer (some ⟨r, 6, none⟩) := Big.sw h' 36 (by kernel_rfl) (by kernel_rfl)
    exact .val (want0 rfl) rfl (by simp [Act.eval, e36, c6, go_sem]) rfl
  · refine Big.small (by decide) ?_
    intro i' a' w' hi' hΦ h'
    have e1 : a'.tmps.getD 1 undef = .int .i64 (x : Int) := Big.sb h' 1 (by kernel_rfl) (by kernel_rfl) rfl
    exact .val (want0 rfl) rfl (by simp [Act.eval, e1, go_sem]) rfl
  · refine Big.small (by decide) ?_
    intro i' a' w' hi' hΦ h'
    have e0 : a'.tmps.getD 0 undef = .pointer (some ⟨r, 0, none⟩) := Big.sb h' 0 (by kernel_rfl) (by kernel_rfl) rfl
    exact .val (want0 rfl) rfl (by simp [Act.eval, e0, go_sem]) rfl
  · refine Big.small (by decide) ?_
    intro i' a' w' hi' hΦ h'
    have e39 : a'.tmps.getD 39 undef = .pointer (some ⟨r, 0, none⟩) := Big.sw h' 39 (by kernel_rfl) (by kernel_rfl)
    exact .val (want0 rfl) rfl (by simp [Act.eval, e39, go_sem]) rfl
  · refine Big.small (by decide) ?_
    intro i' a' w' hi' hΦ h'
    have e40 : a'.tmps.getD 40 undef = .pointer (some ⟨r, 0, none⟩) := Big.sw h' 40 (by kernel_rfl) (by kernel_rfl)
    exact .val (want0 rfl) rfl (by simp [Act.eval, e40, go_sem]) rfl
  · refine Big.small (by decide) ?_
    intro i' a' w' hi' hΦ h'
    have c6 := hΦ.cell Hn.out.2.2.1 C6.out
    have e41 : a'.tmps.getD 41 undef = .pointer (some ⟨r, 6, none⟩) := Big.sw h' 41 (by kernel_rfl) (by kernel_rfl)
    exact .val (want0 rfl) rfl (by simp [Act.eval, e41, c6, go_sem]) rfl
  · refine Big.small (by decide) ?_
    intro i' a' w' hi' hΦ h'
    have e1 : a'.tmps.getD 1 undef = .int .i64 (x : Int) := Big.sb h' 1 (by kernel_rfl) (by kernel_rfl) rfl
    exact .val (want0 rfl) rfl (by simp [Act.eval, e1, go_sem]) rfl
  · refine Big.small (by decide) ?_
    intro i' a' w' hi' hΦ h'
    have e42 : a'.tmps.getD 42 undef = .slice (some ⟨rw, 0, none⟩) D.nb cw := Big.sw h' 42 (by kernel_rfl) (by kernel_rfl)
    have e43 : a'.tmps.getD 43 undef = .int .i64 (x : Int) := Big.sw h' 43 (by kernel_rfl) (by kernel_rfl)
    exact .val (want0 rfl) rfl (by simp [Act.eval, e42, e43, hxi, go_sem]) rfl
  · refine Big.great (i := 0) rfl (by decide) ?_
    intro a' w' hsz' hΦ h'
    have hb' := hΦ.low (by decide)
    have e44 : a'.tmps.getD 44 undef = .pointer (some ⟨rw, x, none⟩) := Big.sw h' 44 (by kernel_rfl) (by kernel_rfl)
    have cc := (hb'.cell (World.block_lt_of_cell? _ _ CW.out)).trans CW.out
    exact .made (d := 45) (want0 rfl) rfl (by simp [Act.eval, e44, cc, go_sem]) rfl (.inl ⟨by decide, hb'⟩)
  · refine Big.small (by decide) ?_
    intro i' a' w' hi' hΦ h'
    have e45 : a'.tmps.getD 45 undef = .int .i64 (D.we x : Int) := Big.sw h' 45 (by kernel_rfl) (by kernel_rfl)
    exact .val (want0 rfl) rfl (by simp [Act.eval, e45, y1, y2, go_sem]) rfl
  · refine Big.small (by decide) ?_
    intro i' a' w' hi' hΦ h'
    have e37 : a'.tmps.getD 37 undef = .slice (some ⟨rw, 0, none⟩) D.nb cw := Big.sw h' 37 (by kernel_rfl) (by kernel_rfl)
    have e38 : a'.tmps.getD 38 undef = .int .i64 (x : Int) := Big.sw h' 38 (by kernel_rfl) (by kernel_rfl)
    exact .val (want0 rfl) rfl (by simp [Act.eval, e37, e38, hxi, go_sem]) rfl
  · refine Big.great (i := 1) rfl (by decide) ?_
    intro a' w' hsz' hΦ h'
    have hb' := hΦ.low (by decide)
    have e46 : a'.tmps.getD 46 undef = .int .i64 (we1 : Int) := Big.sw h' 46 (by kernel_rfl) (by kernel_rfl)
    have e47 : a'.tmps.getD 47 undef = .pointer (some ⟨rw, x, none⟩) := Big.sw h' 47 (by kernel_rfl) (by kernel_rfl)
    have cc := (hb'.cell (World.block_lt_of_cell? _ _ CW.out)).trans CW.out
    have cf := (HR4.out.wear.kept (hb'.block _ (HR4.out.wear.lt))).free x
    exact .stored (w' := w'.setCell ⟨rw, x, none⟩ (.int .i64 (we1 : Int))) (want0 rfl) rfl (by simp [Act.eval, e46, e47, cc, cf, go_sem]) (.inr ⟨by decide, w', hb', rfl⟩)
  · intro a' w' hdf hsz hwr hkp hΦ
    obtain ⟨W0, hb', rfl⟩ := hΦ.top
    have f34 : a'.tmps.getD 34 undef = .pointer (some ⟨r, 0, none⟩) := hwr 34 (by kernel_rfl)
    have f35 : a'.tmps.getD 35 undef = .pointer (some ⟨r, 0, none⟩) := hwr 35 (by kernel_rfl)
    have f36 : a'.tmps.getD 36 undef = .pointer (some ⟨r, 6, none⟩) := hwr 36 (by kernel_rfl)
    have f37 : a'.tmps.getD 37 undef = .slice (some ⟨rw, 0, none⟩) D.nb cw := hwr 37 (by kernel_rfl)
    have f38 : a'.tmps.getD 38 undef = .int .i64 (x : Int) := hwr 38 (by kernel_rfl)
    have f39 : a'.tmps.getD 39 undef = .pointer (some ⟨r, 0, none⟩) := hwr 39 (by kernel_rfl)
    have f40 : a'.tmps.getD 40 undef = .pointer (some ⟨r, 0, none⟩) := hwr 40 (by kernel_rfl)
    have f41 : a'.tmps.getD 41 undef = .pointer (some ⟨r, 6, none⟩) := hwr 41 (by kernel_rfl)
    have f42 : a'.tmps.getD 42 undef = .slice (some ⟨rw, 0, none⟩) D.nb cw := hwr 42 (by kernel_rfl)
    have f43 : a'.tmps.getD 43 undef = .int .i64 (x : Int) := hwr 43 (by kernel_rfl)
    have f44 : a'.tmps.getD 44 undef = .pointer (some ⟨rw, x, none⟩) := hwr 44 (by kernel_rfl)
    have f45 : a'.tmps.getD 45 undef = .int .i64 (D.we x : Int) := hwr 45 (by kernel_rfl)
    have f46 : a'.tmps.getD 46 undef = .int .i64 (we1 : Int) := hwr 46 (by kernel_rfl)
    have f47 : a'.tmps.getD 47 undef = .pointer (some ⟨rw, x, none⟩) := hwr 47 (by kernel_rfl)
    have hfr := Flo2.frame_eq [(34, .pointer (some ⟨r, 0, none⟩)), (35, .pointer (some ⟨r, 0, none⟩)), (36, .pointer (some ⟨r, 6, none⟩)), (37, .slice (some ⟨rw, 0, none⟩) D.nb cw), (38, .int .i64 (x : Int)), (39, .pointer (some ⟨r, 0, none⟩)), (40, .pointer (some ⟨r, 0, none⟩)), (41, .pointer (some ⟨r, 6, none⟩)), (42, .slice (some ⟨rw, 0, none⟩) D.nb cw), (43, .int .i64 (x : Int)), (44, .pointer (some ⟨rw, x, none⟩)), (45, .int .i64 (D.we x : Int)), (46, .int .i64 (we1 : Int)), (47, .pointer (some ⟨rw, x, none⟩))] a'.tmps _ hsz (by
      intro x hx
      simp only [List.mem_cons, List.not_mem_nil, or_false] at hx
      rcases hx with h | h | h | h | h | h | h | h | h | h | h | h | h | h <;> subst h
      · exact f34
      · exact f35
      · exact f36
      · exact f37
      · exact f38
      · exact f39
      · exact f40
      · exact f41
      · exact f42
      · exact f43
      · exact f44
      · exact f45
      · exact f46
      · exact f47) (fun t ht => hkp t (Flo3.writes_not _ _ (by kernel_rfl) ht))
    have ha := Flo3.act_ext hfr hdf
    have HR5 := hide ((HR4.out.below (hb'.mono HB4.out)).set_wear x we1)
    have HB5 : Hid (B ≤ (W0.setCell ⟨rw, x, none⟩ (.int .i64 (we1 : Int))).heap.size) := hide (by simpa [World.setCell] using Nat.le_trans HB4.out hb'.size)
    have HT5 : Hid (Tch [r, rp, rn, rw] w (W0.setCell ⟨rw, x, none⟩ (.int .i64 (we1 : Int)))) := hide ((HT4.out.trans (Tch.of_below hb')).trans (Tch.set (by simp) _))
    have HM5 := hide (fun W hW => HM4.out W (((Tch.of_below hb').trans (Tch.set (S := [r, rp, rn, rw]) (w := W0) (p := ⟨rw, x, none⟩) (by simp) (.int .i64 (we1 : Int)))).trans hW))
    clear hfr hwr hkp hsz hdf hb' hΦ f34 f35 f36 f37 f38 f39 f40 f41 f42 f43 f44 f45 f46 f47 HR4 HT4 HB4 HM4 C6 CW y1 y2
    subst ha
    simp only [Flo2.puts, List.foldl_cons, List.foldl_nil, List.setIfInBounds_toArray, List.set, Exit.then]
    generalize W0.setCell ⟨rw, x, none⟩ (.int .i64 (we1 : Int)) = w5 at *
    have c5 : w5.cell? ⟨r, 5, none⟩ = some (.slice (some ⟨rn, 0, none⟩) D.nb cn) := HR5.out.c 5 _ rfl
    have cx : w5.cell? ⟨rn, x, none⟩ = some (.int .i64 (D.nx x : Int)) := HR5.out.next.cell Hx.out
    have fx := HR5.out.next.free x
    have HR6 : Hid (RefAt (w5.setCell ⟨rn, x, none⟩ (.int .i64 0)) B0 B q { D with ops := D.ops + 1, we := upd D.we x we1, nx := upd D.nx x 0 } r rp rn rw cp cn cw) := hide (HR5.out.set_next x 0)
    have HB6 : Hid (B ≤ (w5.setCell ⟨rn, x, none⟩ (.int .i64 0)).heap.size) := hide (by simpa [World.setCell] using HB5.out)
    have HS6 := hide (Tch.set (S := [r, rp, rn, rw]) (w := w5) (p := ⟨rn, x, none⟩) (by simp) (.int .i64 0))
    go_upto_if 55 with fail
    clear c5 cx fx
    generalize w5.setCell ⟨rn, x, none⟩ (.int .i64 0) = w6 at *
    have HT6 := hide (HT5.out.trans HS6.out)
    have HM6 := hide (fun W hW => HM5.out W (HS6.out.trans hW))
    clear HR5 HB5 HT5 HM5 HS6
    go_cut [4] (fun s4 wx => s4 = .int .i64 0 ∧ RefAt wx B0 B q { D with ops := D.ops + 1, we := upd D.we x we1, nx := upd D.nx x (if D.err = 0 then 0 else D.np) } r rp rn rw cp cn cw ∧ B ≤ wx.heap.size ∧ Tch [r, rp, rn, rw] w6 wx)
    case first =>
      by_cases hk : D.kind = 0
      · have he : D.err = 0 := by unfold Dv.err; rw [hk]; rfl
        have hk0 : ¬ ((0 : Int) < D.kind) := by rw [hk]; decide
        clear hk
        go_wp2
        go_meet
        refine ⟨rfl, ?_, HB6.out, Tch.refl _ _⟩
        rw [if_pos he]
        exact HR6.out
      · have hk2 : (0 : Int) < D.kind := by rcases Hk.out with h | h | h <;> omega
        have he : ¬ D.err = 0 := by unfold Dv.err; rcases Hk.out with h | h | h; exact absurd h hk; all_goals (rw [h]; decide)
        have C5 : Hid (w6.cell? ⟨r, 5, none⟩ = some (.slice (some ⟨rn, 0, none⟩) D.nb cn)) := hide (HR6.out.c 5 _ rfl)
        have C1 : Hid (w6.cell? ⟨r, 1, none⟩ = some (.int .i64 (D.np : Int))) := hide (by rw [← S6.out]; exact HR6.out.c 1 _ rfl)
        have CX : Hid (w6.cell? ⟨rn, x, none⟩ = some (.int .i64 ((upd D.nx x 0 x : Nat) : Int))) := hide (HR6.out.next.cell Hx.out)
        clear hk
        go_upto_region 11 with fail
        refine Big.wp_region_big (by kernel_rfl) (fun d v => match d with | 56 => v = .pointer (some ⟨r, 0, none⟩) | 57 => v = .pointer (some ⟨r, 0, none⟩) | 58 => v = .pointer (some ⟨r, 5, none⟩) | 59 => v = .slice (some ⟨rn, 0, none⟩) D.nb cn | 60 => v = .int .i64 (x : Int) | 61 => v = .pointer (some ⟨r, 0, none⟩) | 62 => v = .pointer (some ⟨r, 0, none⟩) | 63 => v = .pointer (some ⟨r, 0, none⟩) | 64 => v = .pointer (some ⟨r, 1, none⟩) | 65 => v = .int .i64 (D.np : Int) | 66 => v = .pointer (some ⟨rn, x, none⟩) | _ => True) (PhiT w6 0 ⟨rn, x, none⟩ (.int .i64 (D.np : Int))) [11] [] (by kernel_rfl) (by kernel_rfl) (by decide) (PhiT.loc _ _ _ _) (Or.inl ⟨by decide, (Below.refl _ _).drew⟩) ⟨?_, ?_, ?_, ?_, ?_, ?_, ?_, ?_, ?_, ?_, ?_, ?_, trivial⟩ ?_
        · refine Big.small (by decide) ?_
          intro i' a' w' hi' hΦ h'
          have e0 : a'.tmps.getD 0 undef = .pointer (some ⟨r, 0, none⟩) := Big.sb h' 0 (by kernel_rfl) (by kernel_rfl) rfl
          exact .val (want0 rfl) rfl (by simp [Act.eval, e0, go_sem]) rfl
        · refine Big.small (by decide) ?_
          intro i' a' w' hi' hΦ h'
          have e56 : a'.tmps.getD 56 undef = .pointer (some ⟨r, 0, none⟩) := Big.sw h' 56 (by kernel_rfl) (by kernel_rfl)
          exact .val (want0 rfl) rfl (by simp [Act.eval, e56, go_sem]) rfl
        · refine Big.small (by decide) ?_
          intro i' a' w' hi' hΦ h'
          have e57 : a'.tmps.getD 57 undef = .pointer (some ⟨r, 0, none⟩) := Big.sw h' 57 (by kernel_rfl) (by kernel_rfl)
          exact .val (want0 rfl) rfl (by simp [Act.eval, e57, go_sem]) rfl
        · refine Big.small (by decide) ?_
          intro i' a' w' hi' hΦ h'
          have c5 := hΦ.cell Hn.out.2.1 C5.out
          have e58 : a'.tmps.getD 58 undef = .pointer (some ⟨r, 5, none⟩) := Big.sw h' 58 (by kernel_rfl) (by kernel_rfl)
          exact .val (want0 rfl) rfl (by simp [Act.eval, e58, c5, go_sem]) rfl
        · refine Big.small (by decide) ?_
          intro i' a' w' hi' hΦ h'
          have e1 : a'.tmps.getD 1 undef = .int .i64 (x : Int) := Big.sb h' 1 (by kernel_rfl) (by kernel_rfl) rfl
          exact .val (want0 rfl) rfl (by simp [Act.eval, e1, go_sem]) rfl
        · refine Big.small (by decide) ?_
          intro i' a' w' hi' hΦ h'
          have e0 : a'.tmps.getD 0 undef = .pointer (some ⟨r, 0, none⟩) := Big.sb h' 0 (by kernel_rfl) (by kernel_rfl) rfl
          exact .val (want0 rfl) rfl (by simp [Act.eval, e0, go_sem]) rfl
        · refine Big.small (by decide) ?_
          intro i' a' w' hi' hΦ h'
          have e61 : a'.tmps.getD 61 undef = .pointer (some ⟨r, 0, none⟩) := Big.sw h' 61 (by kernel_rfl) (by kernel_rfl)
          exact .val (want0 rfl) rfl (by simp [Act.eval, e61, go_sem]) rfl
        · refine Big.small (by decide) ?_
          intro i' a' w' hi' hΦ h'
          have e62 : a'.tmps.getD 62 undef = .pointer (some ⟨r, 0, none⟩) := Big.sw h' 62 (by kernel_rfl) (by kernel_rfl)
          exact .val (want0 rfl) rfl (by simp [Act.eval, e62, go_sem]) rfl
        · refine Big.small (by decide) ?_
          intro i' a' w' hi' hΦ h'
          have e63 : a'.tmps.getD 63 undef = .pointer (some ⟨r, 0, none⟩) := Big.sw h' 63 (by kernel_rfl) (by kernel_rfl)
          exact .val (want0 rfl) rfl (by simp [Act.eval, e63, go_sem]) rfl
        · refine Big.small (by decide) ?_
          intro i' a' w' hi' hΦ h'
          have c1 := hΦ.cell Hn.out.2.1 C1.out
          have e64 : a'.tmps.getD 64 undef = .pointer (some ⟨r, 1, none⟩) := Big.sw h' 64 (by kernel_rfl) (by kernel_rfl)
          exact .val (want0 rfl) rfl (by simp [Act.eval, e64, c1, go_sem]) rfl
        · refine Big.small (by decide) ?_
          intro i' a' w' hi' hΦ h'
          have e59 : a'.tmps.getD 59 undef = .slice (some ⟨rn, 0, none⟩) D.nb cn := Big.sw h' 59 (by kernel_rfl) (by kernel_rfl)
          have e60 : a'.tmps.getD 60 undef = .int .i64 (x : Int) := Big.sw h' 60 (by kernel_rfl) (by kernel_rfl)
          exact .val (want0 rfl) rfl (by simp [Act.eval, e59, e60, hxi, go_sem]) rfl
        · refine Big.great (i := 0) rfl (by decide) ?_
          intro a' w' hsz' hΦ h'
          have hb' := hΦ.low (by decide)
          have e65 : a'.tmps.getD 65 undef = .int .i64 (D.np : Int) := Big.sw h' 65 (by kernel_rfl) (by kernel_rfl)
          have e66 : a'.tmps.getD 66 undef = .pointer (some ⟨rn, x, none⟩) := Big.sw h' 66 (by kernel_rfl) (by kernel_rfl)
          have cc := (hb'.cell (World.block_lt_of_cell? _ _ CX.out)).trans CX.out
          have cf := (HR6.out.next.kept (hb'.block _ (HR6.out.next.lt))).free x
          exact .stored (w' := w'.setCell ⟨rn, x, none⟩ (.int .i64 (D.np : Int))) (want0 rfl) rfl (by simp [Act.eval, e65, e66, cc, cf, go_sem]) (.inr ⟨by decide, w', hb', rfl⟩)
        · intro a' w' hdf hsz hwr hkp hΦ
          obtain ⟨W0, hb', rfl⟩ := hΦ.top
          have f56 : a'.tmps.getD 56 undef = .pointer (some ⟨r, 0, none⟩) := hwr 56 (by kernel_rfl)
          have f57 : a'.tmps.getD 57 undef = .pointer (some ⟨r, 0, none⟩) := hwr 57 (by kernel_rfl)
          have f58 : a'.tmps.getD 58 undef = .pointer (some ⟨r, 5, none⟩) := hwr 58 (by kernel_rfl)
          have f59 : a'.tmps.getD 59 undef = .slice (some ⟨rn, 0, none⟩) D.nb cn := hwr 59 (by kernel_rfl)
          have f60 : a'.tmps.getD 60 undef = .int .i64 (x : Int) := hwr 60 (by kernel_rfl)
          have f61 : a'.tmps.getD 61 undef = .pointer (some ⟨r, 0, none⟩) := hwr 61 (by kernel_rfl)
          have f62 : a'.tmps.getD 62 undef = .pointer (some ⟨r, 0, none⟩) := hwr 62 (by kernel_rfl)
          have f63 : a'.tmps.getD 63 undef = .pointer (some ⟨r, 0, none⟩) := hwr 63 (by kernel_rfl)
          have f64 : a'.tmps.getD 64 undef = .pointer (some ⟨r, 1, none⟩) := hwr 64 (by kernel_rfl)
          have f65 : a'.tmps.getD 65 undef = .int .i64 (D.np : Int) := hwr 65 (by kernel_rfl)
          have f66 : a'.tmps.getD 66 undef = .pointer (some ⟨rn, x, none⟩) := hwr 66 (by kernel_rfl)
          have hfr := Flo2.frame_eq [(56, .pointer (some ⟨r, 0, none⟩)), (57, .pointer (some ⟨r, 0, none⟩)), (58, .pointer (some ⟨r, 5, none⟩)), (59, .slice (some ⟨rn, 0, none⟩) D.nb cn), (60, .int .i64 (x : Int)), (61, .pointer (some ⟨r, 0, none⟩)), (62, .pointer (some ⟨r, 0, none⟩)), (63, .pointer (some ⟨r, 0, none⟩)), (64, .pointer (some ⟨r, 1, none⟩)), (65, .int .i64 (D.np : Int)), (66, .pointer (some ⟨rn, x, none⟩))] a'.tmps _ hsz (by
            intro x hx
            simp only [List.mem_cons, List.not_mem_nil, or_false] at hx
            rcases hx with h | h | h | h | h | h | h | h | h | h | h <;> subst h
            · exact f56
            · exact f57
            · exact f58
            · exact f59
            · exact f60
            · exact f61
            · exact f62
            · exact f63
            · exact f64
            · exact f65
            · exact f66) (fun t ht => hkp t (Flo3.writes_not _ _ (by kernel_rfl) ht))
          have ha := Flo3.act_ext hfr hdf
          have HR7 := hide ((HR6.out.below (hb'.mono HB6.out)).set_next x D.np)
          have HB7 : Hid (B ≤ (W0.setCell ⟨rn, x, none⟩ (.int .i64 (D.np : Int))).heap.size) := hide (by simpa [World.setCell] using Nat.le_trans HB6.out hb'.size)
          have HT7 : Hid (Tch [r, rp, rn, rw] w6 (W0.setCell ⟨rn, x, none⟩ (.int .i64 (D.np : Int)))) := hide ((Tch.of_below hb').trans (Tch.set (by simp) _))
          clear hfr hwr hkp hsz hdf hb' hΦ f56 f57 f58 f59 f60 f61 f62 f63 f64 f65 f66 C5 C1 CX
          subst ha
          simp only [Flo2.puts, List.foldl_cons, List.foldl_nil, List.setIfInBounds_toArray, List.set, Exit.then]
          generalize W0.setCell ⟨rn, x, none⟩ (.int .i64 (D.np : Int)) = w7 at *
          go_wp2
          go_meet
          refine ⟨rfl, ?_, HB7.out, HT7.out⟩
          rw [if_neg he]
          have h := HR7.out
          rw [upd_upd] at h
          exact h
    case rest =>
      obtain ⟨rfl, hR, hB7, hT⟩ := hcut
      generalize wc = w7 at *
      have HM7 := hide (fun W hW => HM6.out W (hT.trans hW))
      have HT7 := hide (HT6.out.trans hT)
      have HB7 := hide hB7
      have HR7 := hide hR
      obtain ⟨nx2, hnx2⟩ : ∃ f, f = upd D.nx x (if D.err = 0 then 0 else D.np) := ⟨_, rfl⟩
      have Hnx := hide hnx2
      rw [← hnx2] at HR7
      have c1 : w7.cell? ⟨r, 1, none⟩ = some (.int .i64 (D.np : Int)) := by rw [← S6.out]; exact HR7.out.c 1 _ rfl
      have w1' := W1.out
      clear hR hB7 hT hnx2 HR6 HB6 HT6 HM6
      go_wp2
      clear c1 w1'
      go_loopw [7] (fun s7 wr => ∃ K : Nat, Z ≤ K ∧ K ≤ Z2 ∧ s7 = .int .i64 (K : Int) ∧ RefAt wr B0 B q { D with ops := D.ops + 1, we := upd D.we x we1, nx := nx2, pg := erK D.pg Z K D.mask } r rp rn rw cp cn cw ∧ B ≤ wr.heap.size ∧ Tch [r, rp, rn, rw] w7 wr) (fun s7 _ => Z2 - (intOf s7).toNat)
      case atStart =>
        refine ⟨Z, Nat.le_refl _, HZle.out, congrArg (Value.int .i64) W1.out, ?_, HB7.out, Tch.refl _ _⟩
        have h := HR7.out
        rw [erK_zero]
        exact h
      case round =>
        obtain ⟨K, hK1, hK2, rfl, hR, hBr, hT⟩ := hrel
        have HR := hide hR
        have HBr := hide hBr
        have HT := hide hT
        have HK1 := hide hK1
        have c1 : wr.cell? ⟨r, 1, none⟩ = some (.int .i64 (D.np : Int)) := by rw [← S6.out]; exact hR.c 1 _ rfl
        have w2' := W2.out
        have w3' := W3.out
        by_cases hlt : K < Z2
        · obtain ⟨hkz, hkn, hKN, e1⟩ := erase_round hlt Hle.out HZb.out
          have HKN := hide (HN.out ▸ hKN : K < D.nb * D.np)
          have Ho256 := hide (Hpl.out K HKN.out)
          have Hltk := hide hlt
          have C4 : Hid (wr.cell? ⟨r, 4, none⟩ = some (.slice (some ⟨rp, 0, none⟩) N cp)) := hide (by rw [HN.out]; exact hR.c 4 _ rfl)
          have CP : Hid (wr.cell? ⟨rp, K, none⟩ = some (.string (str (D.pg K)))) := hide (by have h := hR.pages.cell HKN.out; rw [show (({ D with ops := D.ops + 1, we := upd D.we x we1, nx := nx2, pg := erK D.pg Z K D.mask } : Dv).pg K) = D.pg K from erK_at _ _ _ _] at h; exact h)
          obtain ⟨o, ho⟩ : ∃ o, o = D.pg K := ⟨_, rfl⟩
          rw [← ho] at CP Ho256
          have Ho := hide ho
          obtain ⟨l, hl⟩ : ∃ l, l = erasL o l' := ⟨_, rfl⟩
          have Hl := hide hl
          have Hl256 := hide (show l.length = 256 by rw [hl, erasL_len]; exact Ho256.out)
          have HMr := hide (fun W hW => HM7.out W (hT.trans hW))
          clear hR hBr hT hK1 hK2 hlt hKN ho hl
          go_upto_region 15 with fail
          clear c1 w2' w3'
          refine Big.wp_region_big (by kernel_rfl) (fun d v => match d with | 86 => v = .pointer (some ⟨r, 0, none⟩) | 87 => v = .pointer (some ⟨r, 0, none⟩) | 88 => v = .pointer (some ⟨r, 4, none⟩) | 89 => v = .slice (some ⟨rp, 0, none⟩) N cp | 90 => v = .int .i64 (K : Int) | 91 => v = .pointer (some ⟨r, 0, none⟩) | 92 => v = .pointer (some ⟨r, 0, none⟩) | 93 => v = .pointer (some ⟨r, 4, none⟩) | 94 => v = .slice (some ⟨rp, 0, none⟩) N cp | 95 => v = .int .i64 (K : Int) | 96 => v = .pointer (some ⟨rp, K, none⟩) | 97 => v = .string (str o) | 98 => ∃ A c, v = .slice A 256 c | 99 => v = .slice A' m' c' | 100 => ∃ A c, v = .slice A 256 c | 101 => v = .string (str l) | 102 => v = .pointer (some ⟨rp, K, none⟩) | _ => True) (PhiE wr o l rp K) [11, 12, 14, 15, 17] [98, 100] (by kernel_rfl) (by kernel_rfl) (by decide) (PhiE.loc _ _ _ _ _) (Or.inl ⟨by decide, (Below.refl _ _).drew, fun h => absurd h (by decide), fun h => absurd h (by decide)⟩) ⟨?_, ?_, ?_, ?_, ?_, ?_, ?_, ?_, ?_, ?_, ?_, ?_, ?_, ?_, ?_, ?_, ?_, ?_, trivial⟩ ?_
          · refine Big.small (by decide) ?_
            intro i' a' w' hi' hΦ h'
            have e0 : a'.tmps.getD 0 undef = .pointer (some ⟨r, 0, none⟩) := Big.sb h' 0 (by kernel_rfl) (by kernel_rfl) rfl
            exact .val (want0 rfl) rfl (by simp [Act.eval, e0, go_sem]) rfl
          · refine Big.small (by decide) ?_
            intro i' a' w' hi' hΦ h'
            have e86 : a'.tmps.getD 86 undef = .pointer (some ⟨r, 0, none⟩) := Big.sw h' 86 (by kernel_rfl) (by kernel_rfl)
            exact .val (want0 rfl) rfl (by simp [Act.eval, e86, go_sem]) rfl
          · refine Big.small (by decide) ?_
            intro i' a' w' hi' hΦ h'
            have e87 : a'.tmps.getD 87 undef = .pointer (some ⟨r, 0, none⟩) := Big.sw h' 87 (by kernel_rfl) (by kernel_rfl)
            exact .val (want0 rfl) rfl (by simp [Act.eval, e87, go_sem]) rfl
          · refine Big.small (by decide) ?_
            intro i' a' w' hi' hΦ h'
            have c4 := hΦ.cell (p := ⟨r, 4, none⟩) Hn.out.1 C4.out
            have e88 : a'.tmps.getD 88 undef = .pointer (some ⟨r, 4, none⟩) := Big.sw h' 88 (by kernel_rfl) (by kernel_rfl)
            exact .val (want0 rfl) rfl (by simp [Act.eval, e88, c4, go_sem]) rfl
          · refine Big.small (by decide) ?_
            intro i' a' w' hi' hΦ h'
            have e7 : a'.tmps.getD 7 undef = .int .i64 (K : Int) := Big.sb h' 7 (by kernel_rfl) (by kernel_rfl) rfl
            exact .val (want0 rfl) rfl (by simp [Act.eval, e7, go_sem]) rfl
          · refine Big.small (by decide) ?_
            intro i' a' w' hi' hΦ h'
            have e0 : a'.tmps.getD 0 undef = .pointer (some ⟨r, 0, none⟩) := Big.sb h' 0 (by kernel_rfl) (by kernel_rfl) rfl
            exact .val (want0 rfl) rfl (by simp [Act.eval, e0, go_sem]) rfl
          · refine Big.small (by decide) ?_
            intro i' a' w' hi' hΦ h'
            have e91 : a'.tmps.getD 91 undef = .pointer (some ⟨r, 0, none⟩) := Big.sw h' 91 (by kernel_rfl) (by kernel_rfl)
            exact .val (want0 rfl) rfl (by simp [Act.eval, e91, go_sem]) rfl
          · refine Big.small (by decide) ?_
            intro i' a' w' hi' hΦ h'
            have e92 : a'.tmps.getD 92 undef = .pointer (some ⟨r, 0, none⟩) := Big.sw h' 92 (by kernel_rfl) (by kernel_rfl)
            exact .val (want0 rfl) rfl (by simp [Act.eval, e92, go_sem]) rfl
          · refine Big.small (by decide) ?_
            intro i' a' w' hi' hΦ h'
            have c4 := hΦ.cell (p := ⟨r, 4, none⟩) Hn.out.1 C4.out
            have e93 : a'.tmps.getD 93 undef = .pointer (some ⟨r, 4, none⟩) := Big.sw h' 93 (by kernel_rfl) (by kernel_rfl)
            exact .val (want0 rfl) rfl (by simp [Act.eval, e93, c4, go_sem]) rfl
          · refine Big.small (by decide) ?_
            intro i' a' w' hi' hΦ h'
            have e7 : a'.tmps.getD 7 undef = .int .i64 (K : Int) := Big.sb h' 7 (by kernel_rfl) (by kernel_rfl) rfl
            exact .val (want0 rfl) rfl (by simp [Act.eval, e7, go_sem]) rfl
          · refine Big.small (by decide) ?_
            intro i' a' w' hi' hΦ h'
            have e94 : a'.tmps.getD 94 undef = .slice (some ⟨rp, 0, none⟩) N cp := Big.sw h' 94 (by kernel_rfl) (by kernel_rfl)
            have e95 : a'.tmps.getD 95 undef = .int .i64 (K : Int) := Big.sw h' 95 (by kernel_rfl) (by kernel_rfl)
            exact .val (want0 rfl) rfl (by simp [Act.eval, e94, e95, hkn, go_sem]) rfl
          · refine Big.great (i := 0) rfl (by decide) ?_
            intro a' w' hsz' hΦ h'
            have hb' := hΦ.at0 (by decide)
            have e96 : a'.tmps.getD 96 undef = .pointer (some ⟨rp, K, none⟩) := Big.sw h' 96 (by kernel_rfl) (by kernel_rfl)
            have cp := (hb'.cell (World.block_lt_of_cell? _ _ CP.out)).trans CP.out
            exact .made (d := 97) (want0 rfl) rfl (by simp [Act.eval, e96, cp, go_sem]) rfl (.inl ⟨by decide, hb', fun h => absurd h (by decide), fun h => absurd h (by decide)⟩)
          · refine Big.great (i := 1) rfl (by decide) ?_
            intro a' w' hsz' hΦ h'
            have hb' := hΦ.at0 (by decide)
            have e97 : a'.tmps.getD 97 undef = .string (str o) := Big.sw h' 97 (by kernel_rfl) (by kernel_rfl)
            obtain ⟨c2, w6, hcv, hb2, hl2⟩ := strBytes w' o
            rw [Ho256.out] at hcv
            exact .made (d := 98) (v := .slice (some ⟨w'.heap.size, 0, none⟩) 256 c2) (w' := w6) (want0 rfl) rfl (by simp [Act.eval, e97, hcv, go_sem]) ⟨_, _, rfl⟩ (.inl ⟨by decide, hb'.trans (hb2.mono hb'.size), fun _ => ⟨_, _, Big.slots_put (by rw [hsz']; simp), hl2⟩, fun h => absurd h (by decide)⟩)
          · refine Big.small (by decide) ?_
            intro i' a' w' hi' hΦ h'
            have e6 : a'.tmps.getD 6 undef = .slice A' m' c' := Big.sb h' 6 (by kernel_rfl) (by kernel_rfl) rfl
            exact .val (want0 rfl) rfl (by simp [Act.eval, e6, go_sem]) rfl
          · refine Big.great (i := 2) rfl (by decide) ?_
            intro a' w' hsz' hΦ h'
            have hb' := hΦ.at0 (by decide)
            obtain ⟨A2, c2, e98, hl2⟩ := hΦ.at2
            have e98' : a'.tmps.getD 98 undef = .slice A2 256 c2 := e98
            have e99 : a'.tmps.getD 99 undef = .slice A' m' c' := Big.sw h' 99 (by kernel_rfl) (by kernel_rfl)
            refine .called (d := 100) (want0 rfl) rfl (by simp [Act.eval, e98', e99, go_sem]) ((wipe_any A2 A' 256 c2 m' c' w'.heap.size o l' w' hl2 Ho256.out.symm (HMr.out w' (Tch.of_below hb')) Hml.out (Nat.le_refl _) (by decide) (Nat.le_trans HM3.out (by decide))).mono ?_)
            rintro e w9 ⟨A3, c3, rfl, ho, hb9⟩
            rw [← Hl.out] at ho
            exact ⟨_, rfl, ⟨A3, c3, rfl⟩, .inl ⟨by decide, hb'.trans (hb9.mono hb'.size), fun h => absurd h (by decide), fun _ => ⟨A3, c3, Big.slots_put (by rw [hsz']; simp), Lies.of_own ho⟩⟩⟩
          · refine Big.great (i := 3) rfl (by decide) ?_
            intro a' w' hsz' hΦ h'
            have hb' := hΦ.at0 (by decide)
            obtain ⟨A3, c3, e100, hl3⟩ := hΦ.at3
            have e100' : a'.tmps.getD 100 undef = .slice A3 256 c3 := e100
            have hcv := strU8 c3 hl3 Hl256.out.symm
            exact .made (d := 101) (want0 rfl) rfl (by simp [Act.eval, e100', hcv, go_sem]) rfl (.inl ⟨by decide, hb', fun h => absurd h (by decide), fun h => absurd h (by decide)⟩)
          · refine Big.small (by decide) ?_
            intro i' a' w' hi' hΦ h'
            have e89 : a'.tmps.getD 89 undef = .slice (some ⟨rp, 0, none⟩) N cp := Big.sw h' 89 (by kernel_rfl) (by kernel_rfl)
            have e90 : a'.tmps.getD 90 undef = .int .i64 (K : Int) := Big.sw h' 90 (by kernel_rfl) (by kernel_rfl)
            exact .val (want0 rfl) rfl (by simp [Act.eval, e89, e90, hkn, go_sem]) rfl
          · refine Big.great (i := 4) rfl (by decide) ?_
            intro a' w' hsz' hΦ h'
            have hb' := hΦ.at0 (by decide)
            have e101 : a'.tmps.getD 101 undef = .string (str l) := Big.sw h' 101 (by kernel_rfl) (by kernel_rfl)
            have e102 : a'.tmps.getD 102 undef = .pointer (some ⟨rp, K, none⟩) := Big.sw h' 102 (by kernel_rfl) (by kernel_rfl)
            have cw := (hb'.cell (World.block_lt_of_cell? _ _ CP.out)).trans CP.out
            have cf := (HR.out.pages.kept (hb'.block _ (HR.out.pages.lt))).free K
            exact .stored (w' := w'.setCell ⟨rp, K, none⟩ (.string (str l))) (want0 rfl) rfl (by simp [Act.eval, e101, e102, cw, cf, go_sem]) (.inr ⟨by decide, w', hb', rfl⟩)
          · intro a' w' hdf hsz hwr hkp hΦ
            rcases hΦ with ⟨h, _⟩ | ⟨_, W0, hb', rfl⟩
            · exact absurd h (by decide)
            obtain ⟨v98, f98⟩ : ∃ v, a'.tmps.getD 98 undef = v := ⟨_, rfl⟩
            obtain ⟨v100, f100⟩ : ∃ v, a'.tmps.getD 100 undef = v := ⟨_, rfl⟩
            have f86 : a'.tmps.getD 86 undef = .pointer (some ⟨r, 0, none⟩) := hwr 86 (by kernel_rfl)
            have f87 : a'.tmps.getD 87 undef = .pointer (some ⟨r, 0, none⟩) := hwr 87 (by kernel_rfl)
            have f88 : a'.tmps.getD 88 undef = .pointer (some ⟨r, 4, none⟩) := hwr 88 (by kernel_rfl)
            have f89 : a'.tmps.getD 89 undef = .slice (some ⟨rp, 0, none⟩) N cp := hwr 89 (by kernel_rfl)
            have f90 : a'.tmps.getD 90 undef = .int .i64 (K : Int) := hwr 90 (by kernel_rfl)
            have f91 : a'.tmps.getD 91 undef = .pointer (some ⟨r, 0, none⟩) := hwr 91 (by kernel_rfl)
            have f92 : a'.tmps.getD 92 undef = .pointer (some ⟨r, 0, none⟩) := hwr 92 (by kernel_rfl)
            have f93 : a'.tmps.getD 93 undef = .pointer (some ⟨r, 4, none⟩) := hwr 93 (by kernel_rfl)
            have f94 : a'.tmps.getD 94 undef = .slice (some ⟨rp, 0, none⟩) N cp := hwr 94 (by kernel_rfl)
            have f95 : a'.tmps.getD 95 undef = .int .i64 (K : Int) := hwr 95 (by kernel_rfl)
            have f96 : a'.tmps.getD 96 undef = .pointer (some ⟨rp, K, none⟩) := hwr 96 (by kernel_rfl)
            have f97 : a'.tmps.getD 97 undef = .string (str o) := hwr 97 (by kernel_rfl)
            have f99 : a'.tmps.getD 99 undef = .slice A' m' c' := hwr 99 (by kernel_rfl)
            have f101 : a'.tmps.getD 101 undef = .string (str l) := hwr 101 (by kernel_rfl)
            have f102 : a'.tmps.getD 102 undef = .pointer (some ⟨rp, K, none⟩) := hwr 102 (by kernel_rfl)
            have hfr := Flo2.frame_eq [(86, .pointer (some ⟨r, 0, none⟩)), (87, .pointer (some ⟨r, 0, none⟩)), (88, .pointer (some ⟨r, 4, none⟩)), (89, .slice (some ⟨rp, 0, none⟩) N cp), (90, .int .i64 (K : Int)), (91, .pointer (some ⟨r, 0, none⟩)), (92, .pointer (some ⟨r, 0, none⟩)), (93, .pointer (some ⟨r, 4, none⟩)), (94, .slice (some ⟨rp, 0, none⟩) N cp), (95, .int .i64 (K : Int)), (96, .pointer (some ⟨rp, K, none⟩)), (97, .string (str o)), (98, v98), (99, .slice A' m' c'), (100, v100), (101, .string (str l)), (102, .pointer (some ⟨rp, K, none⟩))] a'.tmps _ hsz (by
              intro x hx
              simp only [List.mem_cons, List.not_mem_nil, or_false] at hx
              rcases hx with h | h | h | h | h | h | h | h | h | h | h | h | h | h | h | h | h <;> subst h
              · exact f86
              · exact f87
              · exact f88
              · exact f89
              · exact f90
              · exact f91
              · exact f92
              · exact f93
              · exact f94
              · exact f95
              · exact f96
              · exact f97
              · exact f98
              · exact f99
              · exact f100
              · exact f101
              · exact f102) (fun t ht => hkp t (Flo3.writes_not _ _ (by kernel_rfl) ht))
            have ha := Flo3.act_ext hfr hdf
            have HR8 := hide ((HR.out.below (hb'.mono HBr.out)).set_page K l)
            have HB8 : Hid (B ≤ (W0.setCell ⟨rp, K, none⟩ (.string (str l))).heap.size) := hide (by simpa [World.setCell] using Nat.le_trans HBr.out hb'.size)
            have HT8 : Hid (Tch [r, rp, rn, rw] w7 (W0.setCell ⟨rp, K, none⟩ (.string (str l)))) := hide ((HT.out.trans (Tch.of_below hb')).trans (Tch.set (by simp) _))
            clear hfr hwr hkp hsz hdf hb' f98 f100 f86 f87 f88 f89 f90 f91 f92 f93 f94 f95 f96 f97 f99 f101 f102 C4 CP HR HBr HT HMr hkn hkz
            subst ha
            simp only [Flo2.puts, List.foldl_cons, List.foldl_nil, List.setIfInBounds_toArray, List.set, Exit.then]
            generalize W0.setCell ⟨rp, K, none⟩ (.string (str l)) = w8 at *
            go_wp2
            refine ⟨⟨K + 1, Nat.le_succ_of_le HK1.out, Nat.succ_le_of_lt Hltk.out, congrArg (Value.int .i64) e1, ?_, HB8.out, HT8.out⟩, by rw [e1]; exact meas Hltk.out⟩
            have h := HR8.out
            rw [Hl.out, Ho.out, ← erasL_take _ l' (by rw [← Ho.out]; exact Ho256.out), Htk.out] at h
            rw [show ({ D with ops := D.ops + 1, we := upd D.we x we1, nx := nx2, pg := erK D.pg Z K D.mask } : Dv).pg = erK D.pg Z K D.mask from rfl, erK_next _ _ _ _ HK1.out] at h
            exact h
        · obtain rfl : K = Z2 := Nat.le_antisymm hK2 (Nat.le_of_not_lt hlt)
          have HE := end_any hR D.kind
          obtain ⟨ev, hev⟩ : ∃ ev, ev = (if D.kind = 1 then (10 : Int) else if D.kind = 2 then 9 else 0) := ⟨_, rfl⟩
          rw [← hev] at HE
          have Hev := hide (show D.err = ev from hev.symm)
          have hkk : ¬ ((K : Int) < (K : Int)) := Int.lt_irrefl _
          clear hev hR hBr hT hK1 hK2 hlt
          go_wp2_with fail
          (with_reducible refine HE.mono ?_)
          rintro e w8 ⟨rfl, hR8, hT8⟩
          have HR8 := hide hR8
          have HT8 := hide ((HT7.out.trans HT.out).trans (hT8.mono (S' := [r, rp, rn, rw]) (by simp)))
          clear HE hR8 hT8
          go_wp2
          go_ret
          refine ⟨by first | rfl | (rw [Hev.out]; rfl), ?_, HT8.out⟩
          have hg : D.erased x = { D with ops := D.ops + 1, we := upd D.we x we1, nx := nx2, pg := erK D.pg Z K D.mask, dn := if D.kind = 1 then D.dn else if D.kind = 2 then true else D.dn } := by
            rw [Hwe1.out, Hnx.out]
            unfold Dv.erased Dv.begun Dv.erpg erK
            rw [HZ2.out, HZ.out]
          rw [hg]
          exact HR8.out
end
end Go.Proofs.Ytahipfmokbiklaa
