/-
  LAYER 21, CONTRACTS: the function that tells which of two blocks is put ahead; slices.MinFunc at int; first, Least, Most.
-/
import Derived.Test.YtpepifbdndcbjaaWrA
import Derived.Shelf.Abstract
namespace Go.Proofs.Ytpepifbdndcbjaa
open Go.RowKit
set_option maxRecDepth 8000

theorem Addr.add_block21 (a : Addr) (i : Nat) : (a.add i).block = a.block := by unfold Addr.add; split <;> rfl
theorem orW_two (x y : Int) : orW [x, y] = orY x y := by
  unfold orW orW orW orY
  by_cases h : x = 0
  · by_cases h2 : y = 0 <;> simp [h, h2]
  · simp [h]
set_option maxHeartbeats 4000000 in
theorem min21 (g : Nat) (lb : Array Value) (eg : ∀ args w, (callFunc g args).run Try.prog w = .ok (.enter g args) w) (A : Option Addr) (n c B : Nat) (l : List Int) (cf : Int → Int → Int) (w : World) (h : Lies w B A (nums .i64 l)) (hn : n = l.length) (h0 : 0 < n) (hB : B ≤ w.heap.size) (hbig : n ≤ 1000000)
    (hp : ∀ W, Below w.heap.size w W → ∀ x y, Calls Try.prog g (#[.int .i64 x, .int .i64 y] ++ lb) W fun e w' => e = .returned (.int .i64 (cf x y)) ∧ Below W.heap.size W w') :
    Calls Try.prog 28 #[.slice A n c, .func (.func g) #[] lb] w fun e w' => e = .returned (.int .i64 (bstZ (fun a b => decide (cf a b < 0)) l)) ∧ Below w.heap.size w w' := by
  have Hl := hide h
  have Hn := hide hn
  have Hp := hide hp
  have Hbig := hide hbig
  have H0 := hide h0
  have HB := hide hB
  obtain ⟨R, hR⟩ : ∃ R, bstZ (fun a b => decide (cf a b < 0)) l = R := ⟨_, rfl⟩
  rw [hR]
  have HR := hide hR
  obtain ⟨a0, ha0, _, hc0⟩ := h.num (i := 0) (by omega)
  subst ha0
  have hc00 : w.cell? a0 = some (.int .i64 (l.getD 0 0)) := by simpa [Addr.add] using hc0
  have g0 : decide ((n : Int) < 1) = false := decide_eq_false (by omega)
  have S0 : Hid (pickZ (fun a b => decide (cf a b < 0)) l 0 = l.getD 0 0) := hide rfl
  generalize l.getD 0 0 = u0 at *
  clear h hn hp hbig h0 hB hR
  go_enter Try.func28, Try.ntmps28
  go_wp2
  go_loopw [5, 6] (fun m i wr => ∃ k : Nat, k < n ∧ m = .int .i64 (pickZ (fun a b => decide (cf a b < 0)) l k) ∧ i = .int .i64 ((k + 1 : Nat) : Int) ∧ Hid (Below w.heap.size w wr)) (fun _ i _ => n - (intOf i).toNat)
  case atStart => exact ⟨0, H0.out, congrArg (Value.int .i64) S0.out.symm, rfl, hide (Below.refl _ w)⟩
  case round =>
    clear S0 hc0 hc00
    obtain ⟨k, hk, rfl, rfl, Hbw⟩ := hrel
    by_cases hlt : k + 1 < n
    · have hlt' : ((k + 1 : Nat) : Int) < (n : Int) := by omega
      have hkl : k + 1 < l.length := by rw [← Hn.out]; exact hlt
      have e7 : wrap64 (((k + 1 : Nat) : Int) + 1) = ((k + 1 + 1 : Nat) : Int) := by have := Hbig.out; unfold wrap64; omega
      have Hnx : Hid (pickZ (fun a b => decide (cf a b < 0)) l (k + 1) = if decide (cf (l.getD (k + 1) 0) (pickZ (fun a b => decide (cf a b < 0)) l k) < 0) = true then l.getD (k + 1) 0 else pickZ (fun a b => decide (cf a b < 0)) l k) := hide rfl
      obtain ⟨a, ha, hab, hca⟩ := (Hl.out.below (Hbw.out.mono HB.out)).num (i := k + 1) hkl
      obtain rfl : a0 = a := by injection ha
      have Hab := hide hab
      clear hab
      have hcall := Hp.out wr Hbw.out (l.getD (k + 1) 0) (pickZ (fun a b => decide (cf a b < 0)) l k)
      generalize l.getD (k + 1) 0 = x at *
      generalize pickZ (fun a b => decide (cf a b < 0)) l k = m at *
      generalize hz : cf x m = z at *
      clear hkl hz
      generalize hK : k + 1 = K at *
      have HK := hide hK
      clear hK ha hk
      by_cases hneg : z < 0
      · have gz : decide (z < 0) = true := decide_eq_true hneg
        have Hm : Hid (pickZ (fun a b => decide (cf a b < 0)) l K = x) := hide (by rw [Hnx.out, if_pos gz])
        clear Hnx hneg
        go_wp2_with fail
        (go_at_fn g; refine hcall.mono ?_; rintro e w2 ⟨rfl, hb⟩)
        have HW := hide (Hbw.out.trans (hb.mono Hbw.out.size))
        have hca2 : w2.cell? (a0.add K) = some (.int .i64 x) := (hb.cell (by rw [Addr.add_block21]; have := Hab.out; have := Hbw.out.size; have := HB.out; omega)).trans hca
        clear hcall hb hca Hbw
        go_wp2
        go_roundw
        case rel => exact ⟨K, hlt, congrArg (Value.int .i64) Hm.out.symm, congrArg (Value.int .i64) e7, HW⟩
        case measure => first | exact measT hlt | exact measT2 e7 hlt
      · have gz : decide (z < 0) = false := decide_eq_false hneg
        have Hm : Hid (pickZ (fun a b => decide (cf a b < 0)) l K = m) := hide (by rw [Hnx.out, if_neg (by rw [gz]; decide)])
        clear Hnx hneg
        go_wp2_with (first | (go_at_fn g; refine hcall.mono ?_; rintro e w2 ⟨rfl, hb⟩))
        have HW := hide (Hbw.out.trans (hb.mono Hbw.out.size))
        go_roundw
        case rel => exact ⟨K, hlt, congrArg (Value.int .i64) Hm.out.symm, congrArg (Value.int .i64) e7, HW⟩
        case measure => first | exact measT hlt | exact measT2 e7 hlt
    · have hlt' : ¬ ((k + 1 : Nat) : Int) < (n : Int) := by omega
      have hk2 : pickZ (fun a b => decide (cf a b < 0)) l k = R := by rw [← HR.out]; unfold bstZ; rw [← Hn.out, show n - 1 = k by omega]
      rw [hk2]
      go_wp2
      go_ret
      exact ⟨rfl, Hbw.out⟩
end Go.Proofs.Ytpepifbdndcbjaa
