/-
  LAYER 20, THE REFERENCE: In, Other, Can, Places.
-/
import Derived.Test.YtofokljhlcdebaaPkT
import Derived.Test.YtofokljhlcdebaaPkD
import Derived.Lib.QuietBelow
namespace Go.Proofs.Ytofokljhlcdebaa
open Go.RowKit
set_option maxRecDepth 8000

set_option maxHeartbeats 4000000 in
theorem in20_any (A : Option Addr) (n c B : Nat) (L : List Pl2) (b : Int) (w : World) (hl : Lies w B A (rowQ L)) (hn : n = L.length) (hbig : n ≤ 1000) :
    Calls Try.prog 19 #[.slice A n c, .int .i64 b] w fun e w' => e = .returned (.bool (decide (b ∈ L.map Prod.fst))) ∧ w = w' := by
  have Hl := hide hl
  have Hn := hide hn
  have Hbig := hide hbig
  obtain ⟨R, hR⟩ : ∃ R, R = decide (b ∈ L.map Prod.fst) := ⟨_, rfl⟩
  rw [← hR]
  have HR := hide hR
  clear hl hn hR hbig
  go_enter Try.func19, Try.ntmps19
  go_wp2
  go_loop [5] (fun i => ∃ j : Nat, j ≤ n ∧ i = .int .i64 (j : Int) ∧ Hid (R = decide (b ∈ (L.drop j).map Prod.fst))) (fun i => n - (intOf i).toNat)
  case atStart => exact ⟨0, Nat.zero_le _, rfl, hide (by rw [HR.out]; rfl)⟩
  case round =>
    obtain ⟨j, hj, rfl, hd⟩ := hrel
    by_cases hlt : j < n
    · have hjl : j < L.length := by rw [← Hn.out]; exact hlt
      have hlt' : (j : Int) < (n : Int) := by omega
      obtain ⟨a, rfl, hab, hca⟩ := Hl.out.elem plc_len hjl (by decide)
      have Hd := hide (List.drop_eq_getElem_cons hjl)
      have e1 : wrap64 ((j : Int) + 1) = ((j + 1 : Nat) : Int) := by have := Hbig.out; unfold wrap64; omega
      generalize L[j] = u at *
      rcases u with ⟨ux, uy⟩
      have c0 : w.cell? (a.add (j * 2)) = some (.int .i64 ux) := hca 0 _ rfl
      clear hjl hca
      by_cases hz : ux = b
      · subst hz
        have hR2 : R = true := by rw [hd.out, Hd.out]; simp
        go_wp2
        go_ret
        exact ⟨by first | rfl | exact ret_bool hR2.symm, rfl⟩
      · have hb : (ux == b) = false := beq_eq_false_iff_ne.2 hz
        have Hnew := hide (show R = decide (b ∈ (L.drop (j + 1)).map Prod.fst) by rw [hd.out, Hd.out]; exact decide_eq_decide.2 (by simp [Ne.symm hz]))
        go_wp2
        go_round
        case rel => exact ⟨j + 1, hlt, congrArg (Value.int .i64) e1, Hnew⟩
        case measure => first | exact measT hlt | exact measT2 e1 hlt
    · obtain rfl : j = n := by omega
      have hR2 : R = false := by rw [hd.out, List.drop_eq_nil_of_le (by rw [Hn.out]; exact Nat.le_refl _)]; rfl
      go_wp2
      go_ret
      exact ⟨by first | rfl | exact ret_bool hR2.symm, rfl⟩
end Go.Proofs.Ytofokljhlcdebaa
