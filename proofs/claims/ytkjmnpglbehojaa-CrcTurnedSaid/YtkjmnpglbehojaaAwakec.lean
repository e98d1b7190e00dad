/-
  'awake' of layer 3.
-/
import Derived.Test.YtkjmnpglbehojaaRef3
import Derived.Lib.SlBytesConst
namespace Go.Proofs.Ytkjmnpglbehojaa
open Go.RowKit

theorem digits_short : shortOf 0 [49, 50, 51, 52, 53, 54, 55, 56, 57] = 36974 := by decide +kernel
theorem digits_long : longOf 0 [49, 50, 51, 52, 53, 54, 55, 56, 57] = 3808858755 := by decide +kernel

set_option maxHeartbeats 400000 in
theorem awake3_any (w : World) : Calls Try.prog 6 #[] w fun e w' => e = .returned (.bool true) ∧ Below w.heap.size w w' := by
  have ec := Lib.run_convert_bytes_const (P := Try.prog) w 22 5 #[.int .u8 49, .int .u8 50, .int .u8 51, .int .u8 52, .int .u8 53, .int .u8 54, .int .u8 55, .int .u8 56, .int .u8 57] 9 9 Try.underlying22 Try.underlying5
  go_enter Try.func6, Try.ntmps6
  go_wp2_with fail
  have fp := short_any (some ⟨w.heap.size, 0, none⟩) 9 9 (w.heap.size + 1) [49, 50, 51, 52, 53, 54, 55, 56, 57] (w.alloc (.cells #[.int .u8 49, .int .u8 50, .int .u8 51, .int .u8 52, .int .u8 53, .int .u8 54, .int .u8 55, .int .u8 56, .int .u8 57] 5 (9, 10)))
    (Lies.fresh w [49, 50, 51, 52, 53, 54, 55, 56, 57] 5 (9, 10) _ rfl w.heap.size _ rfl (by omega)) (by simp) rfl (by omega)
  rw [digits_short] at fp
  (with_reducible refine fp.mono ?_)
  clear fp
  rintro e w1 ⟨rfl, hb1⟩
  have Hl := hide ((Lies.fresh w [49, 50, 51, 52, 53, 54, 55, 56, 57] 5 (9, 10) #[.int .u8 49, .int .u8 50, .int .u8 51, .int .u8 52, .int .u8 53, .int .u8 54, .int .u8 55, .int .u8 56, .int .u8 57] rfl w.heap.size (w.heap.size + 1) rfl (by omega)).below (hb1.mono (by simp)))
  have Hb1 := hide (((Below.refl w.heap.size w).alloc (Nat.le_refl _) _).trans (hb1.mono (by simp)))
  have hz1 := hb1.size
  simp only [World.size_alloc] at hz1
  clear hb1
  go_wp2_with fail
  have fp := long_any (some ⟨w.heap.size, 0, none⟩) 9 9 (w.heap.size + 1) [49, 50, 51, 52, 53, 54, 55, 56, 57] w1 Hl.out (by omega) rfl (by omega)
  rw [digits_long] at fp
  (with_reducible refine fp.mono ?_)
  clear fp
  rintro e w2 ⟨rfl, hb2⟩
  have Hl2 := hide (Hl.out.below (hb2.mono hz1))
  have Hb2 := hide (Hb1.out.trans (hb2.mono (by omega)))
  have hz2 := hb2.size
  clear hb2 Hb1 Hl
  go_wp2_with fail
  have fp := width_any 1 w2
  rw [show widthOf 1 = 2 by decide] at fp
  (with_reducible refine fp.mono ?_)
  clear fp
  rintro e w3 ⟨rfl, rfl⟩
  go_wp2_with fail
  have fp := width_any 2 w2
  rw [show widthOf 2 = 4 by decide] at fp
  (with_reducible refine fp.mono ?_)
  clear fp
  rintro e w3 ⟨rfl, rfl⟩
  go_wp2_with fail
  have fp := of_any 3 (some ⟨w.heap.size, 0, none⟩) 9 9 (w.heap.size + 1) [49, 50, 51, 52, 53, 54, 55, 56, 57] w2 Hl2.out (by omega) rfl (by omega)
  rw [show sumOf 3 [49, 50, 51, 52, 53, 54, 55, 56, 57] = 0 by rfl] at fp
  (with_reducible refine fp.mono ?_)
  clear fp
  rintro e w3 ⟨rfl, hb3⟩
  have Hb3 := hide (Hb2.out.trans (hb3.mono (by omega)))
  clear hb3
  go_wp2
  go_ret
  exact ⟨rfl, Hb3.out⟩

end Go.Proofs.Ytkjmnpglbehojaa
