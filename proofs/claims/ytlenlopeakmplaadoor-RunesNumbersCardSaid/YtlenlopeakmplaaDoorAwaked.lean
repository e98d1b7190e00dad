/-
  LAYER 4's awake, walked.
-/
import Derived.Test.YtlenlopeakmplaaDoorBack
import Derived.Test.YtlenlopeakmplaaDoorRun3
namespace Go.Proofs.YtlenlopeakmplaaDoor
open Go.RowKit

theorem esc_ex : esc [97, 32, 92] = [97, 92, 50, 48, 46, 92, 53, 99, 46] := by decide +kernel
theorem itoa_ex1 : Lib.itoa (-12) = [45, 49, 50] := by decide +kernel
theorem itoa_ex2 : Lib.itoa 305 = [51, 48, 53] := by decide +kernel
theorem count_ex : (runes [97, 195, 169]).length = 2 := by decide +kernel
theorem words_ex : spl 32 9 true [] [32, 97, 32, 32, 98] = [[97], [98]] := by decide +kernel
theorem plain_ex : plainB [120] = true := by decide +kernel
theorem right_ex : rightB [195, 169] = true := by decide +kernel


set_option maxHeartbeats 4000000 in
set_option maxRecDepth 1000000 in
theorem awake_run (w : World) (hR : Ready w) : Calls Tryd.prog 7 #[] w fun e w' => e = .returned (.bool true) ∧ Below w.heap.size w w' := by
  have hRs := hR.size
  have hBack : ∀ W, Below w.heap.size w W → Calls Tryd.prog 19 #[.string ⟨#[97, 92, 50, 48, 46, 92, 53, 99, 46]⟩] W fun e W' => e = .returned (.tuple #[.string ⟨#[97, 32, 92]⟩, .int .i64 0]) ∧ Below w.heap.size w W' := fun W hW =>
    (back_run ⟨#[97, 92, 50, 48, 46, 92, 53, 99, 46]⟩ W (hR.below hW hRs) (by decide)).mono fun e W' ⟨he, hb⟩ => ⟨by
      have hv : backO (⟨#[97, 92, 50, 48, 46, 92, 53, 99, 46]⟩ : ByteArray).data.toList = some [97, 32, 92] := by
        show backO [97, 92, 50, 48, 46, 92, 53, 99, 46] = _
        rw [← esc_ex]; exact back_esc _
      rw [hv] at he
      exact he, hW.trans (hb.mono hW.size)⟩
  have hNum : ∀ W, Below w.heap.size w W → Calls Tryd.prog 22 #[.string ⟨#[45, 49, 50]⟩] W fun e W' => e = .returned (.tuple #[.int .i64 (-12), .bool true]) ∧ Below w.heap.size w W' := fun W hW =>
    (number_run ⟨#[45, 49, 50]⟩ W (hR.below hW hRs) (by decide)).mono fun e W' ⟨he, hb⟩ => ⟨by
      have hv : numberO (⟨#[45, 49, 50]⟩ : ByteArray).data.toList = some (-12) := by
        show numberO [45, 49, 50] = _
        rw [← itoa_ex1]; exact number_itoa _ (by decide) (by decide)
      rw [hv] at he
      exact he, hW.trans (hb.mono hW.size)⟩
  have hEsc : ∀ W, Below w.heap.size w W → Calls Tryd.prog 18 #[.string ⟨#[97, 32, 92]⟩] W fun e W' => e = .returned (.string ⟨#[97, 92, 50, 48, 46, 92, 53, 99, 46]⟩) ∧ Below w.heap.size w W' := fun W hW =>
    (escape_run ⟨#[97, 32, 92]⟩ W (hR.below hW hRs) (by decide)).mono fun e W' ⟨he, hb⟩ => ⟨by
      have hv : esc (⟨#[97, 32, 92]⟩ : ByteArray).data.toList = [97, 92, 50, 48, 46, 92, 53, 99, 46] := esc_ex
      rw [hv] at he
      exact he, hW.trans (hb.mono hW.size)⟩
  have hDig : ∀ W, Below w.heap.size w W → Calls Tryd.prog 21 #[.int .i64 305] W fun e W' => e = .returned (.string ⟨#[51, 48, 53]⟩) ∧ Below w.heap.size w W' := fun W hW =>
    (digits_run 305 W (hR.below hW hRs) (by decide) (by decide)).mono fun e W' ⟨he, hb⟩ => ⟨by rw [itoa_ex2] at he; exact he, hW.trans (hb.mono hW.size)⟩
  have hCnt : ∀ W, Below w.heap.size w W → Calls Tryd.prog 12 #[.string ⟨#[97, 195, 169]⟩] W fun e W' => e = .returned (.int .i64 2) ∧ Below w.heap.size w W' := fun W hW =>
    (count_run ⟨#[97, 195, 169]⟩ W (by decide)).mono fun e W' ⟨he, hb⟩ => ⟨by
      have hv : (runes (⟨#[97, 195, 169]⟩ : ByteArray).data.toList).length = 2 := count_ex
      rw [hv] at he
      exact he, hW.trans (hb.mono hW.size)⟩
  have hWrd : ∀ W, Below w.heap.size w W → Calls Tryd.prog 15 #[.string ⟨#[32, 97, 32, 32, 98]⟩] W fun e W' => ∃ A c, e = .returned (.slice A 2 c) ∧ Lies W' W'.heap.size A (strs [[97], [98]]) ∧ Below w.heap.size w W' := fun W hW =>
    (words_run ⟨#[32, 97, 32, 32, 98]⟩ W (by decide)).mono fun e W' ⟨A, c, he, hl, hb⟩ => by
      have hv : spl 32 9 true [] (⟨#[32, 97, 32, 32, 98]⟩ : ByteArray).data.toList = [[97], [98]] := words_ex
      rw [hv] at he hl
      exact ⟨A, c, he, hl, hW.trans (hb.mono hW.size)⟩
  have hPla : ∀ W, Below w.heap.size w W → Calls Tryd.prog 11 #[.string ⟨#[120]⟩] W fun e W' => e = .returned (.bool true) ∧ Below w.heap.size w W' := fun W hW =>
    (plainB_run ⟨#[120]⟩ W).mono fun e W' ⟨he, hb⟩ => ⟨by
      have hv : plainB (⟨#[120]⟩ : ByteArray).data.toList = true := plain_ex
      rw [hv] at he
      exact he, hW.trans (hb.mono hW.size)⟩
  have hRig : ∀ W, Below w.heap.size w W → Calls Tryd.prog 10 #[.string ⟨#[195, 169]⟩] W fun e W' => e = .returned (.bool true) ∧ Below w.heap.size w W' := fun W hW =>
    (right_run ⟨#[195, 169]⟩ W).mono fun e W' ⟨he, hb⟩ => ⟨by
      have hv : rightB (⟨#[195, 169]⟩ : ByteArray).data.toList = true := right_ex
      rw [hv] at he
      exact he, hW.trans (hb.mono hW.size)⟩
  have hTxt : ∀ W A c, Below w.heap.size w W → Lies W W.heap.size A (strs [[97], [98]]) → Calls Tryd.prog 14 #[.slice A 2 c, .slice (some ⟨W.heap.size, 0, none⟩) 2 2] (W.alloc (.cells #[.string ⟨#[97]⟩, .string ⟨#[98]⟩] 9)) fun e W' => e = .returned (.bool true) ∧ Below w.heap.size w W' := fun W A c hW hl =>
    (texts_same A (some ⟨W.heap.size, 0, none⟩) 2 c 2 (W.heap.size + 1) [[97], [98]] (W.alloc (.cells #[.string ⟨#[97]⟩, .string ⟨#[98]⟩] 9)) ((hl.alloc (Nat.le_refl _) _).up (by omega)) (Lies.new W #[.string ⟨#[97]⟩, .string ⟨#[98]⟩] 9 (0, 0) _ (Nat.lt_succ_self _)) rfl (by decide)).mono fun e W' ⟨he, hb⟩ => ⟨he, (hW.alloc hW.size _).trans (hb.mono (by have := hW.size; simp; omega))⟩
  clear hR
  go_enter Tryd.func7, Tryd.ntmps7
  go_wp2_with (first
    | (go_at_call 19; (with_reducible refine (hBack w (Below.refl _ _)).mono ?_); rintro e w1 ⟨rfl, hb⟩; have B1 := hide hb; clear hb hBack)
    | (go_at_call 22; (with_reducible refine (hNum w1 B1.out).mono ?_); rintro e w2 ⟨rfl, hb⟩; have B2 := hide hb; clear hb hNum)
    | (go_at_call 18; (with_reducible refine (hEsc w2 B2.out).mono ?_); rintro e w3 ⟨rfl, hb⟩; have B3 := hide hb; clear hb hEsc)
    | (go_at_call 21; (with_reducible refine (hDig w3 B3.out).mono ?_); rintro e w4 ⟨rfl, hb⟩; have B4 := hide hb; clear hb hDig)
    | (go_at_call 12; (with_reducible refine (hCnt w4 B4.out).mono ?_); rintro e w5 ⟨rfl, hb⟩; have B5 := hide hb; clear hb hCnt)
    | (go_at_call 15; (with_reducible refine (hWrd w5 B5.out).mono ?_); rintro e w6 ⟨A, c, rfl, hl, hb⟩; have L6 := hide hl; have B6 := hide hb; clear hb hl hWrd)
    | (go_at_call 14; (with_reducible refine (hTxt w6 A c B6.out L6.out).mono ?_); rintro e w7 ⟨rfl, hb⟩; have B7 := hide hb; clear hb hTxt)
    | (go_at_call 11; (with_reducible refine (hPla w7 B7.out).mono ?_); rintro e w8 ⟨rfl, hb⟩; have B8 := hide hb; clear hb hPla)
    | (go_at_call 10; (with_reducible refine (hRig w8 B8.out).mono ?_); rintro e w9 ⟨rfl, hb⟩; have B9 := hide hb; clear hb hRig))
  go_ret
  exact ⟨rfl, B9.out⟩

end Go.Proofs.YtlenlopeakmplaaDoor
