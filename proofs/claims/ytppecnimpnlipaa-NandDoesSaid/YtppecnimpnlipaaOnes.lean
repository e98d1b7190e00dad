/-
  CONTRACT of zeros.Ones.
-/
import Derived.Test.YtppecnimpnlipaaRep
namespace Go.Proofs.Ytppecnimpnlipaa
open Go.RowKit

/-- Ones: as many bytes 255 as the number says, at least none, at most 2^20. -/
theorem ones_any (z : Int) (w : World) : Calls Try.prog 48 #[.int .i64 z] w fun e w' => ∃ A' c', e = .returned (.slice A' (min (max z 0) 1048576).toNat c') ∧
    Lies w' w'.heap.size A' (bys (List.replicate (min (max z 0) 1048576).toNat 255)) ∧ Below w.heap.size w w' := by
  obtain ⟨x, hx⟩ : ∃ x, x = (min (max z 0) 1048576).toNat := ⟨_, rfl⟩
  rw [← hx]
  have hw : ∀ (k : Nat) (q : Int) (c : Nat) (W : World), q = (k : Int) → k ≤ 1048576 → Calls Try.prog 71 #[.slice (some ⟨W.heap.size, 0, none⟩) 1 c, .int .i64 q] (W.alloc (.cells #[.int .u8 255] 5)) fun e w' => ∃ A' c', e = .returned (.slice A' k c') ∧ Lies w' w'.heap.size A' (bys (List.replicate k 255)) ∧ Below W.heap.size W w' := by
    rintro k q c W rfl hk
    by_cases h0 : k = 0
    · subst h0
      refine (repeat_0 _ _ _ _).mono ?_
      rintro e w1 ⟨A', c', rfl, hl, hb⟩
      exact ⟨A', c', rfl, hl, ((Below.refl _ W).alloc (Nat.le_refl _) _).trans (hb.mono (by simp))⟩
    · refine (repeat_any _ _ k _ (by simp) (by omega) hk).mono ?_
      rintro e w1 ⟨A', c', rfl, hl, hb⟩
      exact ⟨A', c', rfl, hl, ((Below.refl _ W).alloc (Nat.le_refl _) _).trans (hb.mono (by simp))⟩
  have Hw := hide hw
  clear hw
  rcases (by omega : z < 0 ∧ x = 0 ∨ 0 ≤ z ∧ z ≤ 1048576 ∧ (x : Int) = z ∨ 1048576 < z ∧ x = 1048576) with ⟨h, rfl⟩ | ⟨h, h', h2⟩ | ⟨h, rfl⟩
  · clear hx
    go_enter Try.func48, Try.ntmps48
    go_wp2_with fail
    (with_reducible refine (Hw.out 0 0 _ _ rfl (by omega)).mono ?_)
    rintro e w1 ⟨A', c', rfl, hl, hb⟩
    have Hl := hide hl
    have Hb := hide hb
    clear hl hb
    go_wp2
    go_ret
    exact ⟨A', c', rfl, Hl.out, Hb.out⟩
  · clear hx
    subst h2
    go_enter Try.func48, Try.ntmps48
    go_wp2_with fail
    (with_reducible refine (Hw.out x _ _ _ rfl (by omega)).mono ?_)
    rintro e w1 ⟨A', c', rfl, hl, hb⟩
    have Hl := hide hl
    have Hb := hide hb
    clear hl hb
    go_wp2
    go_ret
    exact ⟨A', c', rfl, Hl.out, Hb.out⟩
  · clear hx
    go_enter Try.func48, Try.ntmps48
    go_wp2_with fail
    (with_reducible refine (Hw.out 1048576 1048576 _ _ rfl (by omega)).mono ?_)
    rintro e w1 ⟨A', c', rfl, hl, hb⟩
    have Hl := hide hl
    have Hb := hide hb
    clear hl hb
    go_wp2
    go_ret
    exact ⟨A', c', rfl, Hl.out, Hb.out⟩

end Go.Proofs.Ytppecnimpnlipaa
