/-
  'awake' of layer 5 answers true, whatever the world.
-/
import Derived.Test.YtcllcfjlnaijoaaIs
namespace Go.Proofs.Ytcllcfjlnaijoaa
open Go.RowKit

theorem awake5_facts : sizeN 300 = 3 ∧ headB 2 300 = [89, 1, 44] ∧ getH [89, 1, 44, 7] = (2, 300, 3, 0) ∧ begins [159] [159] = true := by decide

set_option maxHeartbeats 1000000 in
theorem awake5_any (w : World) : Calls Try.prog 6 #[] w fun e w' => e = .returned (.bool true) ∧ Below w.heap.size w w' := by
  obtain ⟨f1, f2, f3, f4⟩ := awake5_facts
  have F1 := hide f1
  have F2 := hide f2
  have F3 := hide f3
  have F4 := hide f4
  clear f1 f2 f3 f4
  go_enter Try.func6, Try.ntmps6
  go_wp2_with fail
  have fp := hputs_any 2 300 w (by omega) (by omega)
  rw [F1.out, F2.out, show ((2 : Nat) : Int) = 2 from rfl, show ((300 : Nat) : Int) = 300 from rfl] at fp
  (with_reducible refine fp.mono ?_)
  clear fp
  rintro e w1 ⟨A1, c1, rfl, ho1, hb1⟩
  have Hl1 := hide (Lies.of_own ho1)
  have Hb1 := hide hb1
  have hz1 := hb1.size
  clear ho1 hb1
  go_wp2_with fail
  have fp := hgets_any (some ⟨w1.heap.size, 0, none⟩) 4 4 (w1.heap.size + 1) [89, 1, 44, 7] _ (Lies.fresh w1 [89, 1, 44, 7] 5 (0, 0) #[.int .u8 89, .int .u8 1, .int .u8 44, .int .u8 7] rfl w1.heap.size _ rfl (by omega)) rfl (by omega) (by simp)
  rw [F3.out, show getV (2, 300, 3, 0) = .tuple #[.int .i64 2, .int .u64 300, .int .i64 3, .int .i64 0] from rfl] at fp
  (with_reducible refine fp.mono ?_)
  clear fp
  rintro e w2 ⟨rfl, hb2⟩
  have hb2' := ((Below.refl w1.heap.size w1).alloc (Nat.le_refl _) _).trans (hb2.mono (by simp))
  have Hb2 := hide (Hb1.out.trans (hb2'.mono hz1))
  have hs2 : (convert 23 9 (.slice A1 3 c1)).run Try.prog w2 = .ok (.string ⟨#[89, 1, 44]⟩) w2 := strU8 c1 (Hl1.out.below hb2') rfl
  have hz2 := Hb2.out.size
  clear hb2 hb2' Hl1
  go_wp2_with fail
  have fp := size_any 300 w2 (by omega)
  rw [F1.out, show ((300 : Nat) : Int) = 300 from rfl] at fp
  (with_reducible refine fp.mono ?_)
  clear fp
  rintro e w3 ⟨rfl, hb3⟩
  have Hb3 := hide (Hb2.out.trans (hb3.mono hz2))
  have hz3 := Hb3.out.size
  clear hb3
  go_wp2_with fail
  (with_reducible refine (open_any w3).mono ?_)
  rintro e w4 ⟨rfl, rfl⟩
  go_wp2_with fail
  have Hb4 := hide ((Hb3.out.alloc hz3 (.cells #[.int .u8 159] 5)).alloc (by simp; omega) (.cells #[.int .u8 159] 5))
  have fp := is_any (some ⟨w3.heap.size, 0, none⟩) (some ⟨w3.heap.size + 1, 0, none⟩) 1 1 1 1 (w3.heap.size + 1) (w3.heap.size + 2) [159] [159] _
    ((Lies.fresh w3 [159] 5 (0, 0) #[.int .u8 159] rfl w3.heap.size _ rfl (by omega)).alloc (by simp) (.cells #[.int .u8 159] 5)) rfl (by omega)
    (Lies.fresh (w3.alloc (.cells #[.int .u8 159] 5)) [159] 5 (0, 0) #[.int .u8 159] rfl (w3.heap.size + 1) _ (by simp) (by omega)) rfl (by unfold maxLen; omega)
  rw [F4.out] at fp
  (with_reducible refine fp.mono ?_)
  clear fp
  rintro e w4 ⟨rfl, rfl⟩
  go_wp2
  go_ret
  exact ⟨rfl, Hb4.out⟩

end Go.Proofs.Ytcllcfjlnaijoaa
