/-
  CONTRACT of wagtailref02.Ones.
-/
import Derived.Test.YtfpooljpbncogaaGreatClone
import Derived.Test.YtfpooljpbncogaaGreatBits
import Derived.Deep.QuietTactic
import Derived.BigQuiet
namespace Go.Proofs.YtfpooljpbncogaaGreat
open Go.RowKit
set_option maxRecDepth 8000

set_option maxHeartbeats 400000 in
theorem ones2_any (n : Nat) (w : World) (hbig : n ≤ 1000000000000) :
    Calls Tryz.prog 33 #[.int .i64 (n : Int)] w fun e w' => ∃ A' c', e = .returned (.slice A' n c') ∧
      w'.ownsRow w.heap.size 5 1 (.slice A' n c') n (bys (List.replicate n 255)) ∧ Below w.heap.size w w' := by
  go_enter Tryz.func33, Tryz.ntmps33
  go_wp2
  go_loopw [3, 4] (fun o i wr => ∃ j : Nat, j ≤ n ∧ i = .int .i64 (j : Int) ∧ ∃ A c, o = .slice A j c ∧
      wr.ownsRow w.heap.size 5 1 (.slice A j c) j (bys (List.replicate j 255)) ∧ Below w.heap.size w wr) (fun _ i _ => n - (intOf i).toNat)
  case atStart => exact ⟨0, Nat.zero_le _, rfl, none, 0, rfl, World.ownsRow_nil _ _ _ _, Below.refl _ _⟩
  case round =>
    obtain ⟨j, hj, rfl, A, c, rfl, ho, hb⟩ := hrel
    have Ho := hide ho
    clear ho
    by_cases hlt : j < n
    · have h1 : (j : Int) < (n : Int) := by omega
      have hsz := hb.size
      go_wp2_with (at_builtin; refine wpl_app _ rfl u8elems (.tmp 10) (.tmp 11) rfl w.heap.size (.slice A j c) j _ rfl (Ho.out.alloc _) (wr.heap.size + 1) (some ⟨wr.heap.size, 0, none⟩) 1 1 _ rfl (by rfl) (Lies.new wr _ _ _ _ (by omega)) (by simp [Value.oneCell']) (by unfold maxLen; omega) (by omega) (by simp; omega) ?_; intro A1 c1 w1 hown1 hg1 hat1; have Ho1 := hide hown1; have Hb1 := hide hg1; clear hown1 hg1 hat1)
      have hb1 : Below w.heap.size w w1 := (hb.alloc hsz _).grown Hb1.out (by simp; omega) (fun g hg => (Ho.out.lt g hg).1)
      refine ⟨⟨j + 1, by omega, by go_num, A1, c1, rfl, ?_, hb1⟩, by simp [intOf]; omega⟩
      have h3 := Ho1.out
      rw [List.replicate_succ', bys_app]
      exact h3
    · obtain rfl : j = n := by omega
      go_wp2
      go_ret
      exact ⟨A, c, rfl, Ho.out, hb⟩

end Go.Proofs.YtfpooljpbncogaaGreat
