/-
  CONTRACTS of the statements' own Low and High (wagtailref01).
-/
import Derived.Test.YtbcplfdbnfmhoaaClone
namespace Go.Proofs.Ytbcplfdbnfmhoaa
open Go.RowKit

theorem low_any (a b : Int) (w : World) : Calls Try.prog 10 #[.int .i64 a, .int .i64 b] w fun e w' => e = .returned (.int .i64 (min a b)) ∧ w = w' := by
  by_cases h : a < b
  all_goals
    go_enter Try.func10, Try.ntmps10
    go_wp2
    go_ret
    refine ⟨?_, rfl⟩
    simp
    omega

theorem high_any (a b : Int) (w : World) : Calls Try.prog 9 #[.int .i64 a, .int .i64 b] w fun e w' => e = .returned (.int .i64 (max a b)) ∧ w = w' := by
  by_cases h : b < a
  all_goals
    go_enter Try.func9, Try.ntmps9
    go_wp2
    go_ret
    refine ⟨?_, rfl⟩
    simp
    omega

end Go.Proofs.Ytbcplfdbnfmhoaa
