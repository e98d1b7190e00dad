/-
  CONTRACT of the statements' own Low (wagtailref01).
-/
import Derived.Test.YtkmkepkkdgpbiaaClone
namespace Go.Proofs.Ytkmkepkkdgpbiaa
open Go.RowKit

theorem low_any (a b : Int) (w : World) : Calls Try.prog 22 #[.int .i64 a, .int .i64 b] w fun e w' => e = .returned (.int .i64 (min a b)) ∧ w = w' := by
  by_cases h : a < b
  all_goals
    go_enter Try.func22, Try.ntmps22
    go_wp2
    go_ret
    refine ⟨?_, rfl⟩
    simp
    omega
end Go.Proofs.Ytkmkepkkdgpbiaa
