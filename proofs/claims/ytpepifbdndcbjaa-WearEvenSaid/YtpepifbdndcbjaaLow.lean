/-
  CONTRACT of the statements' own High (wagtailref01; Low: Low1).
-/
import Derived.Test.YtpepifbdndcbjaaBytes
namespace Go.Proofs.Ytpepifbdndcbjaa
open Go.RowKit

theorem high_any (a b : Int) (w : World) : Calls Try.prog 16 #[.int .i64 a, .int .i64 b] w fun e w' => e = .returned (.int .i64 (max a b)) ∧ w = w' := by
  by_cases h : b < a
  all_goals
    go_enter Try.func16, Try.ntmps16
    go_wp2
    go_ret
    refine ⟨?_, rfl⟩
    simp
    omega

end Go.Proofs.Ytpepifbdndcbjaa
