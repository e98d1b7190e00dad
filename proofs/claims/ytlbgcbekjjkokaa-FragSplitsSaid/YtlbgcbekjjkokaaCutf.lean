/-
  CONTRACTS: frag.cut.
-/
import Derived.Test.YtlbgcbekjjkokaaBuck
namespace Go.Proofs.Ytlbgcbekjjkokaa
open Go.RowKit

/-- Data from a place on, to another one, without room behind them. -/
theorem cut_any (a : Addr) (n c f s e : Nat) (w : World) (hf : f < e) (he : e = min (f + s) n) (hs : s ≤ 1000000) (hn : n ≤ 1000000) (hnc : n ≤ c) (hcm : c ≤ maxLen) :
    Calls Try.prog 33 #[.slice (some a) n c, .int .i64 (f : Int), .int .i64 (s : Int)] w fun r w' => r = .returned (.slice (some (a.add f)) (e - f) (e - f)) ∧ w' = w := by
  have hec : (e : Int) ≤ (c : Int) := by omega
  have hfe : (f : Int) ≤ (e : Int) := by omega
  have e1 : (e : Int) - (f : Int) = ((e - f : Nat) : Int) := by omega
  have hne : ¬ (e : Int) = (f : Int) := by omega
  have hn1 : (e - f) ≠ 0 := by omega
  have hcb : (c : Int) ≤ 9223372036854775807 := by unfold maxLen at hcm; omega
  have hel : e ≤ 1000000 := by omega
  by_cases hle : f + s ≤ n
  · have hE : (f : Int) + (s : Int) = (e : Int) := by omega
    have h3 : min (e : Int) (n : Int) = (e : Int) := by omega
    have hfb : (f : Int) ≤ 1000000 := by omega
    have hsb : (s : Int) ≤ 1000000 := by omega
    clear he hle hf hn hs hcm hnc
    go_enter Try.func33, Try.ntmps33
    go_upto_region 2 with fail
    clear hE h3
    go_wp2
    go_ret
    exact ⟨rfl, rfl⟩
  · have h3 : min ((f : Int) + (s : Int)) (n : Int) = (e : Int) := by omega
    have hfb : (f : Int) ≤ 1000000 := by omega
    have hsb : (s : Int) ≤ 1000000 := by omega
    clear he hle hf hn hs hcm hnc
    go_enter Try.func33, Try.ntmps33
    go_upto_region 2 with fail
    clear h3
    go_wp2
    go_ret
    exact ⟨rfl, rfl⟩

end Go.Proofs.Ytlbgcbekjjkokaa
