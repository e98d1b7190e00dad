/-
  The walk of GeomPages.
-/
import Derived.Test.YtfogjnnklneepaaAwakeg
namespace Go.Proofs.Ytfogjnnklneepaa
open Go.RowKit

theorem geomPages_any (n : Int) (w : World) (h : -9223372036854775808 ≤ n ∧ n ≤ 9223372036854775807) : Calls Try.prog 3 #[.int .i64 n] w fun e w' => e = .returned (.bool true) ∧ Below w.heap.size w w' := by
  by_cases hn : 200000 < n
  · clear h
    go_enter Try.func3, Try.ntmps3
    go_wp2_with fail
    (with_reducible refine (awake13_any _).mono ?_)
    rintro e w1 ⟨rfl, hb⟩
    have Hb := hide hb
    clear hb
    go_wp2
    go_ret
    exact ⟨rfl, Hb.out⟩
  · have hR := fun W => pages13_any n W ⟨h.1, by omega⟩
    have hP := fun W => pages_any n W h
    have hC := fun W => cost_any n W h
    have hz := pagesZ_le h.2
    generalize pagesZ n = z at *
    have e1 : wrap64 (z + 1) = z + 1 := gwr64 (by omega)
    clear h hz
    go_enter Try.func3, Try.ntmps3
    go_wp2_with fail
    (with_reducible refine (hR _).mono ?_)
    rintro e w1 ⟨rfl, rfl⟩
    clear hR
    go_wp2_with fail
    (with_reducible refine (awake13_any _).mono ?_)
    rintro e w1 ⟨rfl, hb⟩
    have Hb := hide hb
    clear hb
    go_wp2_with fail
    (with_reducible refine (hP _).mono ?_)
    rintro e w2 ⟨rfl, rfl⟩
    clear hP
    go_wp2_with fail
    (with_reducible refine (hC _).mono ?_)
    rintro e w2 ⟨rfl, rfl⟩
    clear hC
    go_wp2
    go_ret
    exact ⟨rfl, Hb.out⟩

end Go.Proofs.Ytfogjnnklneepaa
