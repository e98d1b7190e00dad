/-
  The walk of NandNone.
-/
import Derived.Test.YtkmkepkkdgpbiaaAwakeh
namespace Go.Proofs.Ytkmkepkkdgpbiaa
open Go.RowKit
open Go.Sort

theorem Calls.q2b {P : Program} {f : FuncId} {args : Array Value} {w : World} {v : Value} (h : Calls P f args w fun e w' => e = .returned v ∧ w = w') : Calls P f args w fun e w' => e = .returned v ∧ Below w.heap.size w w' :=
  h.mono fun _ _ ⟨h1, h2⟩ => ⟨h1, h2 ▸ Below.refl _ _⟩

set_option maxRecDepth 4000 in
set_option maxHeartbeats 4000000 in
theorem nandNone_any (x y : Int) (A : Option Addr) (n c : Nat) (w : World) : Calls Try.prog 5 #[.agg #[.int .i64 x, .int .i64 y], .slice A n c] w fun e w' => e = .returned (.bool true) ∧ Below w.heap.size w w' := by
  have b1 := (Below.refl w.heap.size w).alloc (Nat.le_refl _) (.cells #[.int .i64 x, .int .i64 y] 39)
  have Hb1 := hide b1
  have Hp := hide (BoxedP.new x y w)
  by_cases h : (400 : Int) < (n : Int)
  · clear b1
    go_enter Try.func5, Try.ntmps5
    go_wp2_with fail
    (with_reducible refine (awake14_any _).mono ?_)
    rintro e w1 ⟨rfl, hb⟩
    have Hb := hide (Hb1.out.trans (hb.mono Hb1.out.size))
    clear hb
    go_wp2
    go_ret
    exact ⟨rfl, Hb.out⟩
  · have hs1 : w.heap.size < (w.alloc (.cells #[.int .i64 x, .int .i64 y] 39)).heap.size := by simp
    have Hs := hide hs1
    clear b1 hs1
    go_enter Try.func5, Try.ntmps5
    go_wp2_with fail
    (with_reducible refine (read_nil x y _).mono ?_)
    rintro e w1 ⟨rfl, hb⟩
    have Hb := hide (Hb1.out.trans (hb.mono Hb1.out.size))
    have Hp2 := hide (Hp.out.below hb Hs.out)
    have p0 := Hp2.out.x
    have p1 := Hp2.out.y
    clear hb Hp Hb1 Hs
    go_wp2_with fail
    (with_reducible refine (power_nil _).mono ?_)
    rintro e w2 ⟨rfl, rfl⟩
    have q0 := fun d os => cell_regrown p0 d os
    have q1 := fun d os => cell_regrown p1 d os
    clear p0 p1
    have F1 := fun W => awake14_any W
    have F2 := fun W => prog_nil x y A n c W
    have F3 := fun W => era_nil x W
    have F4 := fun W => Calls.q2b (down_nil W)
    have F5 := fun W => Calls.q2b (marked_nil x W)
    have F6 := fun W => Calls.q2b (next_nil x W)
    have F7 := fun W => Calls.q2b (wear_nil x W)
    have F8 := fun W => Calls.q2b (ops_nil W)
    have F9 := fun W => sides_nil W
    go_upto_region 6 with fail
    refine wp_region_quiet_below (by kernel_rfl) (by kernel_rfl) ?_
    repeat (go_big_quiet_step (first | exact Calls.regrown_of (F1 _) | exact Calls.regrown_of (F2 _) | exact Calls.regrown_of (F3 _) | exact Calls.regrown_of (F4 _) | exact Calls.regrown_of (F5 _) | exact Calls.regrown_of (F6 _) | exact Calls.regrown_of (F7 _) | exact Calls.regrown_of (F8 _) | exact Calls.regrown_of (F9 _)))
    refine wpQuiet_nil ?_
    intro _ hw'
    obtain ⟨⟨dq, osq⟩, hw''⟩ := hw'
    subst hw''
    go_wp2
    go_ret
    exact ⟨rfl, Hb.out.trans ((below_regrown w1 dq osq).mono Hb.out.size)⟩
end Go.Proofs.Ytkmkepkkdgpbiaa
