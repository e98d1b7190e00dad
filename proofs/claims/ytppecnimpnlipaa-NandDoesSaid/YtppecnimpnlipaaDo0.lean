/-
  The walk of NandDoes: plans that are far too great, and sides that may not be.
-/
import Derived.Test.YtppecnimpnlipaaDs
namespace Go.Proofs.Ytppecnimpnlipaa
open Go.RowKit
open Go.Sort

set_option maxRecDepth 4000 in
set_option maxHeartbeats 4000000 in
theorem does_off (q : Pn) (A : Option Addr) (n c : Nat) (w : World) (hq : q.Ok w w.heap.size) (hl : ¬ (q.light = true ∧ q.g.Right)) :
    Calls Try.prog 3 #[q.val, .slice A n c] w fun e w' => e = .returned (.bool true) ∧ Below w.heap.size w w' := by
  have b1 := (Below.refl w.heap.size w).alloc (Nat.le_refl _) (.cells #[.int .i64 q.g.b, .int .i64 q.g.p, .int .i64 q.g.r, .slice q.A1 q.n1 q.c1, .slice q.A2 q.n2 q.c2] 27)
  have Hb1 := hide b1
  have hx1 : BoxQ q w.heap.size (w.alloc (.cells #[.int .i64 q.g.b, .int .i64 q.g.p, .int .i64 q.g.r, .slice q.A1 q.n1 q.c1, .slice q.A2 q.n2 q.c2] 27)) := heap_alloc_new w _
  have FL := hide (light_any q w.heap.size _ (hq.below b1) b1.size)
  have Hx1 := hide hx1
  have hs1 : w.heap.size < (w.alloc (.cells #[.int .i64 q.g.b, .int .i64 q.g.p, .int .i64 q.g.r, .slice q.A1 q.n1 q.c1, .slice q.A2 q.n2 q.c2] 27)).heap.size := by simp
  have Hs1 := hide hs1
  clear b1 hx1 hs1 hq
  unfold Pn.val at *
  cases hlight : q.light with
  | false =>
    rw [hlight] at FL
    clear hlight hl
    go_enter Try.func3, Try.ntmps3
    go_wp2_with fail
    (with_reducible refine FL.out.mono ?_)
    rintro e w1 ⟨rfl, hb⟩
    have Hb2 := hide (Hb1.out.trans (hb.mono Hb1.out.size))
    clear hb FL
    go_wp2_with fail
    (with_reducible refine (awake14_any _).mono ?_)
    rintro e w2 ⟨rfl, hb⟩
    have Hb3 := hide (Hb2.out.trans (hb.mono Hb2.out.size))
    clear hb
    go_wp2
    go_ret
    exact ⟨rfl, Hb3.out⟩
  | true =>
    have hr : ¬ q.g.Right := fun h => hl ⟨hlight, h⟩
    rw [hlight] at FL
    have FR := hide (fun W => right13_any q.g W)
    rw [decide_eq_false hr] at FR
    have FN := hide (fun W => new_bad q.g q.A1 q.A2 q.n1 q.c1 q.n2 q.c2 W hr)
    unfold Gm.val at FR FN
    clear hlight hl hr
    go_enter Try.func3, Try.ntmps3
    go_wp2_with fail
    (with_reducible refine FL.out.mono ?_)
    rintro e w1 ⟨rfl, hb⟩
    have Hb2 := hide (Hb1.out.trans (hb.mono Hb1.out.size))
    have Hx2 := hide (Hx1.out.below hb Hs1.out)
    have Hs2 := hide (Nat.lt_of_lt_of_le Hs1.out hb.size)
    clear hb FL
    go_wp2_with fail
    (with_reducible refine (awake14_any _).mono ?_)
    rintro e w2 ⟨rfl, hb⟩
    have Hb3 := hide (Hb2.out.trans (hb.mono Hb2.out.size))
    have Hx3 := hide (Hx2.out.below hb Hs2.out)
    have Hs3 := hide (Nat.lt_of_lt_of_le Hs2.out hb.size)
    have c0 := Hx3.out.c 0 _ rfl
    have c1 := Hx3.out.c 1 _ rfl
    have c2 := Hx3.out.c 2 _ rfl
    have c3 := Hx3.out.c 3 _ rfl
    have c4 := Hx3.out.c 4 _ rfl
    clear hb
    go_wp2_with fail
    (with_reducible refine (FN.out _).mono ?_)
    rintro e w3 ⟨rfl, hb⟩
    have Hb4 := hide (Hb3.out.trans (hb.mono Hb3.out.size))
    have hx := Hx3.out.below hb Hs3.out
    clear c0 c1 c2 c3 c4
    have c0 := hx.c 0 _ rfl
    have c1 := hx.c 1 _ rfl
    have c2 := hx.c 2 _ rfl
    clear hb FN hx
    go_wp2_with fail
    (with_reducible refine (FR.out _).mono ?_)
    rintro e w4 ⟨rfl, hb⟩
    have Hb5 := hide (Hb4.out.trans (hb.mono Hb4.out.size))
    clear hb
    go_wp2
    go_ret
    exact ⟨rfl, Hb5.out⟩
end Go.Proofs.Ytppecnimpnlipaa
