/-
  The walk of NandOneWay.
-/
import Derived.Test.YtkmkepkkdgpbiaaOneM
import Derived.Test.YtkmkepkkdgpbiaaBig
import Derived.Deep.DeepCutAuto
namespace Go.Proofs.Ytkmkepkkdgpbiaa
open Go.RowKit
open Go.Sort

/-- A call that came in. -/
structure Ac where
  kind : Int
  x : Int
  y : Int
  A : Option Addr
  n : Nat
  c : Nat
  m : List UInt8
def Ac.cells (a : Ac) : List Value := [.int .i64 a.kind, .int .i64 a.x, .int .i64 a.y, .slice a.A a.n a.c]
theorem Ac.cells_len (a : Ac) : a.cells.length = 4 := rfl
structure Ac.Ok (w : World) (B : Nat) (a : Ac) : Prop where
  lies : Lies w B a.A (bys a.m)
  len : a.n = a.m.length
theorem Ac.Ok.below {w w' : World} {B : Nat} {a : Ac} (h : a.Ok w B) (hb : Below B w w') : a.Ok w' B := ⟨h.lies.below hb, h.len⟩

theorem infoStr : (Try.prog.info? 9).map (fun i => (i.zero, i.size, i.bytes)) = some (some (.string ⟨#[]⟩), 1, 16) := by kernel_rfl
theorem make_strs (w : World) (n : Nat) (hn : n ≤ 1088) :
    (Instr.makeSlice 43 (.int .i64 (n : Int)) (.int .i64 (n : Int))).run Try.prog w = .ok (.slice (some ⟨w.heap.size, 0, none⟩) n n) (w.alloc (.cells (madeCells #[.string ⟨#[]⟩] n) 9)) ∧
      RowF (w.alloc (.cells (madeCells #[.string ⟨#[]⟩] n) 9)) w.heap.size 9 n (fun _ => .string (str [])) := by
  obtain ⟨i0, hi, hz0, hz1, hz2⟩ := info_parts infoStr
  constructor
  · have := run_make (P := Try.prog) w 43 9 i0 _ Try.underlying43 hi hz0 .i64 .i64 (n : Int) (n : Int) (by omega) (Int.le_refl _) (by rw [hz2]; omega) (by omega)
    rw [hz1, Int.toNat_natCast, Nat.mul_one] at this
    exact this
  · refine RowF.new w _ _ _ _ (by rw [size_madeCells]) (fun j hj => ?_)
    rw [made_at _ _ _ hj]
    have h3 : (#[Value.string ⟨#[]⟩] : Array Value).size = 1 := rfl
    rw [h3, Nat.mod_one]
    rfl

theorem infoPlan : (Try.prog.info? 27).map (·.size) = some 5 := by kernel_rfl

set_option maxRecDepth 4000 in
set_option maxHeartbeats 4000000 in
theorem oneWay_off (q : Pn) (A : Option Addr) (n c : Nat) (w : World) (hq : q.Ok w w.heap.size) (hl : ¬ (q.light = true ∧ q.g.Right)) :
    Calls Try.prog 4 #[q.val, .slice A n c] w fun e w' => e = .returned (.bool true) ∧ Below w.heap.size w w' := by
  have b1 := (Below.refl w.heap.size w).alloc (Nat.le_refl _) (.cells #[.int .i64 q.g.b, .int .i64 q.g.p, .int .i64 q.g.r, .slice q.A1 q.n1 q.c1, .slice q.A2 q.n2 q.c2] 27)
  have Hb1 := hide b1
  have hx1 : BoxQ q w.heap.size (w.alloc (.cells #[.int .i64 q.g.b, .int .i64 q.g.p, .int .i64 q.g.r, .slice q.A1 q.n1 q.c1, .slice q.A2 q.n2 q.c2] 27)) := heap_alloc_new w _
  have FL := hide (light_any q w.heap.size _ (hq.below b1) b1.size)
  have Hx1 := hide hx1
  have hs1 : w.heap.size < (w.alloc (.cells #[.int .i64 q.g.b, .int .i64 q.g.p, .int .i64 q.g.r, .slice q.A1 q.n1 q.c1, .slice q.A2 q.n2 q.c2] 27)).heap.size := by simp
  have Hs1 := hide hs1
  clear b1 hx1 hs1 hq
  unfold Pn.val at *
  cases hlight : q.light with
  | false =>
    rw [hlight] at FL
    clear hlight hl
    go_enter Try.func4, Try.ntmps4
    go_wp2_with fail
    (with_reducible refine FL.out.mono ?_)
    rintro e w1 ⟨rfl, hb⟩
    have Hb2 := hide (Hb1.out.trans (hb.mono Hb1.out.size))
    clear hb FL
    go_wp2_with fail
    (with_reducible refine (awake14_any _).mono ?_)
    rintro e w2 ⟨rfl, hb⟩
    have Hb3 := hide (Hb2.out.trans (hb.mono Hb2.out.size))
    clear hb
    go_wp2
    go_ret
    exact ⟨rfl, Hb3.out⟩
  | true =>
    have hr : ¬ q.g.Right := fun h => hl ⟨hlight, h⟩
    rw [hlight] at FL
    have FR := hide (fun W => right13_any q.g W)
    rw [decide_eq_false hr] at FR
    unfold Gm.val at FR
    clear hlight hl hr
    go_enter Try.func4, Try.ntmps4
    go_wp2_with fail
    (with_reducible refine FL.out.mono ?_)
    rintro e w1 ⟨rfl, hb⟩
    have Hb2 := hide (Hb1.out.trans (hb.mono Hb1.out.size))
    have hx := Hx1.out.below hb Hs1.out
    have c0 := hx.c 0 _ rfl
    have c1 := hx.c 1 _ rfl
    have c2 := hx.c 2 _ rfl
    clear hb FL hx
    go_wp2_with fail
    (with_reducible refine (FR.out _).mono ?_)
    rintro e w2 ⟨rfl, hb⟩
    have Hb3 := hide (Hb2.out.trans (hb.mono Hb2.out.size))
    clear hb
    go_wp2_with fail
    (with_reducible refine (awake14_any _).mono ?_)
    rintro e w3 ⟨rfl, hb⟩
    have Hb4 := hide (Hb3.out.trans (hb.mono Hb3.out.size))
    clear hb
    go_wp2
    go_ret
    exact ⟨rfl, Hb4.out⟩
end Go.Proofs.Ytkmkepkkdgpbiaa
