/-
  CONTRACTS of package be: Put.
-/
import Derived.Test.YtigpplckddnghaaGreatClone
import Derived.Test.YtigpplckddnghaaGreatLay
namespace Go.Proofs.YtigpplckddnghaaGreat
open Go.RowKit
set_option maxRecDepth 8000

/-- Put: b, and behind it the lowest w bytes. -/
theorem put_any (A : Option Addr) (n c B : Nat) (l : List UInt8) (a x : Int) (w : World) (h : Lies w B A (bys l)) (hn : n = l.length) (hbig : n ≤ 140737488350000) (hx0 : 0 ≤ x) :
    Calls Tryz.prog 118 #[.slice A n c, .int .i64 a, .int .u64 x] w fun e w' => ∃ v', e = .returned v' ∧
      w'.ownsRow w.heap.size 5 1 v' (n + (min (max a 0) 8).toNat) (bys (l ++ beB (min (max a 0) 8).toNat x.toNat)) ∧ Below w.heap.size w w' := by
  have Hn := hide hn
  clear hn
  have hk0 : 0 ≤ min (max a 0) 8 := by omega
  have hk8 : min (max a 0) 8 ≤ 8 := by omega
  go_enter Tryz.func118, Tryz.ntmps118
  go_wp2_with fail
  refine (clone_any A n c B (bys l) _ h (by rw [bys_len]; exact Hn.out) (bys_one l) (by omega)).mono ?_
  rintro e w1 ⟨v1, rfl, hown1, hb1⟩
  obtain ⟨A1, c1, rfl, _⟩ := own_form hown1
  have Hown1 := hide hown1
  clear hown1
  go_wp2_with fail
  refine (onto_any A1 n c1 _).mono ?_
  rintro e w2 ⟨rfl, rfl⟩
  go_wp2_with fail
  refine (clamp_any a _).mono ?_
  rintro e w2 ⟨rfl, rfl⟩
  go_wp2_with fail
  refine (lay_any w1.heap.size w.heap.size n (.slice A1 n c1) (bys l) _ x _ hk0 hk8 hx0 (heap_alloc_new _ _) (Hown1.out.alloc _) hb1.size (by have := hb1.size; simp; omega) (by omega)).mono ?_
  rintro e w3 ⟨v3, rfl, _, hown3, hb3⟩
  go_wp2
  go_ret
  refine ⟨v3, rfl, by rw [bys_app]; exact hown3, (hb1.alloc hb1.size _).trans hb3⟩

end Go.Proofs.YtigpplckddnghaaGreat
