/-
  CONTRACTS of package nand: Program.
-/
import Derived.Test.YtppecnimpnlipaaDev4
namespace Go.Proofs.Ytppecnimpnlipaa
open Go.RowKit

section
variable {w : World} {B0 B : Nat} {D : Dv} {k kb kp km : Nat}
theorem prog_bad0 (v : Value) (x y : Int) (A : Option Addr) (n c : Nat) (e0 : Int) (hc : e0 ≠ 0)
    (hp : Calls Try.prog 49 #[v, .agg #[.int .i64 x, .int .i64 y]] (w.alloc (.cells #[.int .i64 x, .int .i64 y] 39)) fun e w' => e = .returned (.tuple #[.slice none 0 0, .int .i64 e0]) ∧
      Below (w.alloc (.cells #[.int .i64 x, .int .i64 y] 39)).heap.size (w.alloc (.cells #[.int .i64 x, .int .i64 y] 39)) w') :
    Calls Try.prog 14 #[v, .agg #[.int .i64 x, .int .i64 y], .slice A n c] w fun e w' => e = .returned (.int .i64 e0) ∧ Below w.heap.size w w' := by
  have Hb1 := hide ((Below.refl w.heap.size w).alloc (Nat.le_refl _) (.cells #[.int .i64 x, .int .i64 y] 39))
  have Hp := hide hp
  have hc2 : (e0 != 0) = true := bne_iff_ne.2 hc
  clear hp
  go_enter Try.func14, Try.ntmps14
  go_wp2_with fail
  (with_reducible refine Hp.out.mono ?_)
  rintro e w3 ⟨rfl, hb⟩
  have Hb3 := hide (Hb1.out.trans (hb.mono Hb1.out.size))
  clear hb Hp Hb1
  go_wp2
  go_ret
  exact ⟨rfl, Hb3.out⟩
theorem prog_nil (x y : Int) (A : Option Addr) (n c : Nat) (w : World) : Calls Try.prog 14 #[.pointer none, .agg #[.int .i64 x, .int .i64 y], .slice A n c] w fun e w' => e = .returned (.int .i64 1) ∧ Below w.heap.size w w' :=
  prog_bad0 _ x y A n c 1 (by decide) (page_nil x y _)
theorem prog_down (h : DevAt w B0 B D k kb kp km) (hB : B ≤ w.heap.size) (x y : Int) (A : Option Addr) (n c : Nat) (hd : D.dn = true) :
    Calls Try.prog 14 #[.pointer (some ⟨k, 0, none⟩), .agg #[.int .i64 x, .int .i64 y], .slice A n c] w fun e w' => e = .returned (.int .i64 9) ∧ Below w.heap.size w w' :=
  prog_bad0 _ x y A n c 9 (by decide) (page_down (h.alloc hB _) (by simp; omega) x y hd)
theorem prog_out (h : DevAt w B0 B D k kb kp km) (hB : B ≤ w.heap.size) (x y : Int) (A : Option Addr) (n c : Nat) (hd : D.dn = false) (hx : ¬ D.g.Has x y) :
    Calls Try.prog 14 #[.pointer (some ⟨k, 0, none⟩), .agg #[.int .i64 x, .int .i64 y], .slice A n c] w fun e w' => e = .returned (.int .i64 3) ∧ Below w.heap.size w w' :=
  prog_bad0 _ x y A n c 3 (by decide) (page_out (h.alloc hB _) (by simp; omega) x y hd hx)
theorem prog_len (h : DevAt w B0 B D k kb kp km) (hB : B ≤ w.heap.size) (x y : Nat) (A : Option Addr) (n c : Nat) (hd : D.dn = false) (hx : x < D.nb) (hy : y < D.np) (hn : n ≠ 256) :
    Calls Try.prog 14 #[.pointer (some ⟨k, 0, none⟩), .agg #[.int .i64 (x : Int), .int .i64 (y : Int)], .slice A n c] w fun e w' => e = .returned (.int .i64 3) ∧ Below w.heap.size w w' := by
  have Hp := hide (page_ok (h.alloc hB (.cells #[.int .i64 (x : Int), .int .i64 (y : Int)] 39)) (by simp; omega) x y hd hx hy)
  have Hb1 := hide ((Below.refl w.heap.size w).alloc (Nat.le_refl _) (.cells #[.int .i64 (x : Int), .int .i64 (y : Int)] 39))
  have hn2 : ((n : Int) != 256) = true := bne_iff_ne.2 (by omega)
  clear h hB hd hx hy hn
  go_enter Try.func14, Try.ntmps14
  go_wp2_with fail
  (with_reducible refine Hp.out.mono ?_)
  rintro e w3 ⟨rfl, hb⟩
  have Hb3 := hide (Hb1.out.trans (hb.mono Hb1.out.size))
  clear hb Hp Hb1
  go_wp2
  go_ret
  exact ⟨rfl, Hb3.out⟩
theorem prog_marked (h : DevAt w B0 B D k kb kp km) (hB : B ≤ w.heap.size) (x y : Nat) (A : Option Addr) (c : Nat) (hd : D.dn = false) (hx : x < D.nb) (hy : y < D.np) (hm : D.bad x = true) :
    Calls Try.prog 14 #[.pointer (some ⟨k, 0, none⟩), .agg #[.int .i64 (x : Int), .int .i64 (y : Int)], .slice A 256 c] w fun e w' => e = .returned (.int .i64 12) ∧ Below w.heap.size w w' := by
  have hB1 : B ≤ (w.alloc (.cells #[.int .i64 (x : Int), .int .i64 (y : Int)] 39)).heap.size := by simp; omega
  have h1 := h.alloc hB (.cells #[.int .i64 (x : Int), .int .i64 (y : Int)] 39)
  have Hp := hide (page_ok h1 hB1 x y hd hx hy)
  have Hb1 := hide ((Below.refl w.heap.size w).alloc (Nat.le_refl _) (.cells #[.int .i64 (x : Int), .int .i64 (y : Int)] 39))
  have HB := hide hB1
  have H1 := hide h1
  have Hx := hide hx
  have Hm := hide hm
  have p0 : (w.alloc (.cells #[.int .i64 (x : Int), .int .i64 (y : Int)] 39)).cell? ⟨w.heap.size, 0, none⟩ = some (.int .i64 (x : Int)) := by simp
  have hlt : w.heap.size < (w.alloc (.cells #[.int .i64 (x : Int), .int .i64 (y : Int)] 39)).heap.size := by simp
  have P0 := hide (fun W (hb : Below (w.alloc (.cells #[.int .i64 (x : Int), .int .i64 (y : Int)] 39)).heap.size (w.alloc (.cells #[.int .i64 (x : Int), .int .i64 (y : Int)] 39)) W) => (hb.cell (p := ⟨w.heap.size, 0, none⟩) hlt).trans p0)
  clear h hB hd hx hy hB1 h1 p0 hlt hm
  go_enter Try.func14, Try.ntmps14
  go_wp2_with fail
  (with_reducible refine Hp.out.mono ?_)
  rintro e w3 ⟨rfl, hb⟩
  have Hb3 := hide (Hb1.out.trans (hb.mono Hb1.out.size))
  have p0 := P0.out w3 hb
  have h3 := H1.out.below (hb.mono HB.out)
  have fb := block_some h3 x Hx.out
  have c0 := h3.b0 Hx.out
  rw [Hm.out] at c0
  clear hb Hp Hb1 P0 H1 h3
  go_wp2_with (go_at_call 47; (with_reducible refine fb.mono ?_); rintro e w2 ⟨rfl, rfl⟩; clear fb)
  go_ret
  exact ⟨rfl, Hb3.out⟩
theorem prog_order (h : DevAt w B0 B D k kb kp km) (hB : B ≤ w.heap.size) (x y : Nat) (A : Option Addr) (c : Nat) (hd : D.dn = false) (hx : x < D.nb) (hy : y < D.np) (hm : D.bad x = false) (ho : y ≠ D.nx x) :
    Calls Try.prog 14 #[.pointer (some ⟨k, 0, none⟩), .agg #[.int .i64 (x : Int), .int .i64 (y : Int)], .slice A 256 c] w fun e w' => e = .returned (.int .i64 11) ∧ Below w.heap.size w w' := by
  have hB1 : B ≤ (w.alloc (.cells #[.int .i64 (x : Int), .int .i64 (y : Int)] 39)).heap.size := by simp; omega
  have h1 := h.alloc hB (.cells #[.int .i64 (x : Int), .int .i64 (y : Int)] 39)
  have Hp := hide (page_ok h1 hB1 x y hd hx hy)
  have Hb1 := hide ((Below.refl w.heap.size w).alloc (Nat.le_refl _) (.cells #[.int .i64 (x : Int), .int .i64 (y : Int)] 39))
  have HB := hide hB1
  have H1 := hide h1
  have Hx := hide hx
  have Hm := hide hm
  have p0 : (w.alloc (.cells #[.int .i64 (x : Int), .int .i64 (y : Int)] 39)).cell? ⟨w.heap.size, 0, none⟩ = some (.int .i64 (x : Int)) := by simp
  have p1 : (w.alloc (.cells #[.int .i64 (x : Int), .int .i64 (y : Int)] 39)).cell? ⟨w.heap.size, 1, none⟩ = some (.int .i64 (y : Int)) := by simp
  have hlt : w.heap.size < (w.alloc (.cells #[.int .i64 (x : Int), .int .i64 (y : Int)] 39)).heap.size := by simp
  have P0 := hide (fun W (hb : Below (w.alloc (.cells #[.int .i64 (x : Int), .int .i64 (y : Int)] 39)).heap.size (w.alloc (.cells #[.int .i64 (x : Int), .int .i64 (y : Int)] 39)) W) => And.intro ((hb.cell (p := ⟨w.heap.size, 0, none⟩) hlt).trans p0) ((hb.cell (p := ⟨w.heap.size, 1, none⟩) hlt).trans p1))
  have hne : ((y : Int) != (D.nx x : Int)) = true := bne_iff_ne.2 (by omega)
  clear h hB hd hx hy hB1 h1 p0 p1 hlt hm ho
  go_enter Try.func14, Try.ntmps14
  go_wp2_with fail
  (with_reducible refine Hp.out.mono ?_)
  rintro e w3 ⟨rfl, hb⟩
  have Hb3 := hide (Hb1.out.trans (hb.mono Hb1.out.size))
  obtain ⟨p0, p1⟩ := P0.out w3 hb
  have h3 := H1.out.below (hb.mono HB.out)
  have fb := block_some h3 x Hx.out
  have c0 := h3.b0 Hx.out
  have c1 := h3.b1 Hx.out
  rw [Hm.out] at c0
  clear hb Hp Hb1 P0 H1 h3
  go_wp2_with (go_at_call 47; (with_reducible refine fb.mono ?_); rintro e w2 ⟨rfl, rfl⟩; clear fb)
  go_quiet (fail)
  go_wp2
  go_ret
  exact ⟨rfl, bel_drewN Hb3.out _⟩
end
end Go.Proofs.Ytppecnimpnlipaa
