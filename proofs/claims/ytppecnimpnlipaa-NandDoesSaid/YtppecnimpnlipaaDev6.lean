/-
  CONTRACTS of package nand: Program, an operation.
-/
import Derived.Test.YtppecnimpnlipaaDev5
namespace Go.Proofs.Ytppecnimpnlipaa
open Go.RowKit

/-- The device behind a program. -/
def Dv.progd (D : Dv) (x : Nat) (b : List UInt8) : Dv :=
  { D.begun with pg := upd D.pg (x * D.np + D.nx x) (progL (D.pg (x * D.np + D.nx x)) b D.mask), nx := upd D.nx x (D.nx x + 1) }

section
variable {w : World} {B0 B : Nat} {D : Dv} {k kb kp km : Nat}
theorem DevAt.lies_tch (h : DevAt w B0 B D k kb kp km) {w' : World} {A : Option Addr} {l : List UInt8} {B2 : Nat} (hB2 : B2 ≤ w.heap.size) (hl : LiesT w B2 A l) (ht : Tch [k, kb, kp] w w') : LiesT w' B2 A l := by
  obtain ⟨cb, h1, _⟩ := h.blocks
  obtain ⟨cp, h2, _⟩ := h.pages
  have h0 := h.box
  refine hl.kept (fun b hb ⟨cs, fr, hc⟩ => ht.block b (by omega) ?_)
  simp only [List.mem_cons, List.not_mem_nil, or_false, not_or]
  refine ⟨?_, ?_, ?_⟩ <;> rintro rfl
  · rw [h0] at hc; simp at hc
  · rw [h1] at hc; simp at hc
  · rw [h2] at hc; simp at hc
theorem off_three {k kb kp g B : Nat} (h : k < B ∧ kb < B ∧ kp < B) (hg : B ≤ g) : g ∉ [k, kb, kp] := by
  simp only [List.mem_cons, List.not_mem_nil, or_false, not_or]
  omega

set_option maxRecDepth 4000 in
set_option maxHeartbeats 1000000 in
theorem prog_ok (h : DevAt w B0 B D k kb kp km) (hB : B ≤ w.heap.size) (x : Nat) (A : Option Addr) (c : Nat) (b : List UInt8) (hd : D.dn = false) (hx : x < D.nb) (hy : D.nx x < D.np) (hm : D.bad x = false) (hops : D.ops < 1000000)
    (hb : LiesT w w.heap.size A b) (hbl : b.length = 256) :
    Calls Try.prog 14 #[.pointer (some ⟨k, 0, none⟩), .agg #[.int .i64 (x : Int), .int .i64 (D.nx x : Int)], .slice A 256 c] w fun e w' => e = .returned (.int .i64 D.err) ∧
      DevAt w' B0 B (D.progd x b) k kb kp km ∧ Tch [k, kb, kp] w w' := by
  generalize hyn : D.nx x = y at *
  have Hyn := hide hyn
  have hi3 := h.hi
  have hB1 : B ≤ (w.alloc (.cells #[.int .i64 (x : Int), .int .i64 (y : Int)] 39)).heap.size := by simp; omega
  have h1 := h.alloc hB (.cells #[.int .i64 (x : Int), .int .i64 (y : Int)] 39)
  have Hp := hide (page_ok h1 hB1 x y hd hx hy)
  have b1 := (Below.refl w.heap.size w).alloc (Nat.le_refl _) (.cells #[.int .i64 (x : Int), .int .i64 (y : Int)] 39)
  have hlb1 : LiesT (w.alloc (.cells #[.int .i64 (x : Int), .int .i64 (y : Int)] 39)) w.heap.size A b := hb.kept (fun q hq _ => b1.block q hq)
  have Hb1 := hide b1
  have HB := hide hB1
  have H1 := hide h1
  have Hx := hide hx
  have Hm := hide hm
  have Hops := hide hops
  have Hbl := hide hbl
  have Hi3 := hide hi3
  have Hy := hide hy
  have HB0 := hide hB
  have p0 : (w.alloc (.cells #[.int .i64 (x : Int), .int .i64 (y : Int)] 39)).cell? ⟨w.heap.size, 0, none⟩ = some (.int .i64 (x : Int)) := by simp
  have p1 : (w.alloc (.cells #[.int .i64 (x : Int), .int .i64 (y : Int)] 39)).cell? ⟨w.heap.size, 1, none⟩ = some (.int .i64 (y : Int)) := by simp
  have hlt : w.heap.size < (w.alloc (.cells #[.int .i64 (x : Int), .int .i64 (y : Int)] 39)).heap.size := by simp
  have P0 := hide (fun W (hb : Below (w.alloc (.cells #[.int .i64 (x : Int), .int .i64 (y : Int)] 39)).heap.size (w.alloc (.cells #[.int .i64 (x : Int), .int .i64 (y : Int)] 39)) W) => And.intro ((hb.cell (p := ⟨w.heap.size, 0, none⟩) hlt).trans p0) ((hb.cell (p := ⟨w.heap.size, 1, none⟩) hlt).trans p1))
  have Hlb := hide (fun W (hb : Below (w.alloc (.cells #[.int .i64 (x : Int), .int .i64 (y : Int)] 39)).heap.size (w.alloc (.cells #[.int .i64 (x : Int), .int .i64 (y : Int)] 39)) W) => (hlb1.kept (w' := W) (fun q hq _ => hb.block q (by simp; omega))).up (Nat.le_trans (by simp) hb.size))
  have hne : ((y : Int) != (y : Int)) = false := by simp
  clear h hB hd hx hy hB1 h1 p0 p1 hlt hm b1 hlb1 hyn hi3 hb hbl hops
  go_enter Try.func14, Try.ntmps14
  go_wp2_with fail
  (with_reducible refine Hp.out.mono ?_)
  rintro e w3 ⟨rfl, hb⟩
  have Hb3 := hide (Hb1.out.trans (hb.mono Hb1.out.size))
  obtain ⟨p0, p1⟩ := P0.out w3 hb
  have h3 := H1.out.below (hb.mono HB.out)
  have HB3 := hide (Nat.le_trans HB.out hb.size)
  have Hl3 := hide (Hlb.out w3 hb)
  have fb := block_some h3 x Hx.out
  have c0 := h3.b0 Hx.out
  have c1 := h3.b1 Hx.out
  rw [Hm.out] at c0
  rw [Hyn.out] at c1
  have H3 := hide h3
  clear hb Hp Hb1 P0 H1 h3 HB Hlb
  go_wp2_with (go_at_call 47; (with_reducible refine fb.mono ?_); rintro e w2 ⟨rfl, rfl⟩; clear fb)
  go_quiet (fail)
  go_wp2_with fail
  have h4 : DevAt (w3.drewN nq) B0 B D k kb kp km := H3.out.below (bel_drewN (Below.refl B w3) _)
  have hl4 : LiesT (w3.drewN nq) (w3.drewN nq).heap.size A b := Hl3.out
  have Hb4 := hide (bel_drewN Hb3.out nq)
  have HB4 := hide (show B ≤ (w3.drewN nq).heap.size from HB3.out)
  clear p0 p1 c0 c1 H3 Hl3 Hb3 HB3 hne
  generalize w3.drewN nq = w4 at *
  have H4 := hide h4
  have Hl4 := hide hl4
  have Fb := hide (begin_any h4 HB4.out Hops.out)
  clear h4 hl4
  (with_reducible refine Fb.out.mono ?_)
  rintro e w5 ⟨A3, m3, c3, rfl, hm3, hl3, hd5, ht5⟩
  have Hm3 := hide hm3
  have hl5 := H4.out.lies_tch (Nat.le_refl _) Hl4.out ht5
  have hs5 := ht5.size
  have HB5 := hide (Nat.le_trans HB4.out hs5)
  have Ht5 := hide ((Tch.of_below (S := [k, kb, kp]) Hb4.out).trans ht5)
  have b6 := ((Below.refl w5.heap.size w5).alloc (Nat.le_refl _) (.cells #[.slice A 256 c] 40)).alloc (by simp) (.cells #[.slice A3 m3 c3] 40)
  have h6 := hd5.below (b6.mono HB5.out)
  have hi : x * D.np + y < D.nb * D.np := lt_mul Hx.out Hy.out
  have Fd := hide (doProg_any h6 (Nat.le_trans HB5.out b6.size) (x * D.np + y) hi w5.heap.size (w5.heap.size + 1) w5.heap.size A A3 c m3 c3 b D.mask b6.size (by simp) (by simp) ((hl5.lies.up hs5).below b6) Hbl.out (hl3.lies.below b6) Hm3.out)
  have Ht6 := hide (Tch.of_below (S := [k, kb, kp]) b6)
  clear h6 b6 hl5 hl3 hd5 ht5 hs5 hm3 Fb H4 Hl4 Hb4 HB4 hi
  go_wp2_with fail
  (with_reducible refine (makeProg_any A A3 256 c m3 c3 _).mono ?_)
  rintro e w6 ⟨rfl, hw6⟩
  subst hw6
  go_wp2_with fail
  (with_reducible refine Fd.out.mono ?_)
  rintro e w7 ⟨rfl, h7, ht7⟩
  have Ht7 := hide (Ht5.out.trans (Ht6.out.trans ht7))
  have hB7 := Nat.le_trans HB0.out Ht7.out.size
  have HB7 := hide hB7
  have c1 : w7.cell? ⟨kb, x * 3 + 1, none⟩ = some (.int .i64 (y : Int)) := by
    have := h7.b1 (i := x) Hx.out
    rw [this]
    show some (Value.int .i64 (D.nx x : Int)) = _
    rw [Hyn.out]
  have f1 := h7.blocks.free (x * 3 + 1)
  have Hs := hide (h7.set_next hB7 x (y + 1) (show y + 1 ≤ D.np from Hy.out))
  have e1 : wrap64 ((y : Int) + 1) = ((y + 1 : Nat) : Int) := by
    have h0 := h7.sides.2.2.2.1
    have h1 : y < D.np := Hy.out
    rw [i64w (by have : D.np ≤ 32 := h0; omega)]; rfl
  clear Fd Ht6 Ht5 h7 ht7 hB7
  go_wp2
  go_ret
  refine ⟨rfl, ?_, Ht7.out.trans (Tch.set (by simp) _)⟩
  have := Hs.out
  unfold Dv.progd
  rw [Hyn.out]
  exact this
end
end Go.Proofs.Ytppecnimpnlipaa
