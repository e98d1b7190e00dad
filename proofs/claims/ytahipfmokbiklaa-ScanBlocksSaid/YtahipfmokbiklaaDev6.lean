/-
  CALLS that came in to the laws of layer 14; texts made.
  CONTRACTS of package nand: Program.
  LAYER 14, plain: what Program, Erase and Read answer and leave. (Cut out of Dev6, Dev7, DvR.)
  CONTRACTS of package nand: Program, an operation.
-/
import Derived.Test.YtahipfmokbiklaaPlan
import Derived.Test.YtahipfmokbiklaaDev10
import Derived.Test.YtahipfmokbiklaaGeoP
import Derived.Test.YtahipfmokbiklaaBig
import Derived.Deep.DeepCutAuto
import Derived.Test.YtahipfmokbiklaaOnes
import Derived.Test.YtahipfmokbiklaaDev
import Derived.Test.YtahipfmokbiklaaWords
namespace Go.Proofs.Ytahipfmokbiklaa
section
open Go.RowKit
open Go.Sort

/-- A call that came in. -/
structure Ac where
  kind : Int
  x : Int
  y : Int
  A : Option Addr
  n : Nat
  c : Nat
  m : List UInt8
def Ac.cells (a : Ac) : List Value := [.int .i64 a.kind, .int .i64 a.x, .int .i64 a.y, .slice a.A a.n a.c]
theorem Ac.cells_len (a : Ac) : a.cells.length = 4 := rfl
structure Ac.Ok (w : World) (B : Nat) (a : Ac) : Prop where
  lies : Lies w B a.A (bys a.m)
  len : a.n = a.m.length
theorem Ac.Ok.below {w w' : World} {B : Nat} {a : Ac} (h : a.Ok w B) (hb : Below B w w') : a.Ok w' B := ⟨h.lies.below hb, h.len⟩

theorem infoStr : (Try.prog.info? 9).map (fun i => (i.zero, i.size, i.bytes)) = some (some (.string ⟨#[]⟩), 1, 16) := by kernel_rfl
end
section
open Go.RowKit

section
variable {w : World} {B0 B : Nat} {D : Dv} {k kb kp km : Nat}
theorem prog_bad0 (v : Value) (x y : Int) (A : Option Addr) (n c : Nat) (e0 : Int) (hc : e0 ≠ 0)
    (hp : Calls Try.prog 46 #[v, .agg #[.int .i64 x, .int .i64 y]] (w.alloc (.cells #[.int .i64 x, .int .i64 y] 46)) fun e w' => e = .returned (.tuple #[.slice none 0 0, .int .i64 e0]) ∧
      Below (w.alloc (.cells #[.int .i64 x, .int .i64 y] 46)).heap.size (w.alloc (.cells #[.int .i64 x, .int .i64 y] 46)) w') :
    Calls Try.prog 24 #[v, .agg #[.int .i64 x, .int .i64 y], .slice A n c] w fun e w' => e = .returned (.int .i64 e0) ∧ Below w.heap.size w w' := by
  have Hb1 := hide ((Below.refl w.heap.size w).alloc (Nat.le_refl _) (.cells #[.int .i64 x, .int .i64 y] 46))
  have Hp := hide hp
  have hc2 : (e0 != 0) = true := bne_iff_ne.2 hc
  clear hp
  go_enter Try.func24, Try.ntmps24
  go_wp2_with fail
  (with_reducible refine Hp.out.mono ?_)
  rintro e w3 ⟨rfl, hb⟩
  have Hb3 := hide (Hb1.out.trans (hb.mono Hb1.out.size))
  clear hb Hp Hb1
  go_wp2
  go_ret
  exact ⟨rfl, Hb3.out⟩
theorem prog_down (h : DevAt w B0 B D k kb kp km) (hB : B ≤ w.heap.size) (x y : Int) (A : Option Addr) (n c : Nat) (hd : D.dn = true) :
    Calls Try.prog 24 #[.pointer (some ⟨k, 0, none⟩), .agg #[.int .i64 x, .int .i64 y], .slice A n c] w fun e w' => e = .returned (.int .i64 9) ∧ Below w.heap.size w w' :=
  prog_bad0 _ x y A n c 9 (by decide) (page_down (h.alloc hB _) (by simp; omega) x y hd)
theorem prog_out (h : DevAt w B0 B D k kb kp km) (hB : B ≤ w.heap.size) (x y : Int) (A : Option Addr) (n c : Nat) (hd : D.dn = false) (hx : ¬ D.g.Has x y) :
    Calls Try.prog 24 #[.pointer (some ⟨k, 0, none⟩), .agg #[.int .i64 x, .int .i64 y], .slice A n c] w fun e w' => e = .returned (.int .i64 3) ∧ Below w.heap.size w w' :=
  prog_bad0 _ x y A n c 3 (by decide) (page_out (h.alloc hB _) (by simp; omega) x y hd hx)
theorem prog_marked (h : DevAt w B0 B D k kb kp km) (hB : B ≤ w.heap.size) (x y : Nat) (A : Option Addr) (c : Nat) (hd : D.dn = false) (hx : x < D.nb) (hy : y < D.np) (hm : D.bad x = true) :
    Calls Try.prog 24 #[.pointer (some ⟨k, 0, none⟩), .agg #[.int .i64 (x : Int), .int .i64 (y : Int)], .slice A 256 c] w fun e w' => e = .returned (.int .i64 12) ∧ Below w.heap.size w w' := by
  have hB1 : B ≤ (w.alloc (.cells #[.int .i64 (x : Int), .int .i64 (y : Int)] 46)).heap.size := by simp; omega
  have h1 := h.alloc hB (.cells #[.int .i64 (x : Int), .int .i64 (y : Int)] 46)
  have Hp := hide (page_ok h1 hB1 x y hd hx hy)
  have Hb1 := hide ((Below.refl w.heap.size w).alloc (Nat.le_refl _) (.cells #[.int .i64 (x : Int), .int .i64 (y : Int)] 46))
  have HB := hide hB1
  have H1 := hide h1
  have Hx := hide hx
  have Hm := hide hm
  have p0 : (w.alloc (.cells #[.int .i64 (x : Int), .int .i64 (y : Int)] 46)).cell? ⟨w.heap.size, 0, none⟩ = some (.int .i64 (x : Int)) := by simp
  have hlt : w.heap.size < (w.alloc (.cells #[.int .i64 (x : Int), .int .i64 (y : Int)] 46)).heap.size := by simp
  have P0 := hide (fun W (hb : Below (w.alloc (.cells #[.int .i64 (x : Int), .int .i64 (y : Int)] 46)).heap.size (w.alloc (.cells #[.int .i64 (x : Int), .int .i64 (y : Int)] 46)) W) => (hb.cell (p := ⟨w.heap.size, 0, none⟩) hlt).trans p0)
  clear h hB hd hx hy hB1 h1 p0 hlt hm
  go_enter Try.func24, Try.ntmps24
  go_wp2_with fail
  (with_reducible refine Hp.out.mono ?_)
  rintro e w3 ⟨rfl, hb⟩
  have Hb3 := hide (Hb1.out.trans (hb.mono Hb1.out.size))
  have p0 := P0.out w3 hb
  have h3 := H1.out.below (hb.mono HB.out)
  have fb := block_some h3 x Hx.out
  have c0 := h3.b0 Hx.out
  rw [Hm.out] at c0
  clear hb Hp Hb1 P0 H1 h3
  go_wp2_with (go_at_call 44; (with_reducible refine fb.mono ?_); rintro e w2 ⟨rfl, rfl⟩; clear fb)
  go_ret
  exact ⟨rfl, Hb3.out⟩
theorem prog_order (h : DevAt w B0 B D k kb kp km) (hB : B ≤ w.heap.size) (x y : Nat) (A : Option Addr) (c : Nat) (hd : D.dn = false) (hx : x < D.nb) (hy : y < D.np) (hm : D.bad x = false) (ho : y ≠ D.nx x) :
    Calls Try.prog 24 #[.pointer (some ⟨k, 0, none⟩), .agg #[.int .i64 (x : Int), .int .i64 (y : Int)], .slice A 256 c] w fun e w' => e = .returned (.int .i64 11) ∧ Below w.heap.size w w' := by
  have hB1 : B ≤ (w.alloc (.cells #[.int .i64 (x : Int), .int .i64 (y : Int)] 46)).heap.size := by simp; omega
  have h1 := h.alloc hB (.cells #[.int .i64 (x : Int), .int .i64 (y : Int)] 46)
  have Hp := hide (page_ok h1 hB1 x y hd hx hy)
  have Hb1 := hide ((Below.refl w.heap.size w).alloc (Nat.le_refl _) (.cells #[.int .i64 (x : Int), .int .i64 (y : Int)] 46))
  have HB := hide hB1
  have H1 := hide h1
  have Hx := hide hx
  have Hm := hide hm
  have p0 : (w.alloc (.cells #[.int .i64 (x : Int), .int .i64 (y : Int)] 46)).cell? ⟨w.heap.size, 0, none⟩ = some (.int .i64 (x : Int)) := by simp
  have p1 : (w.alloc (.cells #[.int .i64 (x : Int), .int .i64 (y : Int)] 46)).cell? ⟨w.heap.size, 1, none⟩ = some (.int .i64 (y : Int)) := by simp
  have hlt : w.heap.size < (w.alloc (.cells #[.int .i64 (x : Int), .int .i64 (y : Int)] 46)).heap.size := by simp
  have P0 := hide (fun W (hb : Below (w.alloc (.cells #[.int .i64 (x : Int), .int .i64 (y : Int)] 46)).heap.size (w.alloc (.cells #[.int .i64 (x : Int), .int .i64 (y : Int)] 46)) W) => And.intro ((hb.cell (p := ⟨w.heap.size, 0, none⟩) hlt).trans p0) ((hb.cell (p := ⟨w.heap.size, 1, none⟩) hlt).trans p1))
  have hne : ((y : Int) != (D.nx x : Int)) = true := bne_iff_ne.2 (by omega)
  clear h hB hd hx hy hB1 h1 p0 p1 hlt hm ho
  go_enter Try.func24, Try.ntmps24
  go_wp2_with fail
  (with_reducible refine Hp.out.mono ?_)
  rintro e w3 ⟨rfl, hb⟩
  have Hb3 := hide (Hb1.out.trans (hb.mono Hb1.out.size))
  obtain ⟨p0, p1⟩ := P0.out w3 hb
  have h3 := H1.out.below (hb.mono HB.out)
  have fb := block_some h3 x Hx.out
  have c0 := h3.b0 Hx.out
  have c1 := h3.b1 Hx.out
  rw [Hm.out] at c0
  clear hb Hp Hb1 P0 H1 h3
  go_wp2_with (go_at_call 44; (with_reducible refine fb.mono ?_); rintro e w2 ⟨rfl, rfl⟩; clear fb)
  go_quiet (fail)
  go_wp2
  go_ret
  exact ⟨rfl, bel_drewN Hb3.out _⟩
end
end
section
open Go.RowKit

/-- The device behind a program. -/
def Dv.progd (D : Dv) (x : Nat) (b : List UInt8) : Dv :=
  { D.begun with pg := upd D.pg (x * D.np + D.nx x) (progL (D.pg (x * D.np + D.nx x)) b D.mask), nx := upd D.nx x (D.nx x + 1) }

theorem upd_upd {α : Type} (f : Nat → α) (i : Nat) (u v : α) : upd (upd f i u) i v = upd f i v := by
  funext j; unfold upd; split <;> simp_all
/-- The first j pages of block x erased. -/
def Dv.erpg (D : Dv) (x j : Nat) (m : List UInt8) : Nat → List UInt8 := fun q => if x * D.np ≤ q ∧ q < x * D.np + j then erasL (D.pg q) m else D.pg q
theorem Dv.erpg_zero (D : Dv) (x : Nat) (m : List UInt8) : D.erpg x 0 m = D.pg := by
  funext q; unfold Dv.erpg; rw [if_neg (by omega)]
theorem Dv.erpg_next (D : Dv) (x j : Nat) (m : List UInt8) : upd (D.erpg x j m) (x * D.np + j) (erasL (D.erpg x j m (x * D.np + j)) m) = D.erpg x (j + 1) m := by
  funext q
  unfold upd Dv.erpg
  generalize x * D.np = z
  by_cases h : q = z + j
  · subst h
    rw [if_pos rfl, if_neg (by omega), if_pos (by omega)]
  · rw [if_neg h]
    by_cases h2 : z ≤ q ∧ q < z + j
    · rw [if_pos h2, if_pos (by omega)]
    · rw [if_neg h2, if_neg (by omega)]

/-- The device behind an erase. -/
def Dv.erased (D : Dv) (x : Nat) : Dv :=
  { D.begun with pg := D.erpg x D.np D.mask, we := upd D.we x (D.we x + 1), nx := upd D.nx x (if D.err = 0 then 0 else D.np) }

/-- What a program answers, and what it leaves. -/
def Dv.progR (D : Dv) (x y : Int) (b : List UInt8) : Int × Dv :=
  if D.dn = true then (9, D) else if ¬ D.g.Has x y then (3, D) else if D.bad x.toNat = true then (12, D) else if y ≠ (D.nx x.toNat : Int) then (11, D) else (D.err, D.progd x.toNat b)
/-- What an erase answers, and what it leaves. -/
def Dv.eraR (D : Dv) (x : Int) : Int × Dv :=
  if D.dn = true then (9, D) else if ¬ (0 ≤ x ∧ x < (D.nb : Int)) then (3, D) else if D.bad x.toNat = true then (12, D) else (D.err, D.erased x.toNat)
theorem Gm.Has.nats {D : Dv} {x y : Int} (hs : D.g.b = (D.nb : Int) ∧ D.g.p = (D.np : Int)) (h : D.g.Has x y) : ∃ i j : Nat, x = (i : Int) ∧ y = (j : Int) ∧ i < D.nb ∧ j < D.np := by
  obtain ⟨h1, h2, h3, h4⟩ := h
  rw [hs.1] at h2
  rw [hs.2] at h4
  exact ⟨x.toNat, y.toNat, by omega, by omega, by omega, by omega⟩
theorem Dv.progR_g (D : Dv) (x y : Int) (b : List UInt8) : (D.progR x y b).2.g = D.g := by
  unfold Dv.progR
  repeat (first | rfl | split)
theorem Dv.progR_ops (D : Dv) (x y : Int) (b : List UInt8) : (D.progR x y b).2.ops ≤ D.ops + 1 := by
  unfold Dv.progR
  split
  · exact Nat.le_succ _
  split
  · exact Nat.le_succ _
  split
  · exact Nat.le_succ _
  split
  · exact Nat.le_succ _
  exact Nat.le_refl _
theorem Dv.eraR_g (D : Dv) (x : Int) : (D.eraR x).2.g = D.g := by
  unfold Dv.eraR
  repeat (first | rfl | split)
theorem Dv.eraR_ops (D : Dv) (x : Int) : (D.eraR x).2.ops ≤ D.ops + 1 := by
  unfold Dv.eraR
  split
  · exact Nat.le_succ _
  split
  · exact Nat.le_succ _
  split
  · exact Nat.le_succ _
  exact Nat.le_refl _

/-- What a read answers. -/
def Dv.readR (D : Dv) (x y : Int) : Int × List UInt8 :=
  if D.dn = true then (9, []) else if ¬ D.g.Has x y then (3, []) else (0, D.pg (x.toNat * D.np + y.toNat))
end
section
open Go.RowKit

section
variable {w : World} {B0 B : Nat} {D : Dv} {k kb kp km : Nat}
theorem DevAt.lies_tch (h : DevAt w B0 B D k kb kp km) {w' : World} {A : Option Addr} {l : List UInt8} {B2 : Nat} (hB2 : B2 ≤ w.heap.size) (hl : LiesT w B2 A l) (ht : Tch [k, kb, kp] w w') : LiesT w' B2 A l := by
  obtain ⟨cb, h1, _⟩ := h.blocks
  obtain ⟨cp, h2, _⟩ := h.pages
  have h0 := h.box
  refine hl.kept (fun b hb ⟨cs, fr, hc⟩ => ht.block b (by omega) ?_)
  simp only [List.mem_cons, List.not_mem_nil, or_false, not_or]
  refine ⟨?_, ?_, ?_⟩ <;> rintro rfl
  · rw [h0] at hc; simp at hc
  · rw [h1] at hc; simp at hc
  · rw [h2] at hc; simp at hc
theorem off_three {k kb kp g B : Nat} (h : k < B ∧ kb < B ∧ kp < B) (hg : B ≤ g) : g ∉ [k, kb, kp] := by
  simp only [List.mem_cons, List.not_mem_nil, or_false, not_or]
  omega

set_option maxRecDepth 4000 in
set_option maxHeartbeats 1000000 in
theorem prog_ok (h : DevAt w B0 B D k kb kp km) (hB : B ≤ w.heap.size) (x : Nat) (A : Option Addr) (c : Nat) (b : List UInt8) (hd : D.dn = false) (hx : x < D.nb) (hy : D.nx x < D.np) (hm : D.bad x = false) (hops : D.ops < 1000000)
    (hb : LiesT w w.heap.size A b) (hbl : b.length = 256) :
    Calls Try.prog 24 #[.pointer (some ⟨k, 0, none⟩), .agg #[.int .i64 (x : Int), .int .i64 (D.nx x : Int)], .slice A 256 c] w fun e w' => e = .returned (.int .i64 D.err) ∧
      DevAt w' B0 B (D.progd x b) k kb kp km ∧ Tch [k, kb, kp] w w' := by
  generalize hyn : D.nx x = y at *
  have Hyn := hide hyn
  have hi3 := h.hi
  have hB1 : B ≤ (w.alloc (.cells #[.int .i64 (x : Int), .int .i64 (y : Int)] 46)).heap.size := by simp; omega
  have h1 := h.alloc hB (.cells #[.int .i64 (x : Int), .int .i64 (y : Int)] 46)
  have Hp := hide (page_ok h1 hB1 x y hd hx hy)
  have b1 := (Below.refl w.heap.size w).alloc (Nat.le_refl _) (.cells #[.int .i64 (x : Int), .int .i64 (y : Int)] 46)
  have hlb1 : LiesT (w.alloc (.cells #[.int .i64 (x : Int), .int .i64 (y : Int)] 46)) w.heap.size A b := hb.kept (fun q hq _ => b1.block q hq)
  have Hb1 := hide b1
  have HB := hide hB1
  have H1 := hide h1
  have Hx := hide hx
  have Hm := hide hm
  have Hops := hide hops
  have Hbl := hide hbl
  have Hi3 := hide hi3
  have Hy := hide hy
  have HB0 := hide hB
  have p0 : (w.alloc (.cells #[.int .i64 (x : Int), .int .i64 (y : Int)] 46)).cell? ⟨w.heap.size, 0, none⟩ = some (.int .i64 (x : Int)) := by simp
  have p1 : (w.alloc (.cells #[.int .i64 (x : Int), .int .i64 (y : Int)] 46)).cell? ⟨w.heap.size, 1, none⟩ = some (.int .i64 (y : Int)) := by simp
  have hlt : w.heap.size < (w.alloc (.cells #[.int .i64 (x : Int), .int .i64 (y : Int)] 46)).heap.size := by simp
  have P0 := hide (fun W (hb : Below (w.alloc (.cells #[.int .i64 (x : Int), .int .i64 (y : Int)] 46)).heap.size (w.alloc (.cells #[.int .i64 (x : Int), .int .i64 (y : Int)] 46)) W) => And.intro ((hb.cell (p := ⟨w.heap.size, 0, none⟩) hlt).trans p0) ((hb.cell (p := ⟨w.heap.size, 1, none⟩) hlt).trans p1))
  have Hlb := hide (fun W (hb : Below (w.alloc (.cells #[.int .i64 (x : Int), .int .i64 (y : Int)] 46)).heap.size (w.alloc (.cells #[.int .i64 (x : Int), .int .i64 (y : Int)] 46)) W) => (hlb1.kept (w' := W) (fun q hq _ => hb.block q (by simp; omega))).up (Nat.le_trans (by simp) hb.size))
  have hne : ((y : Int) != (y : Int)) = false := by simp
  clear h hB hd hx hy hB1 h1 p0 p1 hlt hm b1 hlb1 hyn hi3 hb hbl hops
  go_enter Try.func24, Try.ntmps24
  go_wp2_with fail
  (with_reducible refine Hp.out.mono ?_)
  rintro e w3 ⟨rfl, hb⟩
  have Hb3 := hide (Hb1.out.trans (hb.mono Hb1.out.size))
  obtain ⟨p0, p1⟩ := P0.out w3 hb
  have h3 := H1.out.below (hb.mono HB.out)
  have HB3 := hide (Nat.le_trans HB.out hb.size)
  have Hl3 := hide (Hlb.out w3 hb)
  have fb := block_some h3 x Hx.out
  have c0 := h3.b0 Hx.out
  have c1 := h3.b1 Hx.out
  rw [Hm.out] at c0
  rw [Hyn.out] at c1
  have H3 := hide h3
  clear hb Hp Hb1 P0 H1 h3 HB Hlb
  go_wp2_with (go_at_call 44; (with_reducible refine fb.mono ?_); rintro e w2 ⟨rfl, rfl⟩; clear fb)
  go_quiet (fail)
  go_wp2_with fail
  have h4 : DevAt (w3.drewN nq) B0 B D k kb kp km := H3.out.below (bel_drewN (Below.refl B w3) _)
  have hl4 : LiesT (w3.drewN nq) (w3.drewN nq).heap.size A b := Hl3.out
  have Hb4 := hide (bel_drewN Hb3.out nq)
  have HB4 := hide (show B ≤ (w3.drewN nq).heap.size from HB3.out)
  clear p0 p1 c0 c1 H3 Hl3 Hb3 HB3 hne
  generalize w3.drewN nq = w4 at *
  have H4 := hide h4
  have Hl4 := hide hl4
  have Fb := hide (begin_any h4 HB4.out Hops.out)
  clear h4 hl4
  (with_reducible refine Fb.out.mono ?_)
  rintro e w5 ⟨A3, m3, c3, rfl, hm3, hl3, hd5, ht5⟩
  have Hm3 := hide hm3
  have hl5 := H4.out.lies_tch (Nat.le_refl _) Hl4.out ht5
  have hs5 := ht5.size
  have HB5 := hide (Nat.le_trans HB4.out hs5)
  have Ht5 := hide ((Tch.of_below (S := [k, kb, kp]) Hb4.out).trans ht5)
  have b6 := ((Below.refl w5.heap.size w5).alloc (Nat.le_refl _) (.cells #[.slice A 256 c] 65)).alloc (by simp) (.cells #[.slice A3 m3 c3] 65)
  have h6 := hd5.below (b6.mono HB5.out)
  have hi : x * D.np + y < D.nb * D.np := lt_mul Hx.out Hy.out
  have Fd := hide (doProg_any h6 (Nat.le_trans HB5.out b6.size) (x * D.np + y) hi w5.heap.size (w5.heap.size + 1) w5.heap.size A A3 c m3 c3 b D.mask b6.size (by simp) (by simp) ((hl5.lies.up hs5).below b6) Hbl.out (hl3.lies.below b6) Hm3.out)
  have Ht6 := hide (Tch.of_below (S := [k, kb, kp]) b6)
  clear h6 b6 hl5 hl3 hd5 ht5 hs5 hm3 Fb H4 Hl4 Hb4 HB4 hi
  go_wp2_with fail
  (with_reducible refine (makeProg_any A A3 256 c m3 c3 _).mono ?_)
  rintro e w6 ⟨rfl, hw6⟩
  subst hw6
  go_wp2_with fail
  (with_reducible refine Fd.out.mono ?_)
  rintro e w7 ⟨rfl, h7, ht7⟩
  have Ht7 := hide (Ht5.out.trans (Ht6.out.trans ht7))
  have hB7 := Nat.le_trans HB0.out Ht7.out.size
  have HB7 := hide hB7
  have c1 : w7.cell? ⟨kb, x * 3 + 1, none⟩ = some (.int .i64 (y : Int)) := by
    have := h7.b1 (i := x) Hx.out
    rw [this]
    show some (Value.int .i64 (D.nx x : Int)) = _
    rw [Hyn.out]
  have f1 := h7.blocks.free (x * 3 + 1)
  have Hs := hide (h7.set_next hB7 x (y + 1) (show y + 1 ≤ D.np from Hy.out))
  have e1 : wrap64 ((y : Int) + 1) = ((y + 1 : Nat) : Int) := by
    have h0 := h7.sides.2.2.2.1
    have h1 : y < D.np := Hy.out
    rw [i64w (by have : D.np ≤ 32 := h0; omega)]; rfl
  clear Fd Ht6 Ht5 h7 ht7 hB7
  go_wp2
  go_ret
  refine ⟨rfl, ?_, Ht7.out.trans (Tch.set (by simp) _)⟩
  have := Hs.out
  unfold Dv.progd
  rw [Hyn.out]
  exact this
end
end
end Go.Proofs.Ytahipfmokbiklaa
