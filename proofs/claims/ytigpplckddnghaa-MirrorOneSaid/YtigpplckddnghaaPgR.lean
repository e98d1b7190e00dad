/-
  CONTRACTS of page.read (and its closure) and page.carried.
-/
import Derived.Test.YtigpplckddnghaaPgP
import Derived.Test.YtigpplckddnghaaStrB
import Derived.Deep.DeepCutAuto
namespace Go.Proofs.Ytigpplckddnghaa
open Go.RowKit
set_option maxRecDepth 8000

theorem byteAt_drop (l : List UInt8) (o : Nat) (z : Nat) : byteAt (l.drop o) (z : Int) = byteAt l ((o : Int) + (z : Int)) := by
  rw [byteAt_nat, show ((o : Int) + (z : Int)) = ((o + z : Nat) : Int) by omega, byteAt_nat]
  simp [List.getD, List.getElem?_drop]
theorem numAt_drop (l : List UInt8) (o : Nat) : ∀ k, numAt (l.drop o) 0 k = numAt l (o : Int) k
  | 0 => rfl
  | k + 1 => by
    rw [numAt, numAt, numAt_drop l o k, Int.zero_add, byteAt_drop]
theorem byteAt_take (l : List UInt8) (m z : Nat) (h : z < m) : byteAt (l.take m) (z : Int) = byteAt l (z : Int) := by
  rw [byteAt_nat, byteAt_nat]
  simp [List.getD, h]
theorem numAt_takes (l : List UInt8) (m o : Nat) : ∀ k, o + k ≤ m → numAt (l.take m) (o : Int) k = numAt l (o : Int) k
  | 0, _ => rfl
  | k + 1, h => by
    rw [numAt, numAt, numAt_takes l m o k (by omega), show ((o : Int) + (k : Int)) = ((o + k : Nat) : Int) by omega, byteAt_take l m _ (by omega)]

/-- A page's head that is being read. -/
structure RdS (w0 : World) (rb g : Nat) (b : List UInt8) (off : Nat) (W : World) : Prop where
  box : W.heap[rb]? = some (.cells #[.pointer (some ⟨g, 0, none⟩)] 134 (0, 0))
  rdr : Rdr W g ((b.take 24).drop off) false
  below : Below w0.heap.size w0 W
  pos : w0.heap.size ≤ g ∧ g < rb
section
variable {w0 W W' : World} {rb g off : Nat} {b : List UInt8}
theorem RdS.lt (h : RdS w0 rb g b off W) : rb < W.heap.size := (Array.getElem?_eq_some_iff.1 h.box).1
theorem RdS.cell (h : RdS w0 rb g b off W) : W.cell? ⟨rb, 0, none⟩ = some (.pointer (some ⟨g, 0, none⟩)) := World.news_of_block h.box 0 _ rfl
theorem RdS.keep (h : RdS w0 rb g b off W) (hb : Below W.heap.size W W') : RdS w0 rb g b off W' :=
  ⟨(hb.block _ h.lt).trans h.box, h.rdr.keep hb, h.below.trans (hb.mono h.below.size), h.pos⟩
theorem RdS.drew (h : RdS w0 rb g b off W) : RdS w0 rb g b off W.drew := h.keep (Below.refl _ _).drew
theorem RdS.n (h : RdS w0 rb g b off W) (hb : b.length = 256) (k : Nat) (ki : Int) (hk : ki = (k : Int)) (h1 : 1 ≤ k) (h8 : k ≤ 8) (ho : off + k ≤ 24) :
    Calls Try.prog 85 #[.pointer (some ⟨g, 0, none⟩), .int .i64 ki] W fun e W' => e = .returned (.int .u64 (numAt b (off : Int) k : Nat)) ∧ RdS w0 rb g b (off + k) W' ∧ W.grownBy W' (some g) := by
  subst hk
  have hl : ((b.take 24).drop off).length = 24 - off := by rw [List.length_drop, List.length_take, hb]; omega
  refine (n_any g _ false (k : Int) W h.rdr (by omega) (by omega)).mono ?_
  rintro e W' ⟨x, rfl, hx, hg⟩
  have hn : Rdr W' g ((b.take 24).drop (off + k)) false ∧ x = numAt b (off : Int) k := by
    rcases hx with ⟨_, _, _, rfl, hr⟩ | ⟨hn, _⟩
    · rw [Int.toNat_natCast] at hr ⊢
      rw [List.drop_drop] at hr
      exact ⟨hr, by rw [numAt_drop, numAt_takes _ _ _ _ ho]⟩
    · exact absurd ⟨by omega, by omega, by rw [hl]; omega⟩ hn
  obtain ⟨hr, rfl⟩ := hn
  have hp := h.pos
  refine ⟨rfl, ⟨(hg.block rb h.lt (by intro e; injection e with e; omega)).trans h.box, hr, h.below.trans ⟨hg.os, hg.tape, hg.output, hg.size, fun q hq => hg.block q (Nat.lt_of_lt_of_le hq h.below.size) (by intro e; injection e with e; omega)⟩, hp⟩, hg⟩
/-- The closure that reads a small number. -/
theorem RdS.n1 (h : RdS w0 rb g b off W) (hb : b.length = 256) (k : Nat) (ki : Int) (hk : ki = (k : Int)) (h1 : 1 ≤ k) (h8 : k ≤ 2) (ho : off + k ≤ 24) :
    Calls Try.prog 84 #[.int .i64 ki, .pointer (some ⟨rb, 0, none⟩)] W fun e W' => e = .returned (.int .i64 (numAt b (off : Int) k : Nat)) ∧ RdS w0 rb g b (off + k) W' ∧ W.grownBy W' (some g) := by
  have F := hide (h.n hb k ki hk h1 (by omega) ho)
  have c0 := h.cell
  have hlt : numAt b (off : Int) k < 65536 := Nat.lt_of_lt_of_le (numAt_lt b _ k) (Nat.pow_le_pow_right (n := 256) (by decide) h8)
  generalize numAt b (off : Int) k = x at *
  have e1 : IntKind.i64.wrap (x : Int) = (x : Int) := IntWalk.i64_in _ (by omega)
  clear h hb hk h1 h8 ho hlt
  go_enter Try.func84, Try.ntmps84
  go_wp2_with fail
  (with_reducible refine F.out.mono ?_)
  rintro e w1 ⟨rfl, hS, hg⟩
  have H1 := hide hS
  have H2 := hide hg
  clear hS hg F
  go_wp2
  go_ret
  exact ⟨rfl, H1.out, H2.out⟩
end
theorem carried_any (A : Option Addr) (c B : Nat) (b : List UInt8) (h : Hd) (w : World) (hl : Lies w B A (bys b)) (hb : b.length = 256) (hc : 256 ≤ c) (h0 : 0 ≤ h.len) (h1 : h.len ≤ 228) (hB : B ≤ w.heap.size) :
    Calls Try.prog 75 #[.slice A 256 c, h.val] w fun e w' => e = .returned (.string (str ((b.drop 24).take h.len.toNat))) ∧ Below w.heap.size w w' := by
  have hx1 : BoxH h w.heap.size (w.alloc (.cells h.cells.toArray 89)) := BoxH.new h w
  have hb1 := (Below.refl w.heap.size w).alloc (Nat.le_refl _) (.cells h.cells.toArray 89)
  rcases h with ⟨kd, ix, ct, bt, op, lp, ln⟩
  dsimp only at *
  obtain ⟨n, rfl⟩ := Int.eq_ofNat_of_zero_le h0
  have hl2 := ((hl.below (hb1.mono hB)).drop 24 c (by rw [bys_len]; omega)).take n
  rw [if_neg (show ¬ c = 24 by omega), ← bys_drop, ← bys_take, show (fun x : Addr => x.add 24) = fun x => ⟨x.block, x.off + 24, none⟩ from funext fun x => add_offP x 23] at hl2
  rw [Int.toNat_natCast]
  have hst := strU8 (n := n) (c - 24) hl2 (by rw [List.length_take, List.length_drop, hb]; omega)
  obtain ⟨m, hm⟩ : ∃ m, m = 24 + n := ⟨_, rfl⟩
  have e1 : wrap64 (24 + (n : Int)) = (m : Int) := by unfold wrap64; omega
  have e2 : IntKind.i64.wrap (24 + (n : Int)) = (m : Int) := by rw [show 24 + (n : Int) = (m : Int) by omega]; exact IntWalk.i64_in _ (by omega)
  have i1 : (24 : Int) ≤ (m : Int) := by omega
  have i2 : (m : Int) ≤ (c : Int) := by omega
  have hne : ¬ c = 24 := by omega
  have c6 := hx1.c 6 _ rfl
  dsimp only at c6
  have es : m - 24 = n := by omega
  have HB := hide hb1
  clear hx1 hb1 hl hl2 hb hc h0 h1 hm
  unfold Hd.val at *
  unfold Hd.cells at *
  dsimp only at *
  go_enter Try.func75, Try.ntmps75
  go_wp2
  go_ret
  exact ⟨rfl, HB.out⟩
end Go.Proofs.Ytigpplckddnghaa
