/-
  CONTRACT of the reference's Class. (Cut out of PgY.)
  ROWS THAT ARE KEPT; measures of loops. Nothing here speaks of one function. (Cut out of TbQ, TbF.)
  LAYER 18: finds as mathematics and as cells. Contracts of package scan: Data.
-/
import Derived.Test.YtahipfmokbiklaaPgH
import Derived.Test.YtahipfmokbiklaaWords
import Derived.Test.YtahipfmokbiklaaFlo4
import Derived.Test.YtahipfmokbiklaaPgG
import Derived.Test.YtahipfmokbiklaaElem
namespace Go.Proofs.Ytahipfmokbiklaa
section
open Go.RowKit

set_option maxRecDepth 4000 in
set_option maxHeartbeats 2000000 in
theorem class15_any (b : List UInt8) (w : World) (hsm : b.length ≤ 1000000) : Calls Try.prog 14 #[.string (str b)] w fun e w' => e = .returned (.int .i64 (classN b : Nat)) ∧ Below w.heap.size w w' := by
  have FO : Hid (Calls Try.prog 39 #[.int .i64 256] w fun e w' => ∃ A' c', e = .returned (.slice A' 256 c') ∧ w'.ownsRow w.heap.size 5 1 (.slice A' 256 c') 256 (bys (List.replicate 256 255)) ∧ Below w.heap.size w w') := hide (ones2_any 256 w (by omega))
  obtain ⟨r, hrep⟩ : ∃ r : List UInt8, Hid (r = List.replicate 256 255) := ⟨_, hide rfl⟩
  have hrl : Hid (r.length = 256) := hide (by rw [hrep.out, List.length_replicate])
  rw [← hrep.out] at FO
  have hbq := str_beqH b r
  have Fg := hide (fun W => get15_any b W hsm)
  by_cases h0 : b = r
  · have hr : classN b = 0 := by unfold classN; rw [if_pos (h0.trans hrep.out)]
    rw [decide_eq_true h0] at hbq
    rw [hr]
    clear h0 hr hsm Fg hrep
    go_enter Try.func14, Try.ntmps14
    go_wp2_with fail
    (with_reducible refine FO.out.mono ?_)
    rintro e w2 ⟨A2, c2, rfl, ho, hb⟩
    have hs := strU8 c2 (Lies.of_own ho) hrl.out.symm
    have HB := hide hb
    clear ho hb FO
    go_wp2
    go_ret
    exact ⟨rfl, HB.out⟩
  · rw [decide_eq_false h0] at hbq
    have hr : classN b = if rightB b = true then 1 else 2 := by unfold classN; rw [if_neg (by rw [← hrep.out]; exact h0)]
    rw [hr]
    generalize (get15 b).1 = h at *
    generalize (get15 b).2 = d at *
    rcases h with ⟨kd, ix, ct, bt, op, lp, ln⟩
    clear h0 hr hsm hrep
    unfold Hd.val at Fg
    dsimp only at Fg
    cases hrb : rightB b with
    | true =>
      rw [hrb] at Fg
      go_enter Try.func14, Try.ntmps14
      go_wp2_with fail
      (with_reducible refine FO.out.mono ?_)
      rintro e w2 ⟨A2, c2, rfl, ho, hb⟩
      have hs := strU8 c2 (Lies.of_own ho) hrl.out.symm
      have HB := hide hb
      clear ho hb FO hrb
      go_wp2_with fail
      (with_reducible refine (Fg.out _).mono ?_)
      rintro e w3 ⟨rfl, hb⟩
      have hb3 := HB.out.trans (hb.mono HB.out.size)
      have HB3 := hide (hb3.alloc hb3.size (.cells #[.int .i64 kd, .int .i64 ix, .int .i64 ct, .int .u64 (bt : Int), .int .u64 (op : Int), .int .i64 lp, .int .i64 ln] 42))
      clear hb hb3 hs Fg HB
      go_wp2
      go_ret
      exact ⟨rfl, HB3.out⟩
    | false =>
      rw [hrb] at Fg
      go_enter Try.func14, Try.ntmps14
      go_wp2_with fail
      (with_reducible refine FO.out.mono ?_)
      rintro e w2 ⟨A2, c2, rfl, ho, hb⟩
      have hs := strU8 c2 (Lies.of_own ho) hrl.out.symm
      have HB := hide hb
      clear ho hb FO hrb
      go_wp2_with fail
      (with_reducible refine (Fg.out _).mono ?_)
      rintro e w3 ⟨rfl, hb⟩
      have hb3 := HB.out.trans (hb.mono HB.out.size)
      have HB3 := hide (hb3.alloc hb3.size (.cells #[.int .i64 kd, .int .i64 ix, .int .i64 ct, .int .u64 (bt : Int), .int .u64 (op : Int), .int .i64 lp, .int .i64 ln] 42))
      clear hb hb3 hs Fg HB
      go_wp2
      go_ret
      exact ⟨rfl, HB3.out⟩
end
section
open Go.RowKit

theorem own_keepT {w w' : World} {B k n : Nat} {e : TypeId} {v : Value} {xs : List Value} (h : w.ownsRow B e k v n xs) (hb : Below w.heap.size w w') : w'.ownsRow B e k v n xs :=
  h.kept (row := none) (grown_below hb) (by cases hv : v.ownBlock <;> simp)
theorem measT {K Z : Nat} (h : K < Z) : Z - (intOf (.int .i64 ((K + 1 : Nat) : Int))).toNat < Z - (intOf (.int .i64 (K : Int))).toNat := by
  show Z - (((K + 1 : Nat) : Int)).toNat < Z - ((K : Int)).toNat
  rw [Int.toNat_natCast, Int.toNat_natCast]
  omega
theorem measT2 {K Z : Nat} {z : Int} (e : z = ((K + 1 : Nat) : Int)) (h : K < Z) : Z - (intOf (.int .i64 z)).toNat < Z - (intOf (.int .i64 (K : Int))).toNat := by
  rw [e]; exact measT h
theorem own_lowS {w : World} {base n size : Nat} {e : TypeId} {v : Value} {xs : List Value} (h : w.ownsRow base e size v n xs) : ∀ q, v.ownBlock = some q → base ≤ q ∧ q < w.heap.size := by
  intro q e
  rcases h.2 with ⟨hv, _⟩ | ⟨g2, cap, cur, hv, h3, h4, _⟩
  · rw [hv] at e; cases e
  · rw [hv] at e
    have e' : some g2 = some q := e
    injection e' with e'
    have := (Array.getElem?_eq_some_iff.1 h4).1
    omega
end
section
open Go.RowKit
set_option maxRecDepth 8000

/-- A find: block, page, head. -/
structure Fd where
  x : Nat
  y : Nat
  h : Hd
deriving DecidableEq
def Fd.cells (f : Fd) : List Value := [.int .i64 (f.x : Int), .int .i64 (f.y : Int), .int .i64 f.h.kind, .int .i64 f.h.index, .int .i64 f.h.count, .int .u64 (f.h.batch : Int), .int .u64 (f.h.opn : Int), .int .i64 f.h.lpn, .int .i64 f.h.len]
def Fd.val (f : Fd) : Value := .agg #[.int .i64 (f.x : Int), .int .i64 (f.y : Int), .int .i64 f.h.kind, .int .i64 f.h.index, .int .i64 f.h.count, .int .u64 (f.h.batch : Int), .int .u64 (f.h.opn : Int), .int .i64 f.h.lpn, .int .i64 f.h.len]
def zeroFd : Fd := ⟨0, 0, zeroHd⟩
theorem Fd.cells_len (f : Fd) : f.cells.length = 9 := rfl
theorem infoFd : (Try.prog.info? 48).map (·.size) = some 9 := by kernel_rfl
def rowD (l : List Fd) : List Value := l.flatMap Fd.cells
theorem rowD_app (l : List Fd) (x : Fd) : rowD (l ++ [x]) = rowD l ++ x.cells := by simp [rowD]
/-- A find in its box. -/
def BoxF (f : Fd) (k : Nat) (w : World) : Prop := w.heap[k]? = some (.cells f.cells.toArray 48 (0, 0))
section
variable {f : Fd} {k B : Nat} {w w' : World}
theorem BoxF.below (hx : BoxF f k w) (hb : Below B w w') (hk : k < B) : BoxF f k w' := (hb.block k hk).trans hx
theorem BoxF.lt (hx : BoxF f k w) : k < w.heap.size := (Array.getElem?_eq_some_iff.1 hx).1
theorem BoxF.new (f : Fd) (w : World) : BoxF f w.heap.size (w.alloc (.cells f.cells.toArray 48)) := heap_alloc_new w _
theorem BoxF.free (hx : BoxF f k w) (j : Nat) : w.frozen? ⟨k, j, none⟩ = false := frozen_of_row w k j _ _ hx
theorem BoxF.c (hx : BoxF f k w) (j : Nat) (v : Value) (hj : f.cells[j]? = some v) : w.cell? ⟨k, j, none⟩ = some v := by
  have := World.news_of_block hx j v (by simpa using hj)
  have e : (⟨k, 0, none⟩ : Addr).add j = ⟨k, j, none⟩ := by unfold Addr.add; split <;> simp_all
  rw [e] at this
  exact this
end

/-! ### what is found -/
def findOk (D : Dv) (i : Nat) : Bool := rightB (D.pg i) && decide ((headOf (D.pg i)).kind ≠ 1) && !(D.bad (i / D.np))
def Dv.findAt (D : Dv) (i : Nat) : List Fd := if findOk D i = true then [⟨i / D.np, i % D.np, headOf (D.pg i)⟩] else []
/-- The finds of the first n pages behind the blocks 0 and 1. -/
def findsF (D : Dv) : Nat → List Fd
  | 0 => []
  | n + 1 => findsF D n ++ D.findAt (2 * D.np + n)
def Dv.finds (D : Dv) : List Fd := findsF D ((D.nb - 2) * D.np)
theorem findsF_few (D : Dv) : ∀ n, (findsF D n).length ≤ n
  | 0 => Nat.le_refl _
  | n + 1 => by
    unfold findsF
    rw [List.length_append]
    have := findsF_few D n
    unfold Dv.findAt
    split <;> simp <;> omega
theorem find_div {a n np : Nat} (hn : n < np) : (2 * np + (a * np + n)) / np = a + 2 ∧ (2 * np + (a * np + n)) % np = n ∧ 2 * np + (a * np + n) = (a + 2) * np + n := by
  have e : 2 * np + (a * np + n) = n + np * (a + 2) := by rw [Nat.mul_comm np, Nat.add_mul]; omega
  refine ⟨?_, ?_, by rw [e, Nat.mul_comm np]; omega⟩
  · rw [e, Nat.add_mul_div_left _ _ (by omega), Nat.div_eq_of_lt hn]; omega
  · rw [e, Nat.add_mul_mod_self_left, Nat.mod_eq_of_lt hn]
theorem findsF_next (D : Dv) {a n : Nat} (hn : n < D.np) : findsF D (a * D.np + (n + 1)) = findsF D (a * D.np + n) ++ (if (rightB (D.pg ((a + 2) * D.np + n)) && decide ((headOf (D.pg ((a + 2) * D.np + n))).kind ≠ 1) && !(D.bad (a + 2))) = true then [⟨a + 2, n, headOf (D.pg ((a + 2) * D.np + n))⟩] else []) := by
  obtain ⟨h1, h2, h3⟩ := find_div (a := a) hn
  show findsF D (a * D.np + n) ++ D.findAt (2 * D.np + (a * D.np + n)) = _
  unfold Dv.findAt findOk
  rw [h1, h2, h3]
theorem findsF_bad (D : Dv) {a : Nat} (hb : D.bad (a + 2) = true) : ∀ n, n ≤ D.np → findsF D (a * D.np + n) = findsF D (a * D.np)
  | 0, _ => rfl
  | n + 1, h => by
    rw [findsF_next D (by omega), hb, Bool.not_true, Bool.and_false, if_neg (by decide), List.append_nil]
    exact findsF_bad D hb n (by omega)

/-! ### Data -/
def Dv.dataR (D : Dv) (x y : Int) : Hd × List UInt8 × Int := if (D.readR x y).1 = 0 then getR (D.readR x y).2 else (zeroHd, [], (D.readR x y).1)
theorem getR_err (b : List UInt8) : (getR b).2.2 = 0 ∨ (getR b).2.2 = 8 ∨ (getR b).2.2 = 6 := by
  unfold getR
  split
  · simp
  split <;> simp
/-- Data: Read's error. -/
theorem sdata_err (p : Option Addr) (x y er : Int) (w : World) (he : er ≠ 0) (hr : ∀ W, Below w.heap.size w W → Calls Try.prog 36 #[.pointer p, .agg #[.int .i64 x, .int .i64 y]] W fun e w' => e = .returned (.tuple #[.slice none 0 0, .int .i64 er]) ∧ Below W.heap.size W w') :
    Calls Try.prog 11 #[.pointer p, .agg #[.int .i64 x, .int .i64 y]] w fun e w' => e = .returned (.tuple #[zeroHd.val, .string ⟨#[]⟩, .int .i64 er]) ∧ Below w.heap.size w w' := by
  have b1 := (Below.refl w.heap.size w).alloc (Nat.le_refl _) (.cells #[.int .i64 x, .int .i64 y] 46)
  have b2 := b1.alloc b1.size (.cells #[.int .i64 0, .int .i64 0, .int .i64 0, .int .u64 0, .int .u64 0, .int .i64 0, .int .i64 0] 42)
  have hx := BoxH.new zeroHd (w.alloc (.cells #[.int .i64 x, .int .i64 y] 46))
  rw [show (w.alloc (.cells #[.int .i64 x, .int .i64 y] 46)).heap.size = w.heap.size + 1 by simp, show zeroHd.cells.toArray = #[.int .i64 0, .int .i64 0, .int .i64 0, .int .u64 0, .int .u64 0, .int .i64 0, .int .i64 0] from rfl] at hx
  have HB := hide b2
  have HX := hide hx
  have HR := hide (hr _ b2)
  have h1 : (er != 0) = true := bne_iff_ne.2 he
  clear b1 b2 hx hr he
  go_enter Try.func11, Try.ntmps11
  go_wp2_with fail
  (with_reducible refine HR.out.mono ?_)
  rintro e w3 ⟨rfl, hb⟩
  have HB3 := hide (HB.out.trans (hb.mono HB.out.size))
  have HX3 := hide (HX.out.below hb HX.out.lt)
  clear hb HB HX HR
  have z0 := HX3.out.c 0 _ rfl
  have z1 := HX3.out.c 1 _ rfl
  have z2 := HX3.out.c 2 _ rfl
  have z3 := HX3.out.c 3 _ rfl
  have z4 := HX3.out.c 4 _ rfl
  have z5 := HX3.out.c 5 _ rfl
  have z6 := HX3.out.c 6 _ rfl
  have y0 := HX3.out.free 0
  have y1 := HX3.out.free 1
  have y2 := HX3.out.free 2
  have y3 := HX3.out.free 3
  have y4 := HX3.out.free 4
  have y5 := HX3.out.free 5
  have y6 := HX3.out.free 6
  go_wp2
  refine bodyPost_ret (results_head2 rfl _ _ zeroHd (w.heap.size + 1) rfl (box7 HX3.out 0 0 0 0 0 0 0)) rfl ⟨rfl, below7 HB3.out (Nat.le_succ _) 0 0 0 0 0 0 0⟩
/-- Data of a page that is read. -/
theorem sdata_got (p : Option Addr) (x y : Int) (b : List UInt8) (w : World) (hb256 : b.length = 256) (hr : ∀ W, Below w.heap.size w W → Calls Try.prog 36 #[.pointer p, .agg #[.int .i64 x, .int .i64 y]] W fun e w' => ∃ A' c', e = .returned (.tuple #[.slice A' 256 c', .int .i64 0]) ∧
      w'.ownsRow W.heap.size 5 1 (.slice A' 256 c') 256 (bys b) ∧ Below W.heap.size W w') :
    Calls Try.prog 11 #[.pointer p, .agg #[.int .i64 x, .int .i64 y]] w fun e w' => e = .returned (.tuple #[(getR b).1.val, .string (str (getR b).2.1), .int .i64 (getR b).2.2]) ∧ Below w.heap.size w w' := by
  have b1 := (Below.refl w.heap.size w).alloc (Nat.le_refl _) (.cells #[.int .i64 x, .int .i64 y] 46)
  have b2 := b1.alloc b1.size (.cells #[.int .i64 0, .int .i64 0, .int .i64 0, .int .u64 0, .int .u64 0, .int .i64 0, .int .i64 0] 42)
  have hx := BoxH.new zeroHd (w.alloc (.cells #[.int .i64 x, .int .i64 y] 46))
  rw [show (w.alloc (.cells #[.int .i64 x, .int .i64 y] 46)).heap.size = w.heap.size + 1 by simp, show zeroHd.cells.toArray = #[.int .i64 0, .int .i64 0, .int .i64 0, .int .u64 0, .int .u64 0, .int .i64 0, .int .i64 0] from rfl] at hx
  have HB := hide b2
  have HX := hide hx
  have HR := hide (hr _ b2)
  have Fg := hide (fun A c W (hl : Lies W W.heap.size A (bys b)) (hc : 256 ≤ c) => pget_any A 256 c W.heap.size b W hl hb256.symm hc (Nat.le_refl _))
  generalize (getR b).2.2 = ge at *
  generalize (getR b).2.1 = gd at *
  generalize (getR b).1 = gh at *
  rcases gh with ⟨kd, ix, ct, bt, op, lp, ln⟩
  clear b1 b2 hx hr hb256
  unfold Hd.val at *
  dsimp only at *
  go_enter Try.func11, Try.ntmps11
  go_wp2_with fail
  (with_reducible refine HR.out.mono ?_)
  rintro e w3 ⟨A, c, rfl, ho, hb⟩
  have HB3 := hide (HB.out.trans (hb.mono HB.out.size))
  have HX3 := hide (HX.out.below hb HX.out.lt)
  have Fg3 := hide (Fg.out A c w3 (Lies.of_own ho) (by obtain ⟨_, _, h1, h2, _⟩ := own_form ho; injection h1 with _ _ h3; omega))
  clear hb ho HB HX HR Fg
  go_wp2_with fail
  (with_reducible refine Fg3.out.mono ?_)
  rintro e w4 ⟨rfl, hb⟩
  have HB4 := hide (HB3.out.trans (hb.mono HB3.out.size))
  have HX4 := hide (HX3.out.below hb HX3.out.lt)
  clear hb HB3 HX3 Fg3
  have z0 := HX4.out.c 0 _ rfl
  have z1 := HX4.out.c 1 _ rfl
  have z2 := HX4.out.c 2 _ rfl
  have z3 := HX4.out.c 3 _ rfl
  have z4 := HX4.out.c 4 _ rfl
  have z5 := HX4.out.c 5 _ rfl
  have z6 := HX4.out.c 6 _ rfl
  have y0 := HX4.out.free 0
  have y1 := HX4.out.free 1
  have y2 := HX4.out.free 2
  have y3 := HX4.out.free 3
  have y4 := HX4.out.free 4
  have y5 := HX4.out.free 5
  have y6 := HX4.out.free 6
  go_wp2
  refine bodyPost_ret (results_head2 rfl _ _ ⟨kd, ix, ct, bt, op, lp, ln⟩ (w.heap.size + 1) rfl (box7 HX4.out kd ix ct bt op lp ln)) rfl ⟨rfl, below7 HB4.out (Nat.le_succ _) kd ix ct bt op lp ln⟩
section
variable {w : World} {B0 B : Nat} {D : Dv} {k kb kp km : Nat}
theorem sdata_any (h : DevAt w B0 B D k kb kp km) (hB : B ≤ w.heap.size) (x y : Int) :
    Calls Try.prog 11 #[.pointer (some ⟨k, 0, none⟩), .agg #[.int .i64 x, .int .i64 y]] w fun e w' => e = .returned (.tuple #[(D.dataR x y).1.val, .string (str (D.dataR x y).2.1), .int .i64 (D.dataR x y).2.2]) ∧ Below w.heap.size w w' := by
  unfold Dv.dataR Dv.readR
  by_cases hd : D.dn = true
  · rw [if_pos hd]
    exact sdata_err _ x y 9 w (by decide) fun W hW => read_down (h.below (hW.mono hB)) (Nat.le_trans hB hW.size) x y hd
  rw [if_neg hd]
  have hd2 : D.dn = false := by simpa using hd
  by_cases hh : D.g.Has x y
  · rw [if_neg (not_not_intro hh)]
    obtain ⟨i, j, rfl, rfl, hi, hj⟩ := Gm.Has.nats ⟨h.sides.2.2.2.2.1, h.sides.2.2.2.2.2⟩ hh
    rw [Int.toNat_natCast, Int.toNat_natCast]
    exact sdata_got _ _ _ _ w (h.plen _ (lt_mul hi hj)) fun W hW => read_ok (h.below (hW.mono hB)) (Nat.le_trans hB hW.size) i j hd2 hi hj
  · rw [if_pos hh]
    exact sdata_err _ x y 3 w (by decide) fun W hW => read_out (h.below (hW.mono hB)) (Nat.le_trans hB hW.size) x y hd2 hh
end
theorem sdata_nil (x y : Int) (w : World) : Calls Try.prog 11 #[.pointer none, .agg #[.int .i64 x, .int .i64 y]] w fun e w' => e = .returned (.tuple #[zeroHd.val, .string ⟨#[]⟩, .int .i64 1]) ∧ Below w.heap.size w w' :=
  sdata_err _ x y 1 w (by decide) fun W _ => read_nil x y W
end
end Go.Proofs.Ytahipfmokbiklaa
