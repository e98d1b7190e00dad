/-
  CONTRACTS of package table: marks, wear, laid and its closure, Put.
  CONTRACTS of package table: laid and its closure, Put.
  CONTRACTS of package table: Put.
-/
import Derived.Test.YtigpplckddnghaaGreatTbD
import Derived.Test.YtigpplckddnghaaGreatPgC
import Derived.Test.YtigpplckddnghaaGreatPgP
import Derived.Deep.RegionWith
namespace Go.Proofs.YtigpplckddnghaaGreat
open Go.RowKit
set_option maxRecDepth 8000

def marksV (l : List Int) : Value := .agg #[.int .u8 (mkN l 0 : Nat), .int .u8 (mkN l 1 : Nat), .int .u8 (mkN l 2 : Nat), .int .u8 (mkN l 3 : Nat), .int .u8 (mkN l 4 : Nat)]
def marksA (l : List Int) : Array Value := #[.int .u8 (mkN l 0 : Nat), .int .u8 (mkN l 1 : Nat), .int .u8 (mkN l 2 : Nat), .int .u8 (mkN l 3 : Nat), .int .u8 (mkN l 4 : Nat)]
theorem marksA_at (l : List Int) (q : Nat) (h : q < 5) : (marksA l)[q]? = some (.int .u8 (mkN l q : Nat)) := by
  rcases (show q = 0 ∨ q = 1 ∨ q = 2 ∨ q = 3 ∨ q = 4 by omega) with rfl | rfl | rfl | rfl | rfl <;> rfl
theorem marksA_size (l : List Int) : (marksA l).size = 5 := rfl
theorem u8_or_pow (x r : Nat) (hx : x < 256) (hr : r < 8) : bits .or .u8 (x : Int) ((2 : Int) ^ r % 256) = ((x ||| 2 ^ r : Nat) : Int) := by
  have hp : (2 : Nat) ^ r < 256 := Nat.pow_lt_pow_right (n := 8) (by decide) hr
  have e : (2 : Int) ^ r % 256 = ((2 ^ r : Nat) : Int) := by
    have : (2 : Int) ^ r = ((2 ^ r : Nat) : Int) := by simp
    rw [this]
    have hp2 : ((2 ^ r : Nat) : Int) < 256 := Int.ofNat_lt.2 hp
    have hp3 : (0 : Int) ≤ ((2 ^ r : Nat) : Int) := Int.natCast_nonneg _
    generalize ((2 ^ r : Nat) : Int) = v at *
    omega
  rw [e, u8_or_nat x _ hx hp]
/-- Five bytes in a block of their own. -/
def Box5 (m : Nat → Nat) (k : Nat) (w : World) : Prop := w.heap[k]? = some (.cells #[.int .u8 (m 0 : Int), .int .u8 (m 1 : Int), .int .u8 (m 2 : Int), .int .u8 (m 3 : Int), .int .u8 (m 4 : Int)] 142 (0, 0))
section
variable {m : Nat → Nat} {k B : Nat} {w w' : World}
theorem Box5.below (h : Box5 m k w) (hb : Below B w w') (hk : k < B) : Box5 m k w' := (hb.block k hk).trans h
theorem Box5.lt (h : Box5 m k w) : k < w.heap.size := (Array.getElem?_eq_some_iff.1 h).1
theorem Box5.free (h : Box5 m k w) (j : Nat) : w.frozen? ⟨k, j, none⟩ = false := frozen_of_row w k j _ _ h
theorem Box5.c (h : Box5 m k w) (j : Nat) (v : Value) (hj : [Value.int .u8 (m 0 : Int), .int .u8 (m 1 : Int), .int .u8 (m 2 : Int), .int .u8 (m 3 : Int), .int .u8 (m 4 : Int)][j]? = some v) : w.cell? ⟨k, j, none⟩ = some v := by
  have := World.news_of_block h j v (by simpa using hj)
  rwa [at0] at this
theorem Box5.cq (h : Box5 m k w) (q : Nat) (hq : q < 5) : w.cell? ⟨k, q, none⟩ = some (.int .u8 (m q : Int)) := by
  refine h.c q _ ?_
  rcases (show q = 0 ∨ q = 1 ∨ q = 2 ∨ q = 3 ∨ q = 4 by omega) with rfl | rfl | rfl | rfl | rfl <;> rfl
theorem Box5.set (h : Box5 m k w) (q x : Nat) (hq : q < 5) : Box5 (fun i => if i = q then x else m i) k (w.setCell ⟨k, q, none⟩ (.int .u8 (x : Int))) := by
  have := heap_set h q (.int .u8 (x : Int))
  unfold Box5
  rw [this]
  rcases (show q = 0 ∨ q = 1 ∨ q = 2 ∨ q = 3 ∨ q = 4 by omega) with rfl | rfl | rfl | rfl | rfl <;> simp
end
set_option maxHeartbeats 2000000 in
theorem marks_any (A : Option Addr) (n c B : Nat) (l : List Int) (w : World) (hl : Lies w B A (nums .i64 l)) (hn : n = l.length) (hbig : n ≤ 1000) (hB : B ≤ w.heap.size) (hr : ∀ x ∈ l, 0 ≤ x ∧ x < 40) :
    Calls Tryz.prog 92 #[.slice A n c] w fun e w' => e = .returned (marksV l) ∧ Below w.heap.size w w' := by
  have Hl := hide hl
  have Hn := hide hn
  have Hr := hide hr
  have HB := hide hB
  have x1 : Box5 (fun _ => 0) w.heap.size (w.alloc (.cells #[.int .u8 0, .int .u8 0, .int .u8 0, .int .u8 0, .int .u8 0] 142)) := heap_alloc_new w _
  have b1 := (Below.refl w.heap.size w).alloc (Nat.le_refl _) (.cells #[.int .u8 0, .int .u8 0, .int .u8 0, .int .u8 0, .int .u8 0] 142)
  have x2 : Box5 (fun _ => 0) (w.heap.size + 1) ((w.alloc (.cells #[.int .u8 0, .int .u8 0, .int .u8 0, .int .u8 0, .int .u8 0] 142)).alloc (.cells #[.int .u8 0, .int .u8 0, .int .u8 0, .int .u8 0, .int .u8 0] 142)) := by
    have := heap_alloc_new (w.alloc (.cells #[.int .u8 0, .int .u8 0, .int .u8 0, .int .u8 0, .int .u8 0] 142)) (.cells #[.int .u8 0, .int .u8 0, .int .u8 0, .int .u8 0, .int .u8 0] 142)
    rwa [show (w.alloc (.cells #[.int .u8 0, .int .u8 0, .int .u8 0, .int .u8 0, .int .u8 0] 142)).heap.size = w.heap.size + 1 by simp] at this
  have Z0 := hide (show Box5 (fun _ => 0) w.heap.size ((w.alloc (.cells #[.int .u8 0, .int .u8 0, .int .u8 0, .int .u8 0, .int .u8 0] 142)).alloc (.cells #[.int .u8 0, .int .u8 0, .int .u8 0, .int .u8 0, .int .u8 0] 142)) from x1.below ((Below.refl _ _).alloc (Nat.le_refl _) _) x1.lt)
  have X0 := hide x2
  have B0 := hide (b1.alloc (by simp) (.cells #[.int .u8 0, .int .u8 0, .int .u8 0, .int .u8 0, .int .u8 0] 142))
  clear hl hn hr hB x1 b1 x2
  go_enter Tryz.func92, Tryz.ntmps92
  go_wp2
  go_loopw [5, 8] (fun _ i wr => ∃ j : Nat, j ≤ n ∧ i = .int .i64 (j : Int) ∧ Hid (Box5 (mkN (l.take j)) (w.heap.size + 1) wr) ∧ Hid (Box5 (fun _ => 0) w.heap.size wr) ∧ Hid (Below w.heap.size w wr)) (fun _ i _ => n - (intOf i).toNat)
  case atStart => exact ⟨0, Nat.zero_le _, rfl, hide (by rw [List.take_zero, show mkN [] = fun _ => 0 from funext mkN_nil]; exact X0.out), Z0, B0⟩
  case round =>
    obtain ⟨j, hj, rfl, HM, HC, HW⟩ := hrel
    by_cases hlt : j < n
    · have hlt' : (j : Int) < (n : Int) := by omega
      have hjl : j < l.length := by rw [← Hn.out]; exact hlt
      obtain ⟨a, rfl, _, hc⟩ := (Hl.out.below (HW.out.mono HB.out)).num hjl
      have e2 : wrap64 ((j : Int) + 1) = ((j + 1 : Nat) : Int) := by unfold wrap64; omega
      have Ht : Hid (l.take (j + 1) = l.take j ++ [l.getD j 0]) := hide (by rw [List.take_add_one, List.getElem?_eq_getElem hjl]; simp [List.getD, List.getElem?_eq_getElem hjl])
      have hx := Hr.out (l.getD j 0) (by simp [List.getD, List.getElem?_eq_getElem hjl])
      generalize l.getD j 0 = x at *
      generalize l.take j = t at *
      obtain ⟨b, rfl⟩ := Int.eq_ofNat_of_zero_le hx.1
      have hb40 : b < 40 := by omega
      have Hset := hide (fun i => mkN_snoc t b i)
      obtain ⟨q, hq⟩ : ∃ q, q = b / 8 := ⟨_, rfl⟩
      obtain ⟨r, hr⟩ : ∃ r, r = b % 8 := ⟨_, rfl⟩
      have q5 : q < 5 := by omega
      have r8 : r < 8 := by omega
      have e3 : (b : Int).tdiv 8 = (q : Int) := by rw [Int.tdiv_eq_ediv_of_nonneg (by omega)]; omega
      have e4 : (b : Int).tmod 8 = (r : Int) := by rw [Int.tmod_eq_emod_of_nonneg (by omega)]; omega
      have e5 : (b : Int) / 8 = (q : Int) := by omega
      have e6 : (b : Int) % 8 = (r : Int) := by omega
      rw [← hq, ← hr] at Hset
      have q5' : (q : Int) < 5 := by omega
      have r8' : (r : Int) < 8 := by omega
      have mlt := mkN_lt t q
      have hcell := HM.out.cq q q5
      have hfree := HM.out.free q
      have hor := u8_or_pow (mkN t q) r mlt r8
      obtain ⟨m, hm⟩ : ∃ m, m = mkN t q := ⟨_, rfl⟩
      rw [← hm] at hcell hor mlt
      have Hm := hide hm
      clear hq hr hx hb40 hjl hm
      go_wp2
      go_region
      all_goals
        go_wp2
        go_roundw
        case rel =>
          refine ⟨j + 1, by omega, rfl, hide ?_, hide ((Below.heap_setCell _ _ _ _ (by simp)).trans HC.out), hide (HW.out.setCell (Nat.le_succ _) _).drew⟩
          have := HM.out.set q (m ||| 2 ^ r) q5
          rw [Ht.out, show mkN (t ++ [(b : Int)]) = fun i => if i = q then m ||| 2 ^ r else mkN t i from funext fun i => by
            rw [Hset.out i]
            by_cases hi : i = q
            · rw [if_pos hi, if_pos hi, hi, Hm.out]
            · rw [if_neg hi, if_neg hi]]
          exact this
        case measure => simp [intOf]; omega
    · have hjn : j = n := by omega
      subst hjn
      rw [List.take_of_length_le (Nat.le_of_eq Hn.out.symm)] at HM
      have a0 := HM.out.c 0 _ rfl
      have a1 := HM.out.c 1 _ rfl
      have a2 := HM.out.c 2 _ rfl
      have a3 := HM.out.c 3 _ rfl
      have a4 := HM.out.c 4 _ rfl
      have z0 := HC.out.c 0 _ rfl
      have z1 := HC.out.c 1 _ rfl
      have z2 := HC.out.c 2 _ rfl
      have z3 := HC.out.c 3 _ rfl
      have z4 := HC.out.c 4 _ rfl
      have y0 := HC.out.free 0
      have y1 := HC.out.free 1
      have y2 := HC.out.free 2
      have y3 := HC.out.free 3
      have y4 := HC.out.free 4
      have HV : Hid (marksV l = .agg #[.int .u8 (mkN l 0 : Nat), .int .u8 (mkN l 1 : Nat), .int .u8 (mkN l 2 : Nat), .int .u8 (mkN l 3 : Nat), .int .u8 (mkN l 4 : Nat)]) := hide rfl
      obtain ⟨V, hV⟩ : ∃ V, Hid (V = marksV l) := ⟨_, hide rfl⟩
      rw [← hV.out] at HV
      generalize hm : mkN l = m at *
      clear hm
      have HR : (((((wr.setCell ⟨w.heap.size, 0, none⟩ (.int .u8 (m 0 : Nat))).setCell ⟨w.heap.size, 1, none⟩ (.int .u8 (m 1 : Nat))).setCell ⟨w.heap.size, 2, none⟩ (.int .u8 (m 2 : Nat))).setCell ⟨w.heap.size, 3, none⟩ (.int .u8 (m 3 : Nat))).setCell ⟨w.heap.size, 4, none⟩ (.int .u8 (m 4 : Nat))).heap[w.heap.size]? = some (.cells #[.int .u8 (m 0 : Nat), .int .u8 (m 1 : Nat), .int .u8 (m 2 : Nat), .int .u8 (m 3 : Nat), .int .u8 (m 4 : Nat)] 142 (0, 0)) := heap_set (heap_set (heap_set (heap_set (heap_set HC.out 0 (.int .u8 (m 0 : Nat))) 1 (.int .u8 (m 1 : Nat))) 2 (.int .u8 (m 2 : Nat))) 3 (.int .u8 (m 3 : Nat))) 4 (.int .u8 (m 4 : Nat))
      have HRR := hide HR
      clear HR
      have HRb := hide (((((HW.out.setCell (p := ⟨w.heap.size, 0, none⟩) (Nat.le_refl _) (.int .u8 (m 0 : Nat))).setCell (p := ⟨w.heap.size, 1, none⟩) (Nat.le_refl _) (.int .u8 (m 1 : Nat))).setCell (p := ⟨w.heap.size, 2, none⟩) (Nat.le_refl _) (.int .u8 (m 2 : Nat))).setCell (p := ⟨w.heap.size, 3, none⟩) (Nat.le_refl _) (.int .u8 (m 3 : Nat))).setCell (p := ⟨w.heap.size, 4, none⟩) (Nat.le_refl _) (.int .u8 (m 4 : Nat)))
      generalize m 0 = m0 at *
      generalize m 1 = m1 at *
      generalize m 2 = m2 at *
      generalize m 3 = m3 at *
      generalize m 4 = m4 at *
      clear HM HC HW Hl Hn Hr HB Z0 X0 B0 hlt hj
      go_wp2
      generalize (((((wr.setCell ⟨w.heap.size, 0, none⟩ (.int .u8 (m0 : Nat))).setCell ⟨w.heap.size, 1, none⟩ (.int .u8 (m1 : Nat))).setCell ⟨w.heap.size, 2, none⟩ (.int .u8 (m2 : Nat))).setCell ⟨w.heap.size, 3, none⟩ (.int .u8 (m3 : Nat))).setCell ⟨w.heap.size, 4, none⟩ (.int .u8 (m4 : Nat))) = w9 at *
      have r0 : w9.cell? ⟨w.heap.size, 0, none⟩ = some (.int .u8 (m0 : Nat)) := by have := World.news_of_block HRR.out 0 _ rfl; rwa [at0] at this
      have r1 : w9.cell? ⟨w.heap.size, 1, none⟩ = some (.int .u8 (m1 : Nat)) := by have := World.news_of_block HRR.out 1 _ rfl; rwa [at0] at this
      have r2 : w9.cell? ⟨w.heap.size, 2, none⟩ = some (.int .u8 (m2 : Nat)) := by have := World.news_of_block HRR.out 2 _ rfl; rwa [at0] at this
      have r3 : w9.cell? ⟨w.heap.size, 3, none⟩ = some (.int .u8 (m3 : Nat)) := by have := World.news_of_block HRR.out 3 _ rfl; rwa [at0] at this
      have r4 : w9.cell? ⟨w.heap.size, 4, none⟩ = some (.int .u8 (m4 : Nat)) := by have := World.news_of_block HRR.out 4 _ rfl; rwa [at0] at this
      refine bodyPost_ret (v := V) ?_ rfl ⟨by rw [hV.out], HRb.out⟩
      rw [results_cell1P rfl, HV.out]
      go_simp
theorem wear_any (A : Option Addr) (n c B : Nat) (l : List Int) (j : Nat) (w : World) (hl : Lies w B A (nums .i64 l)) (hn : n = l.length) (h0 : ∀ x ∈ l, 0 ≤ x ∧ x ≤ 65535) :
    Calls Tryz.prog 93 #[.slice A n c, .int .i64 (j : Int)] w fun e w' => e = .returned (.int .u64 ((l.getD j 0).toNat : Nat)) ∧ w = w' := by
  by_cases hlt : j < n
  · have hlt' : (j : Int) < (n : Int) := by omega
    have hjl : j < l.length := by rw [← hn]; exact hlt
    obtain ⟨a, rfl, _, hc⟩ := hl.num hjl
    have hx := h0 (l.getD j 0) (by simp [List.getD, List.getElem?_eq_getElem hjl])
    generalize l.getD j 0 = x at *
    obtain ⟨b, rfl⟩ := Int.eq_ofNat_of_zero_le hx.1
    have e1 : IntKind.u64.wrap (b : Int) = (b : Int) := u64_wrap_small b (by omega)
    rw [Int.toNat_natCast]
    clear hl hn h0 hjl hx
    go_enter Tryz.func93, Tryz.ntmps93
    go_wp2
    go_ret
    exact ⟨rfl, rfl⟩
  · have hlt' : ¬ (j : Int) < (n : Int) := by omega
    have hz : l.getD j 0 = 0 := by simp [List.getD, List.getElem?_eq_none (show l.length ≤ j by omega)]
    rw [hz]
    clear hl hn h0 hz
    go_enter Tryz.func93, Tryz.ntmps93
    go_wp2
    go_ret
    exact ⟨rfl, rfl⟩

theorem u64info : (Tryz.prog.info? 22).map (fun i => (i.zero, i.size, i.bytes)) = some (some (.int .u64 0), 1, 8) := by kernel_rfl
theorem u64elems : Elems Tryz.prog 24 22 1 8 := by
  obtain ⟨i0, hi, hz0, hz1, hz2⟩ := info_parts u64info
  exact ⟨Tryz.underlying24, ⟨i0, _, hi, hz0, hz1, hz2, rfl⟩, by decide⟩
theorem u64s_app (l m : List Nat) : u64s (l ++ m) = u64s l ++ u64s m := by simp [u64s]
theorem own_keepT {w w' : World} {B k n : Nat} {e : TypeId} {v : Value} {xs : List Value} (h : w.ownsRow B e k v n xs) (hb : Below w.heap.size w w') : w'.ownsRow B e k v n xs :=
  h.kept (row := none) (grown_below hb) (by cases hv : v.ownBlock <;> simp)
/-- Data that are being laid: the table in its box, the pairs, the bytes so far. -/
def LaidS (w : World) (x : Tl) (j : Nat) (b : List UInt8) (W : World) : Prop :=
  BoxT x w.heap.size W ∧ Below w.heap.size w W ∧ ∃ P : List Nat, ∃ v, P.length = 2 * j ∧ rowB P = b ∧ W.heap[w.heap.size + 1]? = some (.cells #[v] 24 (0, 0)) ∧ W.ownsRow w.heap.size 22 1 v (2 * j) (u64s P)
theorem LaidS.box {w W : World} {x : Tl} {j : Nat} {b : List UInt8} (h : LaidS w x j b W) : BoxT x w.heap.size W := h.1
theorem LaidS.bel {w W : World} {x : Tl} {j : Nat} {b : List UInt8} (h : LaidS w x j b W) : Below w.heap.size w W := h.2.1
theorem LaidS.below {w W W' : World} {x : Tl} {j : Nat} {b : List UInt8} (h : LaidS w x j b W) (hb : Below W.heap.size W W') : LaidS w x j b W' := by
  obtain ⟨h1, h2, P, v, h3, h4, h5, h6⟩ := h
  exact ⟨h1.below hb h1.lt, h2.trans (hb.mono h2.size), P, v, h3, h4, (hb.block _ (Array.getElem?_eq_some_iff.1 h5).1).trans h5, own_keepT h6 hb⟩
set_option maxHeartbeats 1000000 in
theorem LaidS.step {w W : World} {x : Tl} {j : Nat} {b : List UInt8} (h : LaidS w x j b W) (a y : Nat) (ha : a ≤ 8) (hj : j ≤ 10000) (ai yi : Int) (hai : ai = (a : Int)) (hyi : yi = (y : Int)) :
    Calls Tryz.prog 91 #[.int .u64 ai, .int .u64 yi, .pointer (some ⟨w.heap.size + 1, 0, none⟩)] W fun e W' => e = .returned (.tuple #[]) ∧ LaidS w x (j + 1) (b ++ beB a y) W' := by
  subst hai hyi
  obtain ⟨hx, hb, P, v, hl, hr, hg, ho⟩ := h
  obtain ⟨A, c, rfl, _⟩ := own_form ho
  have c0 := cell_of_one hg
  have f0 := free_of_one hg
  have Hg := hide hg
  have Ho := hide ho
  have Hx := hide hx
  have Hb := hide hb
  have Hl := hide hl
  have Hr := hide hr
  have hgl := lt_of_block hg
  have hne := own_ne ho hg (by decide)
  have Hne := hide hne
  have Hgl := hide hgl
  clear hg ho hx hb hl hr hgl hne
  go_enter Tryz.func91, Tryz.ntmps91
  go_wp2_with (at_builtin; refine wpl_app _ rfl u64elems (.tmp 5) (.tmp 8) rfl w.heap.size (.slice A (2 * j) c) (2 * j) _ rfl (Ho.out.alloc _) (W.heap.size + 1) (some ⟨W.heap.size, 0, none⟩) 2 2 _ rfl (by rfl) (Lies.new W _ _ _ _ (by omega)) (by simp [Value.oneCell']) (by unfold maxLen; omega) (by omega) (by have := Hb.out.size; simp; omega) ?_; intro A1 c1 w1 hown1 hg1 hat1; have Ho1 := hide hown1; have Hb1 := hide hg1; have Hg1 := hide ((hg1.block (w.heap.size + 1) (by have := Hgl.out; simp; omega) (Ne.symm Hne.out)).trans ((Below.heap_alloc _ _ _ Hgl.out).trans Hg.out)); have hc1 := cell_of_one Hg1.out; have hf1 := free_of_one Hg1.out; clear hown1 hg1 hat1)
  go_end0
  have hbl : Below w.heap.size w w1 := (Hb.out.alloc Hb.out.size _).grown Hb1.out (by have := Hb.out.size; simp; omega) (fun g hg => (Ho.out.lt g hg).1)
  refine ⟨rfl, ?_, hbl.setCell (Nat.le_succ _) _, P ++ [a, y], _, ?_, ?_, one_setCell Hg1.out, ?_⟩
  · have hne2 : (Value.slice A (2 * j) c).ownBlock ≠ some w.heap.size := by
      intro he
      exact absurd (own_ne Ho.out Hx.out (by decide)) (fun h => h he)
    have e1 : w1.heap[w.heap.size]? = W.heap[w.heap.size]? := (Hb1.out.block w.heap.size (by have := Hx.out.lt; simp; omega) (Ne.symm hne2)).trans (Below.heap_alloc _ _ _ Hx.out.lt)
    exact (Below.heap_setCell _ _ _ _ (by simp)).trans (e1.trans Hx.out)
  · rw [List.length_append, Hl.out]; simp; omega
  · rw [rowB_two _ _ _ j Hl.out, Hr.out, Nat.min_eq_left ha]
  · have h2 := ownsRow_setCell_other Ho1.out (a := ⟨w.heap.size + 1, 0, none⟩) (own_ne Ho1.out Hg1.out (by decide)) (.slice A1 (2 * j + 2) c1)
    rw [u64s_app]
    exact h2
theorem run_index5 (arr : Array Value) (j : Nat) (v : Value) (W : World) (hj : j < 5) (_ : arr.size = 5) (ha : arr[j]? = some v) : (Instr.index 142 (.agg arr) (.int .i64 (j : Int))).run Tryz.prog W = .ok v W := by
  have hu := Tryz.underlying142
  have hin : 0 ≤ (j : Int) ∧ (j : Int) < 5 := by omega
  have h1 : (sizeOf 5).run Tryz.prog W = .ok 1 W := by
    obtain ⟨i0, hi, hz0, hz1, hz2⟩ := info_parts u8info
    simp [sizeOf, typeInfo, hi, hz1]
  have hg : arr.getD j undef = v := by
    simp [Array.getD_eq_getD_getElem?, ha]
  simp [Instr.index, run_underlying hu, asIntOf, go_sem]
  rw [if_pos hj, ha]
  rfl

set_option maxHeartbeats 4000000 in
theorem laid_tb (x : Tl) (B : Nat) (w : World) (hx : x.Ok w B) (hm : x.t.May) (hB : B ≤ w.heap.size) :
    Calls Tryz.prog 59 #[x.val] w fun e w' => ∃ A m c, e = .returned (.slice A m c) ∧ m = x.t.data.length ∧ w'.ownsRow w.heap.size 5 1 (.slice A m c) m (bys x.t.data) ∧ Below w.heap.size w w' := by
  obtain ⟨h1, h2, ⟨h3, h4⟩, h5, h6⟩ := hm
  have Hm := hide (show x.t.May from ⟨h1, h2, ⟨h3, h4⟩, h5, h6⟩)
  have nb : x.t.bad.length ≤ 34 := rise_len (b := 34) h2
  have Fm := hide (fun W (hW : Below w.heap.size w W) => marks_any x.A1 x.t.bad.length x.c1 B x.t.bad W (hx.l1.below (hW.mono hB)) rfl (by omega) (Nat.le_trans hB hW.size) (fun y hy => by have := rise_in h2 y hy; omega))
  have Fw := hide (fun W (hW : Below w.heap.size w W) (j : Nat) => wear_any x.A2 x.t.wear.length x.c2 B x.t.wear j W (hx.l2.below (hW.mono hB)) rfl (fun y hy => by
    obtain ⟨i, hi, rfl⟩ := List.getElem_of_mem hy
    have := h3 i hi
    simpa [List.getD, List.getElem?_eq_getElem hi] using this))
  have Fv := hide (fun W (hW : Below w.heap.size w W) => hx.l3.below (hW.mono hB))
  have Hpos := hide hx.pos
  have Hb0 := hide ((Below.refl w.heap.size w).alloc (Nat.le_refl _) (.cells x.cells.toArray 26))
  have S0 := hide (show LaidS w x 0 [] ((w.alloc (.cells x.cells.toArray 26)).alloc (.cells #[.slice none 0 0] 24)) from
    ⟨(BoxT.new x w).below ((Below.refl _ _).alloc (Nat.le_refl _) _) (BoxT.new x w).lt, Hb0.out.alloc Hb0.out.size _, [], .slice none 0 0, rfl, rfl, by
      have := heap_alloc_new (w.alloc (.cells x.cells.toArray 26)) (.cells #[.slice none 0 0] 24)
      rwa [show (w.alloc (.cells x.cells.toArray 26)).heap.size = w.heap.size + 1 by simp] at this, ⟨rfl, .inl ⟨rfl, rfl⟩⟩⟩)
  have Hnv := hide h5
  clear hx hB h1 h2 h3 h4 h5 h6
  have e0 : x.val = .agg #[.int .u64 (x.t.seq : Int), .slice x.A1 x.t.bad.length x.c1, .slice x.A2 x.t.wear.length x.c2, .slice x.A3 x.t.void.length x.c3] := rfl
  rw [e0]
  go_enter Tryz.func59, Tryz.ntmps59
  go_upto_region 3 with fail
  generalize hw1 : ((w.alloc (.cells #[.int .u64 (x.t.seq : Int), .slice x.A1 x.t.bad.length x.c1, .slice x.A2 x.t.wear.length x.c2, .slice x.A3 x.t.void.length x.c3] 26)).alloc (.cells #[.slice none 0 0] 24)) = w1 at *
  have S1 : Hid (LaidS w x 0 [] w1) := by rw [← hw1]; exact S0
  clear S0 hw1 Hb0
  have cb := S1.out.box.c 1 _ rfl
  go_wp2_with fail
  (with_reducible refine (Fm.out _ S1.out.bel).mono ?_)
  rintro e w2 ⟨rfl, hb⟩
  have S2 := hide (S1.out.below hb)
  have HV : Hid (marksV x.t.bad = .agg (marksA x.t.bad)) := hide rfl
  rw [HV.out]
  have HA := hide (fun q (hq : q < 5) => marksA_at x.t.bad q hq)
  have hsz := marksA_size x.t.bad
  have mlt := hide (fun q => mkN_lt x.t.bad q)
  clear hb S1 cb HV Fm
  generalize marksA x.t.bad = arr at *
  obtain ⟨mk, hmk⟩ : ∃ mk, Hid (mk = mkN x.t.bad) := ⟨_, hide rfl⟩
  rw [← hmk.out] at HA mlt
  go_wp2
  go_loopw [6, 14] (fun _ i wr => ∃ j : Nat, j ≤ 5 ∧ i = .int .i64 (j : Int) ∧ Hid (LaidS w x j (seqB 1 mk j) wr)) (fun _ i _ => 5 - (intOf i).toNat)
  case atStart => exact ⟨0, Nat.zero_le _, rfl, S2⟩
  case round =>
    obtain ⟨j, hj, rfl, HS⟩ := hrel
    by_cases hlt : j < 5
    · have hlt' : (j : Int) < 5 := by omega
      have ha := HA.out j hlt
      have ml := mlt.out j
      have e2 : wrap64 ((j : Int) + 1) = ((j + 1 : Nat) : Int) := by unfold wrap64; omega
      have e3 : IntKind.u64.wrap ((mk j : Nat) : Int) = ((mk j : Nat) : Int) := u64_wrap_small _ (by omega)
      have F := hide (HS.out.step 1 (mk j) (by omega) (by omega) 1 _ rfl rfl)
      have Hs := hide (seqB_succ 1 mk j)
      generalize mk j = m at *
      have hix := fun W => run_index5 arr j _ W hlt hsz ha
      go_wp2_with fail
      (with_reducible refine F.out.mono ?_)
      rintro e w3 ⟨rfl, hS⟩
      have HS3 := hide hS
      clear hS F
      go_wp2
      go_roundw
      case rel => exact ⟨j + 1, by omega, rfl, hide (by rw [Hs.out]; exact HS3.out)⟩
      case measure => simp [intOf]; omega
    · have hj5 : j = 5 := by omega
      have hlt' : ¬ (j : Int) < 5 := by omega
      rw [hj5] at HS
      clear HA hsz mlt hlt hj S2 hj5
      go_wp2
      go_loopw [7, 22] (fun _ i wr => ∃ j : Nat, j ≤ 34 ∧ i = .int .i64 (j : Int) ∧ Hid (LaidS w x (5 + j) (seqB 1 mk 5 ++ seqB 2 (fun b => (x.t.wear.getD b 0).toNat) j) wr)) (fun _ i _ => 34 - (intOf i).toNat)
      case atStart => exact ⟨0, Nat.zero_le _, rfl, hide (by rw [seqB_zero, List.append_nil]; exact HS.out)⟩
      case round =>
        clear HS
        obtain ⟨j, hj, rfl, HS⟩ := hrel
        by_cases hlt : j < 34
        · have hlt' : (j : Int) < 34 := by omega
          have e2 : wrap64 ((j : Int) + 1) = ((j + 1 : Nat) : Int) := by unfold wrap64; omega
          have F := hide (HS.out.step 2 ((x.t.wear.getD j 0).toNat) (by omega) (by omega) 2 _ rfl rfl)
          have Fw2 := hide (Fw.out _ HS.out.bel j)
          have Hs := hide (seqB_succ 2 (fun b => (x.t.wear.getD b 0).toNat) j)
          have cb := HS.out.box.c 2 _ rfl
          generalize (x.t.wear.getD j 0).toNat = m at *
          go_wp2_with fail
          (with_reducible refine Fw2.out.mono ?_)
          rintro e w3 ⟨rfl, rfl⟩
          go_wp2_with fail
          (with_reducible refine F.out.mono ?_)
          rintro e w3 ⟨rfl, hS⟩
          have HS3 := hide hS
          clear hS F Fw2 cb
          go_wp2
          go_roundw
          case rel => exact ⟨j + 1, by omega, rfl, hide (by rw [Hs.out, ← List.append_assoc]; exact HS3.out)⟩
          case measure => simp [intOf]; omega
        · have hj34 : j = 34 := by omega
          have hlt' : ¬ (j : Int) < 34 := by omega
          rw [hj34] at HS
          clear hlt hj Fw hj34
          have nv := Hnv.out
          obtain ⟨n3, hn3⟩ : ∃ n3, n3 = x.t.void.length := ⟨_, rfl⟩
          have Hn3 := hide hn3
          rw [← hn3] at nv
          have e3 : IntKind.u64.wrap (n3 : Int) = (n3 : Int) := u64_wrap_small _ (by omega)
          have F := hide (HS.out.step 1 n3 (by omega) (by omega) 1 _ rfl rfl)
          have cb := HS.out.box.c 3 (.slice x.A3 n3 x.c3) (by rw [hn3]; rfl)
          clear hn3
          go_wp2_with fail
          (with_reducible refine F.out.mono ?_)
          rintro e w3 ⟨rfl, hS⟩
          have HS3 := hide hS
          clear hS F cb e3
          have cb := HS3.out.box.c 3 (.slice x.A3 n3 x.c3) (by rw [Hn3.out]; rfl)
          go_wp2
          clear cb
          go_loopw [9, 41] (fun _ i wr => ∃ j : Nat, j ≤ n3 ∧ i = .int .i64 (j : Int) ∧ Hid (LaidS w x (5 + 34 + 1 + j) (seqB 1 mk 5 ++ seqB 2 (fun b => (x.t.wear.getD b 0).toNat) 34 ++ beB 1 n3 ++ seqB 4 (fun b => (x.t.void.getD b 0).toNat) j) wr)) (fun _ i _ => n3 - (intOf i).toNat)
          case atStart => exact ⟨0, Nat.zero_le _, rfl, hide (by rw [seqB_zero, List.append_nil]; exact HS3.out)⟩
          case round =>
            clear HS HS3
            obtain ⟨j, hj, rfl, HS⟩ := hrel
            by_cases hlt : j < n3
            · have hlt' : (j : Int) < (n3 : Int) := by omega
              have e2 : wrap64 ((j : Int) + 1) = ((j + 1 : Nat) : Int) := by unfold wrap64; omega
              have F := hide (HS.out.step 4 ((x.t.void.getD j 0).toNat) (by omega) (by omega) 4 _ rfl rfl)
              have Hs := hide (seqB_succ 4 (fun b => (x.t.void.getD b 0).toNat) j)
              have hjl : j < x.t.void.length := by rw [← Hn3.out]; exact hlt
              obtain ⟨a, ha, _, hc⟩ := (Fv.out _ HS.out.bel).num hjl
              have hp := Hpos.out (x.t.void.getD j 0) (by simp [List.getD, List.getElem?_eq_getElem hjl])
              clear hjl
              rw [ha]
              generalize x.t.void.getD j 0 = y at *
              obtain ⟨m, rfl⟩ := Int.eq_ofNat_of_zero_le hp
              rw [Int.toNat_natCast] at F Hs
              clear hp
              go_wp2_with fail
              (with_reducible refine F.out.mono ?_)
              rintro e w3 ⟨rfl, hS⟩
              have HS3 := hide hS
              clear hS F
              go_wp2
              go_roundw
              case rel => exact ⟨j + 1, by omega, rfl, hide (by rw [Hs.out, ← List.append_assoc]; exact HS3.out)⟩
              case measure => simp [intOf]; omega
            · obtain rfl : j = n3 := by omega
              obtain ⟨hx2, hb2, P, v, hP, hrow, hg, ho⟩ := HS.out
              obtain ⟨A, c, rfl, _⟩ := own_form ho
              have c0 := cell_of_one hg
              have Hd : Hid (rowB P = x.t.data) := hide (by rw [hrow, Tb.data, Hn3.out, hmk.out])
              have Fr := hide (row_any A (2 * (5 + 34 + 1 + j)) c _ P wr (Lies.of_own ho) hP.symm (Nat.le_refl _) (by omega))
              have HB2 := hide hb2
              clear hx2 hb2 hP hrow hg ho HS hlt hj Fv
              go_wp2_with fail
              (with_reducible refine Fr.out.mono ?_)
              rintro e w4 ⟨A', m, c', rfl, ho, hb⟩
              have Ho := hide ho
              have HB4 := hide hb
              clear ho hb Fr
              go_wp2
              go_ret
              rw [Hd.out] at Ho
              have hl := Ho.out.1
              rw [bys_len] at hl
              exact ⟨A', m, c', rfl, by omega, own_up Ho.out HB2.out.size, HB2.out.trans (HB4.out.mono HB2.out.size)⟩

set_option maxHeartbeats 2000000 in
theorem tput_badL (x : Tl) (B : Nat) (w : World) (hx : x.Ok w B) (hf : x.Long) (hm : ¬ x.t.May) (hB : B ≤ w.heap.size) :
    Calls Tryz.prog 31 #[x.val] w fun e w' => e = .returned (.tuple #[.slice none 0 0, .int .i64 3]) ∧ Below w.heap.size w w' := by
  have Hb0 := hide ((Below.refl w.heap.size w).alloc (Nat.le_refl _) (.cells x.cells.toArray 26))
  have HX := hide (BoxT.new x w)
  have Fc := hide (tcheck_big x B _ (hx.below (Hb0.out.mono hB)) hf (Nat.le_trans hB Hb0.out.size))
  rw [Tb.check_not hm] at Fc
  have e0 : x.val = .agg #[.int .u64 (x.t.seq : Int), .slice x.A1 x.t.bad.length x.c1, .slice x.A2 x.t.wear.length x.c2, .slice x.A3 x.t.void.length x.c3] := rfl
  have e1 : x.cells.toArray = #[.int .u64 (x.t.seq : Int), .slice x.A1 x.t.bad.length x.c1, .slice x.A2 x.t.wear.length x.c2, .slice x.A3 x.t.void.length x.c3] := rfl
  rw [e0] at Fc ⊢
  rw [e1] at Hb0 HX Fc
  have c0 := HX.out.c 0 _ rfl
  have c1 := HX.out.c 1 _ rfl
  have c2 := HX.out.c 2 _ rfl
  have c3 := HX.out.c 3 _ rfl
  clear hx hf hm hB HX e1 e0
  generalize x.t.bad.length = n1 at *
  generalize x.t.wear.length = n2 at *
  generalize x.t.void.length = n3 at *
  go_enter Tryz.func31, Tryz.ntmps31
  go_wp2_with fail
  (with_reducible refine Fc.out.mono ?_)
  rintro e w2 ⟨rfl, hb⟩
  have HB := hide (Hb0.out.trans (hb.mono Hb0.out.size))
  clear hb Fc Hb0
  go_wp2
  go_ret2
  exact ⟨rfl, HB.out⟩

theorem tput_bad (x : Tl) (B : Nat) (w : World) (hx : x.Ok w B) (hf : x.Few) (hm : ¬ x.t.May) (hB : B ≤ w.heap.size) :
    Calls Tryz.prog 31 #[x.val] w fun e w' => e = .returned (.tuple #[.slice none 0 0, .int .i64 3]) ∧ Below w.heap.size w w' := tput_badL x B w hx hf.long hm hB

set_option maxHeartbeats 2000000 in
theorem tput_ok (x : Tl) (B : Nat) (w : World) (hx : x.Ok w B) (hf : x.Few) (hm : x.t.May) (hB : B ≤ w.heap.size) :
    Calls Tryz.prog 31 #[x.val] w fun e w' => ∃ A c, e = .returned (.tuple #[.slice A 256 c, .int .i64 0]) ∧ w'.ownsRow w.heap.size 5 1 (.slice A 256 c) 256 (bys x.t.page) ∧ Below w.heap.size w w' := by
  have Hb0 := hide ((Below.refl w.heap.size w).alloc (Nat.le_refl _) (.cells x.cells.toArray 26))
  have HX := hide (BoxT.new x w)
  have Fc := hide (tcheck_any x B _ (hx.below (Hb0.out.mono hB)) hf (Nat.le_trans hB Hb0.out.size))
  rw [Tb.check_ok hm] at Fc
  have Fl := hide (fun W (hW : Below w.heap.size w W) => laid_tb x B W (hx.below (hW.mono hB)) hm (Nat.le_trans hB hW.size))
  have Fp := hide (fun W => pput_ok x.t.hd x.t.data W (Tb.hd_may hm) rfl)
  have Hdl := hide (show x.t.data.length ≤ 228 by have := x.t.data_len; have := hm.2.2.2.1; omega)
  have e0 : x.val = .agg #[.int .u64 (x.t.seq : Int), .slice x.A1 x.t.bad.length x.c1, .slice x.A2 x.t.wear.length x.c2, .slice x.A3 x.t.void.length x.c3] := rfl
  have e1 : x.cells.toArray = #[.int .u64 (x.t.seq : Int), .slice x.A1 x.t.bad.length x.c1, .slice x.A2 x.t.wear.length x.c2, .slice x.A3 x.t.void.length x.c3] := rfl
  have e2 : x.t.hd.val = .agg #[.int .i64 1, .int .i64 0, .int .i64 1, .int .u64 (x.t.seq : Int), .int .u64 0, .int .i64 (x.t.wear.length : Int), .int .i64 (x.t.data.length : Int)] := rfl
  have Hpg : Hid (pageB x.t.hd x.t.data = x.t.page) := hide rfl
  rw [e0] at Fc Fl ⊢
  rw [e1] at Hb0 HX Fc
  rw [e2] at Fp
  rw [Hpg.out] at Fp
  have c0 := HX.out.c 0 _ rfl
  have c1 := HX.out.c 1 _ rfl
  have c2 := HX.out.c 2 _ rfl
  have c3 := HX.out.c 3 _ rfl
  clear hx hf hm hB e1 e0 e2
  obtain ⟨d, hd⟩ : ∃ d, Hid (d = x.t.data) := ⟨_, hide rfl⟩
  rw [← hd.out] at Fl Fp Hdl
  go_enter Tryz.func31, Tryz.ntmps31
  go_wp2_with fail
  (with_reducible refine Fc.out.mono ?_)
  rintro e w2 ⟨rfl, hb⟩
  have HB := hide (Hb0.out.trans (hb.mono Hb0.out.size))
  have HX2 := hide (HX.out.below hb HX.out.lt)
  clear hb Fc Hb0 c0 c1 c2 c3 HX
  have c0 := HX2.out.c 0 _ rfl
  have c1 := HX2.out.c 1 _ rfl
  have c2 := HX2.out.c 2 _ rfl
  have c3 := HX2.out.c 3 _ rfl
  go_wp2_with fail
  (with_reducible refine (Fl.out _ HB.out).mono ?_)
  rintro e w3 ⟨A, m, c, rfl, hm, ho, hb⟩
  have HB3 := hide (HB.out.trans (hb.mono HB.out.size))
  have HX3 := hide (HX2.out.below hb HX2.out.lt)
  have hs := strU8 c (Lies.of_own ho) hm
  subst hm
  clear hb ho Fl HB c0 c1 c2 c3 HX2
  have c0 := HX3.out.c 0 _ rfl
  have c1 := HX3.out.c 1 _ rfl
  have c2 := HX3.out.c 2 _ rfl
  have c3 := HX3.out.c 3 _ rfl
  have Fq := hide (Fp.out w3)
  clear Fp
  go_wp2_with fail
  (with_reducible refine Fq.out.mono ?_)
  rintro e w4 ⟨A', c', rfl, ho, hb⟩
  have HB4 := hide (HB3.out.trans (hb.mono HB3.out.size))
  have Ho := hide (own_up ho HB3.out.size)
  clear hb ho Fq hs c0 c1 c2 c3 hd
  go_wp2
  go_ret2
  exact ⟨A', c', rfl, Ho.out, HB4.out⟩
end Go.Proofs.YtigpplckddnghaaGreat
