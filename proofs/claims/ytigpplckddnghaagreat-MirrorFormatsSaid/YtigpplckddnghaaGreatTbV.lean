/-
  CONTRACT of table.Get. (By gen/TbU.gen.py.)
  TABLES whose rows lie in no block k. (Cut out of TbW.)
-/
import Derived.Test.YtigpplckddnghaaGreatTbT
import Derived.Test.YtigpplckddnghaaGreatMrI
import Derived.Test.YtigpplckddnghaaGreatTbQ
import Derived.Test.YtigpplckddnghaaGreatPgG
namespace Go.Proofs.YtigpplckddnghaaGreat
section
open Go.RowKit
set_option maxRecDepth 8000

def zeroTl : Tl := ⟨zeroT, none, none, none, 0, 0, 0⟩
theorem readT_few (h : Hd) (d : List UInt8) : (readT h d).bad.length ≤ 1000 ∧ (readT h d).wear.length ≤ 1000 ∧ (readT h d).void.length ≤ 1000 := by
  unfold readT
  dsimp only
  refine ⟨Nat.le_trans (badsOf_len _ _) (by omega), ?_, ?_⟩
  · unfold ints; rw [List.length_map, List.length_take, rds_len]; omega
  · unfold ints; rw [List.length_map, rds_len]
    have := rd_lt 1 (rds 2 34 (rds 1 5 d).2).2
    omega
theorem results_tb1 {fn : Func} {p u : Tmp} (h : fn.results = #[.cell p 26, .tmp u]) (tmps : Array Value) (W : World) (x : Tl) (k : Nat) (hp : tmps.getD p undef = .pointer (some ⟨k, 0, none⟩)) (hx : BoxT x k W) :
    (results fn tmps).run Tryz.prog W = .ok (.tuple #[x.val, tmps.getD u undef]) W := by
  have hp' : tmps[p]?.getD undef = .pointer (some ⟨k, 0, none⟩) := by simpa using hp
  simp [results, h, hp', asAddr, load_table hx, Result.andThen]
theorem boxT4 {W : World} {k : Nat} {y x : Tl} (hx : BoxT y k W) : BoxT x k ((((W.setCell ⟨k, 0, none⟩ (.int .u64 (x.t.seq : Int))).setCell ⟨k, 1, none⟩ (.slice x.A1 x.t.bad.length x.c1)).setCell ⟨k, 2, none⟩ (.slice x.A2 x.t.wear.length x.c2)).setCell ⟨k, 3, none⟩ (.slice x.A3 x.t.void.length x.c3)) :=
  heap_set (heap_set (heap_set (heap_set hx 0 (.int .u64 (x.t.seq : Int))) 1 (.slice x.A1 x.t.bad.length x.c1)) 2 (.slice x.A2 x.t.wear.length x.c2)) 3 (.slice x.A3 x.t.void.length x.c3)
theorem below4 {B k : Nat} {w W : World} (hb : Below B w W) (hk : B ≤ k) (a b c d : Value) : Below B w ((((W.setCell ⟨k, 0, none⟩ a).setCell ⟨k, 1, none⟩ b).setCell ⟨k, 2, none⟩ c).setCell ⟨k, 3, none⟩ d) :=
  (((hb.setCell (p := ⟨k, 0, none⟩) hk _).setCell (p := ⟨k, 1, none⟩) hk _).setCell (p := ⟨k, 2, none⟩) hk _).setCell (p := ⟨k, 3, none⟩) hk _
theorem zeroTl_ok (w : World) (B : Nat) : zeroTl.Ok w B := ⟨.inl rfl, .inl rfl, .inl rfl, Nat.le_refl _, Nat.le_refl _, Nat.le_refl _, fun y hy => absurd hy (by simp [zeroTl, zeroT]), by decide, fun y hy => absurd hy (by simp [zeroTl, zeroT])⟩
theorem zeroTl_few : zeroTl.Few := ⟨Nat.zero_le _, Nat.zero_le _, Nat.zero_le _⟩

theorem zeroTl_hi (B : Nat) : zeroTl.Hi B := ⟨.inl rfl, .inl rfl, .inl rfl⟩
theorem Tl.Hi.mono {x : Tl} {B B' : Nat} (h : x.Hi B) (hB : B' ≤ B) : x.Hi B' := by
  have g : ∀ {l : List Int} {A : Option Addr}, (l = [] ∨ ∃ a, A = some a ∧ B ≤ a.block) → (l = [] ∨ ∃ a, A = some a ∧ B' ≤ a.block) := by
    rintro l A (h | ⟨a, h, h2⟩)
    · exact .inl h
    · exact .inr ⟨a, h, by omega⟩
  exact ⟨g h.1, g h.2.1, g h.2.2⟩
/-- How Get ends. -/
def GetEnd (w : World) (b : List UInt8) (e : Ending) (w' : World) : Prop := ∃ x : Tl, ∃ q : Int, e = .returned (.tuple #[x.val, .int .i64 q]) ∧ x.t = (getT b).1 ∧ q = (getT b).2 ∧ x.Ok w' w'.heap.size ∧ x.Few ∧ Below w.heap.size w w' ∧ x.Hi w.heap.size

set_option maxHeartbeats 8000000 in
theorem tget_any (A : Option Addr) (n c B : Nat) (b : List UInt8) (w : World) (hl : Lies w B A (bys b)) (hn : n = b.length) (hc : n ≤ c) (hB : B ≤ w.heap.size) (_hbig : n ≤ 1000) :
    Calls Tryz.prog 32 #[.slice A n c] w (GetEnd w b) := by
  have hb1 := (Below.refl w.heap.size w).alloc (Nat.le_refl _) (.cells #[.int .u64 0, .slice none 0 0, .slice none 0 0, .slice none 0 0] 26)
  have hx1 : BoxT zeroTl w.heap.size (w.alloc (.cells #[.int .u64 0, .slice none 0 0, .slice none 0 0, .slice none 0 0] 26)) := BoxT.new zeroTl w
  have HB := hide hb1
  have HX := hide hx1
  have Fg := hide (pget_any A n c B b _ (hl.below (hb1.mono hB)) hn hc (Nat.le_trans hB hb1.size))
  by_cases h1 : classN b = 1
  · have hrb := (class_one b).1 h1
    unfold rightB at hrb
    rw [decide_eq_true_eq] at hrb
    obtain ⟨h256, hm, _⟩ := hrb
    have hdl : (dataOf b).length ≤ 228 := by
      rw [dataOf_len b h256 hm]
      have := hm.2.2.2.2.2.2.2.2.2.2
      omega
    have hgr : getR b = (headOf b, dataOf b, 0) := by unfold getR; rw [if_neg (by omega), if_pos h1]
    have hgt : getT b = if (readT (headOf b) (dataOf b)).May ∧ (readT (headOf b) (dataOf b)).page = b then (readT (headOf b) (dataOf b), 0) else (zeroT, 6) := by unfold getT; rw [if_neg (by omega), if_pos h1]
    rw [hgr] at Fg
    dsimp only at Fg
    have Fr := hide (fun W => tread_any (headOf b) (dataOf b) W (by omega) (by have := hm.2.2.2.2.2.2.1; omega))
    have HGT := hide hgt
    have Hfew := hide (readT_few (headOf b) (dataOf b))
    have HL := hide (fun W (hW : Below w.heap.size w W) => hl.below (hW.mono hB))
    have HBw := hide hB
    have Hn := hide hn
    generalize readT (headOf b) (dataOf b) = T at *
    generalize headOf b = h at *
    generalize dataOf b = d at *
    rcases h with ⟨kd, ix, ct, bt, op, lp, ln⟩
    unfold Hd.val at Fg Fr
    dsimp only at Fg Fr
    clear hb1 hx1 hm hdl h1 hgr hgt h256 hl hn hc hB _hbig
    go_enter Tryz.func32, Tryz.ntmps32
    go_wp2_with fail
    (with_reducible refine Fg.out.mono ?_)
    rintro e w2 ⟨rfl, hb⟩
    have hb2 := HB.out.trans (hb.mono HB.out.size)
    have HB3 := hide (hb2.alloc hb2.size (.cells #[.int .i64 kd, .int .i64 ix, .int .i64 ct, .int .u64 (bt : Int), .int .u64 (op : Int), .int .i64 lp, .int .i64 ln] 108))
    have HX3 := hide ((HX.out.below hb HX.out.lt).below ((Below.refl w2.heap.size w2).alloc (Nat.le_refl _) (.cells #[.int .i64 kd, .int .i64 ix, .int .i64 ct, .int .u64 (bt : Int), .int .u64 (op : Int), .int .i64 lp, .int .i64 ln] 108)) (Nat.lt_of_lt_of_le HX.out.lt hb.size))
    clear hb hb2 Fg HB HX
    go_wp2_with fail
    (with_reducible refine (Fr.out _).mono ?_)
    rintro e w4 ⟨x, rfl, hxt, hok, hhi, hb⟩
    have Hhi := hide hhi
    have Hws := hide (show w.heap.size < w2.heap.size + 1 by have := HX3.out.lt; simp at this; omega)
    have hb4 := HB3.out.trans (hb.mono HB3.out.size)
    have hx4 := HX3.out.below hb HX3.out.lt
    have Hxt := hide hxt
    have Hfx := hide (show x.Few by have := Hfew.out; rw [← hxt] at this; exact ⟨this.1, this.2.1, this.2.2⟩)
    have e0 : x.val = .agg #[.int .u64 (x.t.seq : Int), .slice x.A1 x.t.bad.length x.c1, .slice x.A2 x.t.wear.length x.c2, .slice x.A3 x.t.void.length x.c3] := rfl
    have e1 : x.cells.toArray = #[.int .u64 (x.t.seq : Int), .slice x.A1 x.t.bad.length x.c1, .slice x.A2 x.t.wear.length x.c2, .slice x.A3 x.t.void.length x.c3] := rfl
    have HB5 := hide (hb4.alloc hb4.size (.cells x.cells.toArray 26))
    have HX5 := hide (hx4.below ((Below.refl w4.heap.size w4).alloc (Nat.le_refl _) (.cells x.cells.toArray 26)) hx4.lt)
    have HT5 := hide (BoxT.new x w4)
    have HO5 := hide ((hok.below ((Below.refl w4.heap.size w4).alloc (Nat.le_refl _) (.cells x.cells.toArray 26))).up (show w4.heap.size ≤ (w4.alloc (.cells x.cells.toArray 26)).heap.size by simp))
    have Hlt := hide hx4.lt
    rw [e0]
    rw [e1] at HB5 HX5 HT5 HO5
    clear hb hb4 hx4 hok hxt e1 HB3 HX3 Fr Hfew
    go_upto_region 5 with fail
    generalize hw5 : w4.alloc (.cells #[.int .u64 (x.t.seq : Int), .slice x.A1 x.t.bad.length x.c1, .slice x.A2 x.t.wear.length x.c2, .slice x.A3 x.t.void.length x.c3] 26) = w5 at *
    generalize w4.heap.size = kt at *
    by_cases hmay : x.t.May
    · have Fp := hide (tput_ok x _ w5 HO5.out Hfx.out hmay (Nat.le_refl _))
      rw [e0] at Fp
      obtain ⟨pg, hpg⟩ : ∃ p, Hid (p = x.t.page) := ⟨_, hide rfl⟩
      rw [← hpg.out] at Fp
      by_cases heq : pg = b
      · have HE := hide (show getT b = (T, 0) by rw [HGT.out, if_pos ⟨by rw [← Hxt.out]; exact hmay, by rw [← Hxt.out, ← hpg.out, heq]⟩])
        have c0 := HT5.out.c 0 _ rfl
        have c1 := HT5.out.c 1 _ rfl
        have c2 := HT5.out.c 2 _ rfl
        have c3 := HT5.out.c 3 _ rfl
        go_wp2_with fail
        (with_reducible refine Fp.out.mono ?_)
        rintro e w6 ⟨A6, k6, rfl, ho, hb⟩
        have HB6 := hide (HB5.out.trans (hb.mono HB5.out.size))
        have HX6 := hide (HX5.out.below hb HX5.out.lt)
        have HT6 := hide (HT5.out.below hb HT5.out.lt)
        have HO6 := hide ((HO5.out.below hb).up hb.size)
        have hpl : pg.length = 256 := by have := ho.1; rw [bys_len] at this; omega
        have Fe := hide (equal_any A6 A 256 k6 n c w6.heap.size B pg b w6 (Lies.of_own ho) hpl.symm (HL.out _ HB6.out) Hn.out)
        rw [decide_eq_true heq] at Fe
        clear hb ho Fp HX5 HT5 HO5 HB5 c0 c1 c2 c3 hpl
        go_wp2_with fail
        (with_reducible refine Fe.out.mono ?_)
        rintro e w7 ⟨rfl, rfl⟩
        clear Fe
        have Hne := hide (show w.heap.size ≠ kt by have := Hlt.out; omega)
        have c0 := HT6.out.c 0 _ rfl
        have c1 := HT6.out.c 1 _ rfl
        have c2 := HT6.out.c 2 _ rfl
        have c3 := HT6.out.c 3 _ rfl
        have z0 := HX6.out.c 0 _ rfl
        have z1 := HX6.out.c 1 _ rfl
        have z2 := HX6.out.c 2 _ rfl
        have z3 := HX6.out.c 3 _ rfl
        have y0 := HX6.out.free 0
        have y1 := HX6.out.free 1
        have y2 := HX6.out.free 2
        have y3 := HX6.out.free 3
        go_wp2
        refine bodyPost_ret (results_tb1 rfl _ _ x w.heap.size rfl (boxT4 HX6.out)) rfl ⟨x, 0, rfl, by rw [HE.out, Hxt.out], by rw [HE.out], ?_, Hfx.out, below4 HB6.out (Nat.le_refl _) _ _ _ _, Hhi.out.mono (by have := Hws.out; simp; omega)⟩
        exact ((((HO6.out.set Hhi.out (by have := Hws.out; simp; omega)).set Hhi.out (by have := Hws.out; simp; omega)).set Hhi.out (by have := Hws.out; simp; omega)).set Hhi.out (by have := Hws.out; simp; omega)).up (by simp [World.setCell])
      · have HE := hide (show getT b = (zeroT, 6) by rw [HGT.out, if_neg (fun h => heq (by rw [hpg.out, Hxt.out]; exact h.2))])
        have c0 := HT5.out.c 0 _ rfl
        have c1 := HT5.out.c 1 _ rfl
        have c2 := HT5.out.c 2 _ rfl
        have c3 := HT5.out.c 3 _ rfl
        go_wp2_with fail
        (with_reducible refine Fp.out.mono ?_)
        rintro e w6 ⟨A6, k6, rfl, ho, hb⟩
        have HB6 := hide (HB5.out.trans (hb.mono HB5.out.size))
        have HX6 := hide (HX5.out.below hb HX5.out.lt)
        have HT6 := hide (HT5.out.below hb HT5.out.lt)
        have HO6 := hide ((HO5.out.below hb).up hb.size)
        have hpl : pg.length = 256 := by have := ho.1; rw [bys_len] at this; omega
        have Fe := hide (equal_any A6 A 256 k6 n c w6.heap.size B pg b w6 (Lies.of_own ho) hpl.symm (HL.out _ HB6.out) Hn.out)
        rw [decide_eq_false heq] at Fe
        clear hb ho Fp HX5 HT5 HO5 HB5 c0 c1 c2 c3 hpl
        go_wp2_with fail
        (with_reducible refine Fe.out.mono ?_)
        rintro e w7 ⟨rfl, rfl⟩
        clear Fe
        have z0 := HX6.out.c 0 _ rfl
        have z1 := HX6.out.c 1 _ rfl
        have z2 := HX6.out.c 2 _ rfl
        have z3 := HX6.out.c 3 _ rfl
        have y0 := HX6.out.free 0
        have y1 := HX6.out.free 1
        have y2 := HX6.out.free 2
        have y3 := HX6.out.free 3
        go_wp2
        refine bodyPost_ret (results_tb1 rfl _ _ zeroTl w.heap.size rfl (boxT4 (x := zeroTl) HX6.out)) rfl ⟨zeroTl, 6, rfl, by rw [HE.out]; rfl, by rw [HE.out], zeroTl_ok _ _, zeroTl_few, below4 HB6.out (Nat.le_refl _) _ _ _ _, zeroTl_hi _⟩
    · have Fp := hide (tput_bad x _ w5 HO5.out Hfx.out hmay (Nat.le_refl _))
      rw [e0] at Fp
      have HE := hide (show getT b = (zeroT, 6) by rw [HGT.out, if_neg (fun h => hmay (by rw [Hxt.out]; exact h.1))])
      have c0 := HT5.out.c 0 _ rfl
      have c1 := HT5.out.c 1 _ rfl
      have c2 := HT5.out.c 2 _ rfl
      have c3 := HT5.out.c 3 _ rfl
      go_wp2_with fail
      (with_reducible refine Fp.out.mono ?_)
      rintro e w6 ⟨rfl, hb⟩
      have HB6 := hide (HB5.out.trans (hb.mono HB5.out.size))
      have HX6 := hide (HX5.out.below hb HX5.out.lt)
      clear hb Fp
      have z0 := HX6.out.c 0 _ rfl
      have z1 := HX6.out.c 1 _ rfl
      have z2 := HX6.out.c 2 _ rfl
      have z3 := HX6.out.c 3 _ rfl
      have y0 := HX6.out.free 0
      have y1 := HX6.out.free 1
      have y2 := HX6.out.free 2
      have y3 := HX6.out.free 3
      go_wp2
      refine bodyPost_ret (results_tb1 rfl _ _ zeroTl w.heap.size rfl (boxT4 (x := zeroTl) HX6.out)) rfl ⟨zeroTl, 6, rfl, by rw [HE.out]; rfl, by rw [HE.out], zeroTl_ok _ _, zeroTl_few, below4 HB6.out (Nat.le_refl _) _ _ _ _, zeroTl_hi _⟩
  · have hgr : (getR b).1 = zeroHd ∧ (getR b).2.1 = [] ∧ (getR b).2.2 = (if classN b = 0 then 8 else 6) := by
      unfold getR
      by_cases h0 : classN b = 0
      · rw [if_pos h0, if_pos h0]; exact ⟨rfl, rfl, rfl⟩
      · rw [if_neg h0, if_neg h1, if_neg h0]; exact ⟨rfl, rfl, rfl⟩
    have hgt : getT b = (zeroT, if classN b = 0 then 8 else 6) := by
      unfold getT
      by_cases h0 : classN b = 0
      · rw [if_pos h0, if_pos h0]
      · rw [if_neg h0, if_neg h1, if_neg h0]
    rw [hgr.1, hgr.2.1, hgr.2.2] at Fg
    rcases (show classN b = 0 ∨ classN b = 2 by have := class_le b; omega) with h0 | h0
    all_goals
      rw [h0] at Fg hgt
      have HE := hide hgt
      clear hb1 hx1 h1 h0 hgr hgt hl hn hc hB _hbig
      unfold Hd.val zeroHd at Fg
      dsimp only at Fg
      go_enter Tryz.func32, Tryz.ntmps32
      go_wp2_with fail
      (with_reducible refine Fg.out.mono ?_)
      rintro e w2 ⟨rfl, hb⟩
      have hb2 := HB.out.trans (hb.mono HB.out.size)
      have HB6 := hide (hb2.alloc hb2.size (.cells #[.int .i64 0, .int .i64 0, .int .i64 0, .int .u64 0, .int .u64 0, .int .i64 0, .int .i64 0] 108))
      have HX6 := hide ((HX.out.below hb HX.out.lt).below ((Below.refl w2.heap.size w2).alloc (Nat.le_refl _) (.cells #[.int .i64 0, .int .i64 0, .int .i64 0, .int .u64 0, .int .u64 0, .int .i64 0, .int .i64 0] 108)) (Nat.lt_of_lt_of_le HX.out.lt hb.size))
      clear hb hb2 Fg HB HX
      go_upto_region 3 with fail
      generalize w2.alloc (.cells #[.int .i64 0, .int .i64 0, .int .i64 0, .int .u64 0, .int .u64 0, .int .i64 0, .int .i64 0] 108) = w6 at *
      have z0 := HX6.out.c 0 _ rfl
      have z1 := HX6.out.c 1 _ rfl
      have z2 := HX6.out.c 2 _ rfl
      have z3 := HX6.out.c 3 _ rfl
      have y0 := HX6.out.free 0
      have y1 := HX6.out.free 1
      have y2 := HX6.out.free 2
      have y3 := HX6.out.free 3
      go_wp2
      exact bodyPost_ret (results_tb1 rfl _ _ zeroTl w.heap.size rfl (boxT4 (x := zeroTl) HX6.out)) rfl ⟨zeroTl, _, rfl, by rw [HE.out]; rfl, by rw [HE.out]; rfl, zeroTl_ok _ _, zeroTl_few, below4 HB6.out (Nat.le_refl _) _ _ _ _, zeroTl_hi _⟩
end
section
open Go.RowKit
set_option maxRecDepth 8000

/-- Rows that lie in no block k. -/
def Tl.Off (x : Tl) (k : Nat) : Prop := (x.t.bad = [] ∨ ∃ a, x.A1 = some a ∧ a.block ≠ k) ∧ (x.t.wear = [] ∨ ∃ a, x.A2 = some a ∧ a.block ≠ k) ∧ (x.t.void = [] ∨ ∃ a, x.A3 = some a ∧ a.block ≠ k)
theorem Tl.Hi.off {x : Tl} {B k : Nat} (h : x.Hi B) (hk : k < B) : x.Off k := by
  have g : ∀ {l : List Int} {A : Option Addr}, (l = [] ∨ ∃ a, A = some a ∧ B ≤ a.block) → (l = [] ∨ ∃ a, A = some a ∧ a.block ≠ k) := by
    rintro l A (h | ⟨a, h, h2⟩)
    · exact .inl h
    · exact .inr ⟨a, h, by omega⟩
  exact ⟨g h.1, g h.2.1, g h.2.2⟩
theorem Tl.Ok.off {x : Tl} {B k : Nat} {w : World} (h : x.Ok w B) (hk : B ≤ k) : x.Off k := by
  have g : ∀ {l : List Int} {A : Option Addr} {q : IntKind}, Lies w B A (nums q l) → (l = [] ∨ ∃ a, A = some a ∧ a.block ≠ k) := by
    intro l A q hl
    rcases hl with h | ⟨a, h, h2, _⟩
    · exact .inl (List.eq_nil_of_length_eq_zero (by rw [← nums_len q l, h]; rfl))
    · exact .inr ⟨a, h, by omega⟩
  exact ⟨g h.l1, g h.l2, g h.l3⟩
theorem lies_setO {w : World} {B k j : Nat} {A : Option Addr} {xs : List Value} {u : Value} (h : Lies w B A xs) (hk : xs = [] ∨ ∃ a, A = some a ∧ a.block ≠ k) : Lies (w.setCell ⟨k, j, none⟩ u) B A xs := by
  rcases h with h | ⟨a, hA, hb, hc⟩
  · exact .inl h
  · rcases hk with h | ⟨a', hA', hk⟩
    · exact .inl h
    · rw [hA] at hA'; injection hA' with e; subst e
      refine .inr ⟨a, hA, hb, fun i v hv => ?_⟩
      have e : (a.add i).block = a.block := by unfold Addr.add; split <;> rfl
      exact (World.cell?_of_block (w := w) (a := a.add i) (by rw [e]; exact Below.heap_setCell _ _ _ _ (show a.block ≠ k from hk))).trans (hc i v hv)
theorem Tl.Ok.setO {x : Tl} {w : World} {B k j : Nat} {u : Value} (h : x.Ok w B) (hi : x.Off k) : x.Ok (w.setCell ⟨k, j, none⟩ u) B := by
  have key : ∀ {A : Option Addr} {l : List Int} {kd : IntKind}, (l = [] ∨ ∃ a, A = some a ∧ a.block ≠ k) → (nums kd l = [] ∨ ∃ a, A = some a ∧ a.block ≠ k) := fun h => by
    rcases h with rfl | ⟨a, h1, h2⟩
    · exact .inl rfl
    · exact .inr ⟨a, h1, h2⟩
  exact ⟨lies_setO h.l1 (key hi.1), lies_setO h.l2 (key hi.2.1), lies_setO h.l3 (key hi.2.2), h.k1, h.k2, h.k3, h.pos, h.seq, h.top⟩
theorem lies_grown {w w' : World} {B : Nat} {A : Option Addr} {xs : List Value} {row : Option Nat} (h : Lies w B A xs) (hg : w.grownBy w' row) (hB : B ≤ w.heap.size) (hk : ∀ k, row = some k → (xs = [] ∨ ∃ a, A = some a ∧ a.block ≠ k)) : Lies w' B A xs := by
  rcases h with h | ⟨a, hA, hb, hc⟩
  · exact .inl h
  · by_cases hx : xs = []
    · exact .inl hx
    · refine .inr ⟨a, hA, hb, fun i v hv => ?_⟩
      have e : (a.add i).block = a.block := by unfold Addr.add; split <;> rfl
      refine (World.cell?_of_block (w := w) (a := a.add i) ?_).trans (hc i v hv)
      rw [e]
      refine hg.block a.block (by omega) (fun er => ?_)
      rcases hk a.block er.symm with h2 | ⟨a', h2, h3⟩
      · exact hx h2
      · rw [hA] at h2; injection h2 with h2; exact h3 (by rw [h2])
theorem Tl.Ok.grown {x : Tl} {w w' : World} {B : Nat} {row : Option Nat} (h : x.Ok w B) (hg : w.grownBy w' row) (hB : B ≤ w.heap.size) (hk : ∀ k, row = some k → x.Off k) : x.Ok w' B := by
  have key : ∀ {A : Option Addr} {l : List Int} {kd : IntKind} {k : Nat}, (l = [] ∨ ∃ a, A = some a ∧ a.block ≠ k) → (nums kd l = [] ∨ ∃ a, A = some a ∧ a.block ≠ k) := fun h => by
    rcases h with rfl | ⟨a, h1, h2⟩
    · exact .inl rfl
    · exact .inr ⟨a, h1, h2⟩
  exact ⟨lies_grown h.l1 hg hB (fun k e => key (hk k e).1), lies_grown h.l2 hg hB (fun k e => key (hk k e).2.1), lies_grown h.l3 hg hB (fun k e => key (hk k e).2.2), h.k1, h.k2, h.k3, h.pos, h.seq, h.top⟩
end
end Go.Proofs.YtigpplckddnghaaGreat
