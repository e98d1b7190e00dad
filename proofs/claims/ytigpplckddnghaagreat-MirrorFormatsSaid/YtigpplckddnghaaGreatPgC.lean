/-
  CONTRACTS of package be, fourth part: Row.
  CONTRACTS of package be: Put.
  CONTRACTS of package page: within, Check; the reference's May; heads as cells. (By gen/PgC.gen.py.)
-/
import Derived.Test.YtigpplckddnghaaGreatMakes
import Derived.StillTailTactics
import Derived.Test.YtigpplckddnghaaGreatBits
import Derived.Test.YtigpplckddnghaaGreatTbM
import Derived.Test.YtigpplckddnghaaGreatProg
import Derived.Test.YtigpplckddnghaaGreatDev2
import Derived.IntWalk
namespace Go.Proofs.YtigpplckddnghaaGreat
section
open Go.RowKit

theorem u64s_len (l : List Nat) : (u64s l).length = l.length := by simp [u64s]
theorem Lies.u64 {w : World} {B : Nat} {A : Option Addr} {l : List Nat} {k : Nat} (h : Lies w B A (u64s l)) (hk : k < l.length) : ∃ a, A = some a ∧ a.block < B ∧ w.cell? (a.add k) = some (.int .u64 ((l.getD k 0 : Nat) : Int)) := by
  obtain ⟨a, hA, hb, hc⟩ := h.at_ (k := k) (by rw [u64s_len]; exact hk)
  refine ⟨a, hA, hb, hc.trans ?_⟩
  congr 1
  simp [u64s, List.getD, List.getElem?_eq_getElem hk]

/-- The bytes of a row of widths and numbers. -/
def rowB : List Nat → List UInt8
  | w :: n :: r => beB (min w 8) n ++ rowB r
  | _ => []
theorem rowB_two (l : List Nat) (a b : Nat) : ∀ j, l.length = 2 * j → rowB (l ++ [a, b]) = rowB l ++ beB (min a 8) b := by
  intro j
  induction j generalizing l with
  | zero => intro h; have : l = [] := List.eq_nil_of_length_eq_zero (by omega); subst this; simp [rowB]
  | succ j ih =>
    intro h
    match l, h with
    | x :: y :: r, h => simp [rowB, ih r (by simp at h; omega)]
    | [], h => simp at h
    | [x], h => simp at h; omega
theorem take_two (l : List Nat) (j : Nat) (h : 2 * j + 1 < l.length) : l.take (2 * j + 2) = l.take (2 * j) ++ [l.getD (2 * j) 0, l.getD (2 * j + 1) 0] := by
  rw [show 2 * j + 2 = (2 * j + 1) + 1 by omega, List.take_add_one, List.take_add_one, List.getElem?_eq_getElem h, List.getElem?_eq_getElem (by omega : 2 * j < l.length)]
  simp only [Option.toList_some, List.append_assoc, List.cons_append, List.nil_append, List.getD_eq_getElem?_getD, List.getElem?_eq_getElem h, List.getElem?_eq_getElem (by omega : 2 * j < l.length), Option.getD_some]
theorem rowB_odd (l : List Nat) (j : Nat) (h : l.length ≤ 2 * j + 1) (h2 : 2 * j ≤ l.length) : rowB (l.take (2 * j)) = rowB l := by
  rcases Nat.lt_or_ge (2 * j) l.length with hl | hl
  · have e : l = l.take (2 * j) ++ [l.getD (2 * j) 0] := by
      have := List.take_add_one (l := l) (i := 2 * j)
      rw [List.take_of_length_le (by omega), List.getElem?_eq_getElem hl] at this
      simpa [List.getD, List.getElem?_eq_getElem hl] using this
    have aux : ∀ (m : List Nat) (x j : Nat), m.length = 2 * j → rowB (m ++ [x]) = rowB m := by
      intro m x j
      induction j generalizing m with
      | zero => intro h; have : m = [] := List.eq_nil_of_length_eq_zero (by omega); subst this; simp [rowB]
      | succ j ih =>
        intro h
        match m, h with
        | a :: b :: r, h => simp [rowB, ih r (by simp at h; omega)]
        | [], h => simp at h
        | [a], h => simp at h; omega
    rw [← aux _ _ j (by simp; omega), ← e]
  · rw [List.take_of_length_le (by omega)]
theorem rowB_len : ∀ l : List Nat, (rowB l).length ≤ 4 * l.length
  | [] => by simp [rowB]
  | [_] => by simp [rowB]
  | w :: n :: r => by have := rowB_len r; simp [rowB, beB_len]; omega

set_option maxRecDepth 4000 in
set_option maxHeartbeats 400000 in
theorem row_any (A : Option Addr) (n c B : Nat) (l : List Nat) (w : World) (h : Lies w B A (u64s l)) (hn : n = l.length) (hB : B ≤ w.heap.size) (hbig : n ≤ 1000000000000) :
    Calls Tryz.prog 94 #[.slice A n c] w fun e w' => ∃ A' m c', e = .returned (.slice A' m c') ∧ w'.ownsRow w.heap.size 5 1 (.slice A' m c') m (bys (rowB l)) ∧ Below w.heap.size w w' := by
  have Hn := hide hn
  have Hl := hide h
  clear hn h
  go_enter Tryz.func94, Tryz.ntmps94
  go_wp2_with fail
  refine (onto_any _ _ _ _).mono ?_
  rintro e w2 ⟨rfl, rfl⟩
  go_wp2
  go_loopw [3, 5] (fun v i wr => ∃ j : Nat, 2 * j ≤ n ∧ i = .int .i64 (2 * (j : Int) + 1) ∧ ∃ A' m c', v = .slice A' m c' ∧ m = (rowB (l.take (2 * j))).length ∧
      wr.heap[w.heap.size + 1]? = some (.cells #[.slice A' m c'] 67 (0, 0)) ∧ wr.ownsRow w.heap.size 5 1 (.slice A' m c') m (bys (rowB (l.take (2 * j)))) ∧ Below w.heap.size w wr) (fun _ i _ => n - (intOf i).toNat)
  case atStart =>
    refine ⟨0, Nat.zero_le _, rfl, _, _, _, rfl, by simp [rowB], ?_, ?_, ((Below.refl _ w).alloc (Nat.le_refl _) _).alloc (by simp) _⟩
    · have := heap_alloc_new (w.alloc (.cells #[] 5)) (.cells #[.slice (some ⟨w.heap.size, 0, none⟩) 0 0] 67)
      simpa using this
    · have := (World.ownsRow_made (e := 5) (size := 1) w #[] 0 (Nat.le_refl _) (Nat.zero_le _) rfl).alloc (.cells #[.slice (some ⟨w.heap.size, 0, none⟩) 0 0] 67)
      simpa [rowB, bys] using this
  case round =>
    obtain ⟨j, hj, rfl, A1, m1, c1, rfl, hm, hg, ho, hb⟩ := hrel
    have Hm := hide hm
    have Hg := hide hg
    have Ho := hide ho
    have Hb := hide hb
    clear hm hg ho hb
    have hml : m1 ≤ 4 * n := by
      have h1 := rowB_len (l.take (2 * j))
      have h2 : (l.take (2 * j)).length ≤ l.length := by simp; omega
      have := Hm.out; have := Hn.out; omega
    by_cases hlt : 2 * (j : Int) + 1 < (n : Int)
    · obtain ⟨a, rfl, _, hca⟩ := (Hl.out.below (Hb.out.mono hB)).u64 (k := 2 * j) (by have := Hn.out; omega)
      have hcb : wr.cell? (a.add (2 * j + 1)) = some (.int .u64 ((l.getD (2 * j + 1) 0 : Nat) : Int)) := by
        obtain ⟨a', ha, _, h⟩ := (Hl.out.below (Hb.out.mono hB)).u64 (k := 2 * j + 1) (by have := Hn.out; omega)
        cases ha; exact h
      have hcb2 : wr.cell? ⟨a.block, a.off + (2 * j + 1), none⟩ = some (.int .u64 ((l.getD (2 * j + 1) 0 : Nat) : Int)) := by
        have e : a.add (2 * j + 1) = ⟨a.block, a.off + (2 * j + 1), none⟩ := by unfold Addr.add; rw [if_neg (by omega)]
        rw [← e]; exact hcb
      generalize hx : l.getD (2 * j) 0 = x at *
      generalize hy : l.getD (2 * j + 1) 0 = y at *
      have Hx := hide hx
      have Hy := hide hy
      clear hx hy
      have h0 : 0 ≤ 2 * (j : Int) := by omega
      have h1 : 2 * (j : Int) < n := by omega
      have h2 : 0 ≤ 2 * (j : Int) + 1 := by omega
      obtain ⟨z, hz, hz8⟩ : ∃ z : Nat, z = min x 8 ∧ z ≤ 8 := ⟨min x 8, rfl, by omega⟩
      have Hz := hide hz
      clear hz
      have hsz := Hb.out.size
      have hj' : 2 * j + 1 < n := by omega
      have fin : ∀ (W : World) (q : Int), q = z → W = wr.drew → Calls Tryz.prog 150 #[.int .i64 q, .int .u64 (y : Int), .pointer (some ⟨w.heap.size + 1, 0, none⟩)] W fun e w' => ∃ A2 c2, e = .returned (.slice A2 (m1 + z) c2) ∧
          w'.heap[w.heap.size + 1]? = some (.cells #[.slice A2 (m1 + z) c2] 67 (0, 0)) ∧ w'.ownsRow w.heap.size 5 1 (.slice A2 (m1 + z) c2) (m1 + z) (bys (rowB (l.take (2 * j + 2)))) ∧ Below w.heap.size w w' := by
        rintro W q rfl rfl
        refine (lay_any (w.heap.size + 1) w.heap.size m1 (.slice A1 m1 c1) _ z y wr.drew (by omega) (by omega) (by omega) Hg.out Ho.out (by omega) hsz (by omega)).mono ?_
        rintro e w' ⟨v, rfl, hg', ho', hb'⟩
        obtain ⟨A2, c2, rfl, _⟩ := own_form ho'
        refine ⟨A2, c2, rfl, hg', ?_, (Hb.out.drew).trans hb'⟩
        rw [take_two l j (by have := Hn.out; omega), rowB_two _ _ _ j (by simp; have := Hn.out; omega), Hx.out, Hy.out, bys_app, ← Hz.out]
        exact ho'
      have Hfin := hide fin
      clear fin
      have hjj : ((2 * (j : Int) + 1 + 2 : Int)) = 2 * ((j + 1 : Nat) : Int) + 1 := by omega
      have Hjj := hide hjj
      clear hjj
      have hx8 : Hid (z = if x ≤ 8 then x else 8) := by rw [Hid, Hz.out]; split <;> omega
      have e5 : x ≤ 8 → IntKind.i64.wrap (x : Int) = x := fun h => IntWalk.i64_in _ (by omega)
      have t1 : (2 * (j : Int)).toNat = 2 * j := by omega
      have t2 : (2 * (j : Int) + 1).toNat = 2 * j + 1 := by omega
      by_cases h8 : x ≤ 8
      all_goals
        first
        | (have e6 : ¬ (8 : Int) < (x : Int) := by omega
           have e7 := e5 h8
           have e8 : (x : Int) = (z : Int) := by rw [hx8.out, if_pos h8])
        | (have e6 : (8 : Int) < (x : Int) := by omega
           have e8 : (8 : Int) = (z : Int) := by rw [hx8.out, if_neg h8]; rfl)
        have E8 := hide e8
        clear e8 e5
        have e1 : IntKind.i64.wrap (2 * (j : Int)) = 2 * (j : Int) := IntWalk.i64_in _ (by omega)
        go_wp2
        go_still_tail 12, (by kernel_rfl)
        clear e1 t1 t2
        change wpList _ _ _ _ _ wr.drew
        go_wp2_with fail
        refine (Hfin.out _ _ E8.out rfl).mono ?_
        rintro e w2 ⟨A2, c2, rfl, hg2, ho2, hb2⟩
        have Hg2 := hide hg2
        have Ho2 := hide ho2
        have Hb2 := hide hb2
        clear hg2 ho2 hb2
        go_wp2
        refine ⟨⟨j + 1, by omega, by rw [Hjj.out], A2, _, c2, rfl, ?_, Hg2.out, Ho2.out, Hb2.out⟩, by simp [intOf]; omega⟩
        have := Ho2.out.1
        rw [bys_len] at this
        change _ = (rowB (l.take (2 * j + 2))).length
        omega
    · go_wp2
      go_ret
      refine ⟨A1, m1, c1, rfl, ?_, Hb.out⟩
      have := Ho.out
      rw [rowB_odd l j (by have := Hn.out; omega) (by have := Hn.out; omega)] at this
      exact this
end
section
open Go.RowKit
set_option maxRecDepth 8000

/-- Put: b, and behind it the lowest w bytes. -/
theorem put_any (A : Option Addr) (n c B : Nat) (l : List UInt8) (a x : Int) (w : World) (h : Lies w B A (bys l)) (hn : n = l.length) (hbig : n ≤ 140737488350000) (hx0 : 0 ≤ x) :
    Calls Tryz.prog 118 #[.slice A n c, .int .i64 a, .int .u64 x] w fun e w' => ∃ v', e = .returned v' ∧
      w'.ownsRow w.heap.size 5 1 v' (n + (min (max a 0) 8).toNat) (bys (l ++ beB (min (max a 0) 8).toNat x.toNat)) ∧ Below w.heap.size w w' := by
  have Hn := hide hn
  clear hn
  have hk0 : 0 ≤ min (max a 0) 8 := by omega
  have hk8 : min (max a 0) 8 ≤ 8 := by omega
  go_enter Tryz.func118, Tryz.ntmps118
  go_wp2_with fail
  refine (clone_any A n c B (bys l) _ h (by rw [bys_len]; exact Hn.out) (bys_one l) (by omega)).mono ?_
  rintro e w1 ⟨v1, rfl, hown1, hb1⟩
  obtain ⟨A1, c1, rfl, _⟩ := own_form hown1
  have Hown1 := hide hown1
  clear hown1
  go_wp2_with fail
  refine (onto_any A1 n c1 _).mono ?_
  rintro e w2 ⟨rfl, rfl⟩
  go_wp2_with fail
  refine (clamp_any a _).mono ?_
  rintro e w2 ⟨rfl, rfl⟩
  go_wp2_with fail
  refine (lay_any w1.heap.size w.heap.size n (.slice A1 n c1) (bys l) _ x _ hk0 hk8 hx0 (heap_alloc_new _ _) (Hown1.out.alloc _) hb1.size (by have := hb1.size; simp; omega) (by omega)).mono ?_
  rintro e w3 ⟨v3, rfl, _, hown3, hb3⟩
  go_wp2
  go_ret
  refine ⟨v3, rfl, by rw [bys_app]; exact hown3, (hb1.alloc hb1.size _).trans hb3⟩
end
section
open Go.RowKit

def Hd.cells (h : Hd) : List Value := [.int .i64 h.kind, .int .i64 h.index, .int .i64 h.count, .int .u64 (h.batch : Int), .int .u64 (h.opn : Int), .int .i64 h.lpn, .int .i64 h.len]
def Hd.val (h : Hd) : Value := .agg #[.int .i64 h.kind, .int .i64 h.index, .int .i64 h.count, .int .u64 (h.batch : Int), .int .u64 (h.opn : Int), .int .i64 h.lpn, .int .i64 h.len]
theorem infoHd : (Tryz.prog.info? 108).map (·.size) = some 7 := by kernel_rfl
/-- A head in its box. -/
def BoxH (h : Hd) (k : Nat) (w : World) : Prop := w.heap[k]? = some (.cells h.cells.toArray 108 (0, 0))
section
variable {h : Hd} {k B : Nat} {w w' : World}
theorem BoxH.below (hx : BoxH h k w) (hb : Below B w w') (hk : k < B) : BoxH h k w' := (hb.block k hk).trans hx
theorem BoxH.new (h : Hd) (w : World) : BoxH h w.heap.size (w.alloc (.cells h.cells.toArray 108)) := heap_alloc_new w _
theorem BoxH.lt (hx : BoxH h k w) : k < w.heap.size := (Array.getElem?_eq_some_iff.1 hx).1
theorem BoxH.free (hx : BoxH h k w) (j : Nat) : w.frozen? ⟨k, j, none⟩ = false := frozen_of_row w k j _ _ hx
theorem BoxH.c (hx : BoxH h k w) (j : Nat) (v : Value) (hj : h.cells[j]? = some v) : w.cell? ⟨k, j, none⟩ = some v := by
  have := World.news_of_block hx j v (by simpa using hj)
  have e : (⟨k, 0, none⟩ : Addr).add j = ⟨k, j, none⟩ := by unfold Addr.add; split <;> simp_all
  rw [e] at this
  exact this
theorem BoxH.range (hx : BoxH h k w) : w.rangeAt k 0 h.cells := by
  intro j v hv
  rw [Nat.zero_add]
  exact hx.c j v hv
end
theorem pwithin_any (z a b : Int) (w : World) : Calls Tryz.prog 116 #[.int .i64 z, .int .i64 a, .int .i64 b] w fun e w' => e = .returned (.bool (decide (a ≤ z ∧ z ≤ b))) ∧ w = w' := by
  by_cases h1 : a ≤ z
  · by_cases h2 : z ≤ b
    · rw [decide_eq_true (And.intro h1 h2)]
      go_enter Tryz.func116, Tryz.ntmps116
      go_wp2
      go_ret
      exact ⟨rfl, rfl⟩
    · rw [decide_eq_false (fun h => h2 h.2)]
      go_enter Tryz.func116, Tryz.ntmps116
      go_wp2
      go_ret
      exact ⟨rfl, rfl⟩
  · rw [decide_eq_false (fun h => h1 h.1)]
    go_enter Tryz.func116, Tryz.ntmps116
    go_wp2
    go_ret
    exact ⟨rfl, rfl⟩

set_option maxRecDepth 100000 in
set_option maxHeartbeats 1600000 in
theorem pcheck_any (h : Hd) (w : World) : Calls Tryz.prog 95 #[h.val] w fun e w' => e = .returned (.int .i64 (if h.May then 0 else 3)) ∧ Below w.heap.size w w' := by
  rcases h with ⟨kd, ix, ct, bt, op, lp, ln⟩
  have Hb := hide (fun o => (Below.refl w.heap.size w).alloc (Nat.le_refl _) o)
  have f1 := pwithin_any kd 1 5
  have f2 := pwithin_any ct 1 16
  have f3 := pwithin_any ix 0 (ct - 1)
  have f6 := pwithin_any lp 0 65535
  have f7 := pwithin_any ln 0 228
  unfold Hd.val
  simp only
  by_cases h1 : 1 ≤ kd ∧ kd ≤ 5
  · rw [decide_eq_true h1] at f1
    by_cases h2 : 1 ≤ ct ∧ ct ≤ 16
    · rw [decide_eq_true h2] at f2
      have e1 : wrap64 (ct - 1) = ct - 1 := by unfold wrap64; omega
      have e2 : IntKind.i64.wrap (ct - 1) = ct - 1 := IntWalk.i64_in _ (by omega)
      have hp1 : True := trivial
      have hp2 : True := trivial
      by_cases h3 : 0 ≤ ix ∧ ix ≤ ct - 1
      · rw [decide_eq_true h3] at f3
        by_cases h4 : (bt : Int) < 2147483648
        · have n4 : decide ((2147483648 : Int) ≤ (bt : Int)) = false := decide_eq_false (by omega)
          by_cases h5 : (op : Int) < 2147483648
          · have n5 : decide ((2147483648 : Int) ≤ (op : Int)) = false := decide_eq_false (by omega)
            by_cases h6 : 0 ≤ lp ∧ lp ≤ 65535
            · rw [decide_eq_true h6] at f6
              by_cases h7 : 0 ≤ ln ∧ ln ≤ 228
              · rw [decide_eq_true h7] at f7
                have hm : Hd.May ⟨kd, ix, ct, bt, op, lp, ln⟩ := ⟨h1.1, h1.2, h2.1, h2.2, h3.1, Int.lt_of_le_sub_one h3.2, Int.ofNat_lt.1 h4, Int.ofNat_lt.1 h5, h6.1, h6.2, h7.1, h7.2⟩
                rw [if_pos hm]
                clear hm h1 h2 h3 h4 h5 h6 h7
                clear hp1 hp2
                go_enter Tryz.func95, Tryz.ntmps95
                go_wp2_with (first | (go_at_call 116; (with_reducible refine (f1 _).mono ?_); rintro e w1 ⟨rfl, rfl⟩; clear f1) | (go_at_call 116; (with_reducible refine (f2 _).mono ?_); rintro e w1 ⟨rfl, rfl⟩; clear f2) | (go_at_call 116; (with_reducible refine (f3 _).mono ?_); rintro e w1 ⟨rfl, rfl⟩; clear f3) | (go_at_call 116; (with_reducible refine (f6 _).mono ?_); rintro e w1 ⟨rfl, rfl⟩; clear f6) | (go_at_call 116; (with_reducible refine (f7 _).mono ?_); rintro e w1 ⟨rfl, rfl⟩; clear f7))
                go_ret
                exact ⟨rfl, Hb.out _⟩
              · rw [decide_eq_false h7] at f7
                rw [if_neg (show ¬ Hd.May ⟨kd, ix, ct, bt, op, lp, ln⟩ from fun h => h7 ⟨h.2.2.2.2.2.2.2.2.2.2.1, h.2.2.2.2.2.2.2.2.2.2.2⟩)]
                clear h1 h2 h3 h4 h5 h6 h7
                go_enter Tryz.func95, Tryz.ntmps95
                go_wp2_with (first | (go_at_call 116; (with_reducible refine (f1 _).mono ?_); rintro e w1 ⟨rfl, rfl⟩; clear f1) | (go_at_call 116; (with_reducible refine (f2 _).mono ?_); rintro e w1 ⟨rfl, rfl⟩; clear f2) | (go_at_call 116; (with_reducible refine (f3 _).mono ?_); rintro e w1 ⟨rfl, rfl⟩; clear f3) | (go_at_call 116; (with_reducible refine (f6 _).mono ?_); rintro e w1 ⟨rfl, rfl⟩; clear f6) | (go_at_call 116; (with_reducible refine (f7 _).mono ?_); rintro e w1 ⟨rfl, rfl⟩; clear f7))
                go_ret
                exact ⟨rfl, Hb.out _⟩
            · rw [decide_eq_false h6] at f6
              rw [if_neg (show ¬ Hd.May ⟨kd, ix, ct, bt, op, lp, ln⟩ from fun h => h6 ⟨h.2.2.2.2.2.2.2.2.1, h.2.2.2.2.2.2.2.2.2.1⟩)]
              clear h1 h2 h3 h4 h5 h6
              go_enter Tryz.func95, Tryz.ntmps95
              go_wp2_with (first | (go_at_call 116; (with_reducible refine (f1 _).mono ?_); rintro e w1 ⟨rfl, rfl⟩; clear f1) | (go_at_call 116; (with_reducible refine (f2 _).mono ?_); rintro e w1 ⟨rfl, rfl⟩; clear f2) | (go_at_call 116; (with_reducible refine (f3 _).mono ?_); rintro e w1 ⟨rfl, rfl⟩; clear f3) | (go_at_call 116; (with_reducible refine (f6 _).mono ?_); rintro e w1 ⟨rfl, rfl⟩; clear f6))
              go_ret
              exact ⟨rfl, Hb.out _⟩
          · have n5 : decide ((2147483648 : Int) ≤ (op : Int)) = true := decide_eq_true (by omega)
            rw [if_neg (show ¬ Hd.May ⟨kd, ix, ct, bt, op, lp, ln⟩ from fun h => h5 (Int.ofNat_lt.2 h.2.2.2.2.2.2.2.1))]
            clear h1 h2 h3 h4 h5
            go_enter Tryz.func95, Tryz.ntmps95
            go_wp2_with (first | (go_at_call 116; (with_reducible refine (f1 _).mono ?_); rintro e w1 ⟨rfl, rfl⟩; clear f1) | (go_at_call 116; (with_reducible refine (f2 _).mono ?_); rintro e w1 ⟨rfl, rfl⟩; clear f2) | (go_at_call 116; (with_reducible refine (f3 _).mono ?_); rintro e w1 ⟨rfl, rfl⟩; clear f3))
            go_ret
            exact ⟨rfl, Hb.out _⟩
        · have n4 : decide ((2147483648 : Int) ≤ (bt : Int)) = true := decide_eq_true (by omega)
          rw [if_neg (show ¬ Hd.May ⟨kd, ix, ct, bt, op, lp, ln⟩ from fun h => h4 (Int.ofNat_lt.2 h.2.2.2.2.2.2.1))]
          clear h1 h2 h3 h4
          go_enter Tryz.func95, Tryz.ntmps95
          go_wp2_with (first | (go_at_call 116; (with_reducible refine (f1 _).mono ?_); rintro e w1 ⟨rfl, rfl⟩; clear f1) | (go_at_call 116; (with_reducible refine (f2 _).mono ?_); rintro e w1 ⟨rfl, rfl⟩; clear f2) | (go_at_call 116; (with_reducible refine (f3 _).mono ?_); rintro e w1 ⟨rfl, rfl⟩; clear f3))
          go_ret
          exact ⟨rfl, Hb.out _⟩
      · rw [decide_eq_false h3] at f3
        rw [if_neg (show ¬ Hd.May ⟨kd, ix, ct, bt, op, lp, ln⟩ from fun h => h3 ⟨h.2.2.2.2.1, Int.le_sub_one_of_lt h.2.2.2.2.2.1⟩)]
        clear h1 h2 h3
        go_enter Tryz.func95, Tryz.ntmps95
        go_wp2_with (first | (go_at_call 116; (with_reducible refine (f1 _).mono ?_); rintro e w1 ⟨rfl, rfl⟩; clear f1) | (go_at_call 116; (with_reducible refine (f2 _).mono ?_); rintro e w1 ⟨rfl, rfl⟩; clear f2) | (go_at_call 116; (with_reducible refine (f3 _).mono ?_); rintro e w1 ⟨rfl, rfl⟩; clear f3))
        go_ret
        exact ⟨rfl, Hb.out _⟩
    · rw [decide_eq_false h2] at f2
      rw [if_neg (show ¬ Hd.May ⟨kd, ix, ct, bt, op, lp, ln⟩ from fun h => h2 ⟨h.2.2.1, h.2.2.2.1⟩)]
      clear h1 h2
      go_enter Tryz.func95, Tryz.ntmps95
      go_wp2_with (first | (go_at_call 116; (with_reducible refine (f1 _).mono ?_); rintro e w1 ⟨rfl, rfl⟩; clear f1) | (go_at_call 116; (with_reducible refine (f2 _).mono ?_); rintro e w1 ⟨rfl, rfl⟩; clear f2))
      go_ret
      exact ⟨rfl, Hb.out _⟩
  · rw [decide_eq_false h1] at f1
    rw [if_neg (show ¬ Hd.May ⟨kd, ix, ct, bt, op, lp, ln⟩ from fun h => h1 ⟨h.1, h.2.1⟩)]
    clear h1
    go_enter Tryz.func95, Tryz.ntmps95
    go_wp2_with (first | (go_at_call 116; (with_reducible refine (f1 _).mono ?_); rintro e w1 ⟨rfl, rfl⟩; clear f1))
    go_ret
    exact ⟨rfl, Hb.out _⟩
set_option maxHeartbeats 3200000 in
theorem may15_any (h : Hd) (w : World) : Calls Tryz.prog 149 #[h.val] w fun e w' => e = .returned (.bool (decide h.May)) ∧ Below w.heap.size w w' := by
  rcases h with ⟨kd, ix, ct, bt, op, lp, ln⟩
  have Hb := hide (fun o => (Below.refl w.heap.size w).alloc (Nat.le_refl _) o)
  unfold Hd.val
  simp only
  by_cases h1 : 1 ≤ kd
  ·
    by_cases h2 : kd ≤ 5
    ·
      by_cases h3 : 1 ≤ ct
      ·
        by_cases h4 : ct ≤ 16
        ·
          by_cases h5 : 0 ≤ ix
          ·
            by_cases h6 : ix < ct
            ·
              by_cases h7 : (bt : Int) < 2147483648
              ·
                by_cases h8 : (op : Int) < 2147483648
                ·
                  by_cases h9 : 0 ≤ lp
                  ·
                    by_cases h10 : lp ≤ 65535
                    ·
                      by_cases h11 : 0 ≤ ln
                      ·
                        by_cases h12 : ln ≤ 228
                        ·
                          rw [decide_eq_true (show Hd.May ⟨kd, ix, ct, bt, op, lp, ln⟩ from ⟨h1, h2, h3, h4, h5, h6, Int.ofNat_lt.1 h7, Int.ofNat_lt.1 h8, h9, h10, h11, h12⟩)]
                          go_enter Tryz.func149, Tryz.ntmps149
                          go_wp2
                          go_ret
                          exact ⟨rfl, Hb.out _⟩
                        · rw [decide_eq_false (show ¬ Hd.May ⟨kd, ix, ct, bt, op, lp, ln⟩ from fun h => h12 h.2.2.2.2.2.2.2.2.2.2.2)]
                          go_enter Tryz.func149, Tryz.ntmps149
                          go_wp2
                          go_ret
                          exact ⟨rfl, Hb.out _⟩
                      · rw [decide_eq_false (show ¬ Hd.May ⟨kd, ix, ct, bt, op, lp, ln⟩ from fun h => h11 h.2.2.2.2.2.2.2.2.2.2.1)]
                        go_enter Tryz.func149, Tryz.ntmps149
                        go_wp2
                        go_ret
                        exact ⟨rfl, Hb.out _⟩
                    · rw [decide_eq_false (show ¬ Hd.May ⟨kd, ix, ct, bt, op, lp, ln⟩ from fun h => h10 h.2.2.2.2.2.2.2.2.2.1)]
                      go_enter Tryz.func149, Tryz.ntmps149
                      go_wp2
                      go_ret
                      exact ⟨rfl, Hb.out _⟩
                  · rw [decide_eq_false (show ¬ Hd.May ⟨kd, ix, ct, bt, op, lp, ln⟩ from fun h => h9 h.2.2.2.2.2.2.2.2.1)]
                    go_enter Tryz.func149, Tryz.ntmps149
                    go_wp2
                    go_ret
                    exact ⟨rfl, Hb.out _⟩
                · rw [decide_eq_false (show ¬ Hd.May ⟨kd, ix, ct, bt, op, lp, ln⟩ from fun h => h8 (Int.ofNat_lt.2 h.2.2.2.2.2.2.2.1))]
                  go_enter Tryz.func149, Tryz.ntmps149
                  go_wp2
                  go_ret
                  exact ⟨rfl, Hb.out _⟩
              · rw [decide_eq_false (show ¬ Hd.May ⟨kd, ix, ct, bt, op, lp, ln⟩ from fun h => h7 (Int.ofNat_lt.2 h.2.2.2.2.2.2.1))]
                go_enter Tryz.func149, Tryz.ntmps149
                go_wp2
                go_ret
                exact ⟨rfl, Hb.out _⟩
            · rw [decide_eq_false (show ¬ Hd.May ⟨kd, ix, ct, bt, op, lp, ln⟩ from fun h => h6 h.2.2.2.2.2.1)]
              go_enter Tryz.func149, Tryz.ntmps149
              go_wp2
              go_ret
              exact ⟨rfl, Hb.out _⟩
          · rw [decide_eq_false (show ¬ Hd.May ⟨kd, ix, ct, bt, op, lp, ln⟩ from fun h => h5 h.2.2.2.2.1)]
            go_enter Tryz.func149, Tryz.ntmps149
            go_wp2
            go_ret
            exact ⟨rfl, Hb.out _⟩
        · rw [decide_eq_false (show ¬ Hd.May ⟨kd, ix, ct, bt, op, lp, ln⟩ from fun h => h4 h.2.2.2.1)]
          go_enter Tryz.func149, Tryz.ntmps149
          go_wp2
          go_ret
          exact ⟨rfl, Hb.out _⟩
      · rw [decide_eq_false (show ¬ Hd.May ⟨kd, ix, ct, bt, op, lp, ln⟩ from fun h => h3 h.2.2.1)]
        go_enter Tryz.func149, Tryz.ntmps149
        go_wp2
        go_ret
        exact ⟨rfl, Hb.out _⟩
    · rw [decide_eq_false (show ¬ Hd.May ⟨kd, ix, ct, bt, op, lp, ln⟩ from fun h => h2 h.2.1)]
      go_enter Tryz.func149, Tryz.ntmps149
      go_wp2
      go_ret
      exact ⟨rfl, Hb.out _⟩
  · rw [decide_eq_false (show ¬ Hd.May ⟨kd, ix, ct, bt, op, lp, ln⟩ from fun h => h1 h.1)]
    go_enter Tryz.func149, Tryz.ntmps149
    go_wp2
    go_ret
    exact ⟨rfl, Hb.out _⟩
end
end Go.Proofs.YtigpplckddnghaaGreat
