/-
  CONTRACTS of package page: within, Check; the reference's May; heads as cells. (By gen/PgC.gen.py.)
-/
import Derived.Test.YtahipfmokbiklaaPgM
import Derived.Test.YtahipfmokbiklaaProg
import Derived.Test.YtahipfmokbiklaaDev2
import Derived.IntWalk
namespace Go.Proofs.Ytahipfmokbiklaa
open Go.RowKit

def Hd.cells (h : Hd) : List Value := [.int .i64 h.kind, .int .i64 h.index, .int .i64 h.count, .int .u64 (h.batch : Int), .int .u64 (h.opn : Int), .int .i64 h.lpn, .int .i64 h.len]
def Hd.val (h : Hd) : Value := .agg #[.int .i64 h.kind, .int .i64 h.index, .int .i64 h.count, .int .u64 (h.batch : Int), .int .u64 (h.opn : Int), .int .i64 h.lpn, .int .i64 h.len]
theorem infoHd : (Try.prog.info? 42).map (·.size) = some 7 := by kernel_rfl
/-- A head in its box. -/
def BoxH (h : Hd) (k : Nat) (w : World) : Prop := w.heap[k]? = some (.cells h.cells.toArray 42 (0, 0))
section
variable {h : Hd} {k B : Nat} {w w' : World}
theorem BoxH.below (hx : BoxH h k w) (hb : Below B w w') (hk : k < B) : BoxH h k w' := (hb.block k hk).trans hx
theorem BoxH.new (h : Hd) (w : World) : BoxH h w.heap.size (w.alloc (.cells h.cells.toArray 42)) := heap_alloc_new w _
theorem BoxH.lt (hx : BoxH h k w) : k < w.heap.size := (Array.getElem?_eq_some_iff.1 hx).1
theorem BoxH.free (hx : BoxH h k w) (j : Nat) : w.frozen? ⟨k, j, none⟩ = false := frozen_of_row w k j _ _ hx
theorem BoxH.c (hx : BoxH h k w) (j : Nat) (v : Value) (hj : h.cells[j]? = some v) : w.cell? ⟨k, j, none⟩ = some v := by
  have := World.news_of_block hx j v (by simpa using hj)
  have e : (⟨k, 0, none⟩ : Addr).add j = ⟨k, j, none⟩ := by unfold Addr.add; split <;> simp_all
  rw [e] at this
  exact this
theorem BoxH.range (hx : BoxH h k w) : w.rangeAt k 0 h.cells := by
  intro j v hv
  rw [Nat.zero_add]
  exact hx.c j v hv
end
theorem pwithin_any (z a b : Int) (w : World) : Calls Try.prog 72 #[.int .i64 z, .int .i64 a, .int .i64 b] w fun e w' => e = .returned (.bool (decide (a ≤ z ∧ z ≤ b))) ∧ w = w' := by
  by_cases h1 : a ≤ z
  · by_cases h2 : z ≤ b
    · rw [decide_eq_true (And.intro h1 h2)]
      go_enter Try.func72, Try.ntmps72
      go_wp2
      go_ret
      exact ⟨rfl, rfl⟩
    · rw [decide_eq_false (fun h => h2 h.2)]
      go_enter Try.func72, Try.ntmps72
      go_wp2
      go_ret
      exact ⟨rfl, rfl⟩
  · rw [decide_eq_false (fun h => h1 h.1)]
    go_enter Try.func72, Try.ntmps72
    go_wp2
    go_ret
    exact ⟨rfl, rfl⟩

set_option maxRecDepth 100000 in
set_option maxHeartbeats 1600000 in
theorem pcheck_any (h : Hd) (w : World) : Calls Try.prog 50 #[h.val] w fun e w' => e = .returned (.int .i64 (if h.May then 0 else 3)) ∧ Below w.heap.size w w' := by
  rcases h with ⟨kd, ix, ct, bt, op, lp, ln⟩
  have Hb := hide (fun o => (Below.refl w.heap.size w).alloc (Nat.le_refl _) o)
  have f1 := pwithin_any kd 1 5
  have f2 := pwithin_any ct 1 16
  have f3 := pwithin_any ix 0 (ct - 1)
  have f6 := pwithin_any lp 0 65535
  have f7 := pwithin_any ln 0 228
  unfold Hd.val
  simp only
  by_cases h1 : 1 ≤ kd ∧ kd ≤ 5
  · rw [decide_eq_true h1] at f1
    by_cases h2 : 1 ≤ ct ∧ ct ≤ 16
    · rw [decide_eq_true h2] at f2
      have e1 : wrap64 (ct - 1) = ct - 1 := by unfold wrap64; omega
      have e2 : IntKind.i64.wrap (ct - 1) = ct - 1 := IntWalk.i64_in _ (by omega)
      have hp1 : True := trivial
      have hp2 : True := trivial
      by_cases h3 : 0 ≤ ix ∧ ix ≤ ct - 1
      · rw [decide_eq_true h3] at f3
        by_cases h4 : (bt : Int) < 2147483648
        · have n4 : decide ((2147483648 : Int) ≤ (bt : Int)) = false := decide_eq_false (by omega)
          by_cases h5 : (op : Int) < 2147483648
          · have n5 : decide ((2147483648 : Int) ≤ (op : Int)) = false := decide_eq_false (by omega)
            by_cases h6 : 0 ≤ lp ∧ lp ≤ 65535
            · rw [decide_eq_true h6] at f6
              by_cases h7 : 0 ≤ ln ∧ ln ≤ 228
              · rw [decide_eq_true h7] at f7
                have hm : Hd.May ⟨kd, ix, ct, bt, op, lp, ln⟩ := ⟨h1.1, h1.2, h2.1, h2.2, h3.1, Int.lt_of_le_sub_one h3.2, Int.ofNat_lt.1 h4, Int.ofNat_lt.1 h5, h6.1, h6.2, h7.1, h7.2⟩
                rw [if_pos hm]
                clear hm h1 h2 h3 h4 h5 h6 h7
                clear hp1 hp2
                go_enter Try.func50, Try.ntmps50
                go_wp2_with (first | (go_at_call 72; (with_reducible refine (f1 _).mono ?_); rintro e w1 ⟨rfl, rfl⟩; clear f1) | (go_at_call 72; (with_reducible refine (f2 _).mono ?_); rintro e w1 ⟨rfl, rfl⟩; clear f2) | (go_at_call 72; (with_reducible refine (f3 _).mono ?_); rintro e w1 ⟨rfl, rfl⟩; clear f3) | (go_at_call 72; (with_reducible refine (f6 _).mono ?_); rintro e w1 ⟨rfl, rfl⟩; clear f6) | (go_at_call 72; (with_reducible refine (f7 _).mono ?_); rintro e w1 ⟨rfl, rfl⟩; clear f7))
                go_ret
                exact ⟨rfl, Hb.out _⟩
              · rw [decide_eq_false h7] at f7
                rw [if_neg (show ¬ Hd.May ⟨kd, ix, ct, bt, op, lp, ln⟩ from fun h => h7 ⟨h.2.2.2.2.2.2.2.2.2.2.1, h.2.2.2.2.2.2.2.2.2.2.2⟩)]
                clear h1 h2 h3 h4 h5 h6 h7
                go_enter Try.func50, Try.ntmps50
                go_wp2_with (first | (go_at_call 72; (with_reducible refine (f1 _).mono ?_); rintro e w1 ⟨rfl, rfl⟩; clear f1) | (go_at_call 72; (with_reducible refine (f2 _).mono ?_); rintro e w1 ⟨rfl, rfl⟩; clear f2) | (go_at_call 72; (with_reducible refine (f3 _).mono ?_); rintro e w1 ⟨rfl, rfl⟩; clear f3) | (go_at_call 72; (with_reducible refine (f6 _).mono ?_); rintro e w1 ⟨rfl, rfl⟩; clear f6) | (go_at_call 72; (with_reducible refine (f7 _).mono ?_); rintro e w1 ⟨rfl, rfl⟩; clear f7))
                go_ret
                exact ⟨rfl, Hb.out _⟩
            · rw [decide_eq_false h6] at f6
              rw [if_neg (show ¬ Hd.May ⟨kd, ix, ct, bt, op, lp, ln⟩ from fun h => h6 ⟨h.2.2.2.2.2.2.2.2.1, h.2.2.2.2.2.2.2.2.2.1⟩)]
              clear h1 h2 h3 h4 h5 h6
              go_enter Try.func50, Try.ntmps50
              go_wp2_with (first | (go_at_call 72; (with_reducible refine (f1 _).mono ?_); rintro e w1 ⟨rfl, rfl⟩; clear f1) | (go_at_call 72; (with_reducible refine (f2 _).mono ?_); rintro e w1 ⟨rfl, rfl⟩; clear f2) | (go_at_call 72; (with_reducible refine (f3 _).mono ?_); rintro e w1 ⟨rfl, rfl⟩; clear f3) | (go_at_call 72; (with_reducible refine (f6 _).mono ?_); rintro e w1 ⟨rfl, rfl⟩; clear f6))
              go_ret
              exact ⟨rfl, Hb.out _⟩
          · have n5 : decide ((2147483648 : Int) ≤ (op : Int)) = true := decide_eq_true (by omega)
            rw [if_neg (show ¬ Hd.May ⟨kd, ix, ct, bt, op, lp, ln⟩ from fun h => h5 (Int.ofNat_lt.2 h.2.2.2.2.2.2.2.1))]
            clear h1 h2 h3 h4 h5
            go_enter Try.func50, Try.ntmps50
            go_wp2_with (first | (go_at_call 72; (with_reducible refine (f1 _).mono ?_); rintro e w1 ⟨rfl, rfl⟩; clear f1) | (go_at_call 72; (with_reducible refine (f2 _).mono ?_); rintro e w1 ⟨rfl, rfl⟩; clear f2) | (go_at_call 72; (with_reducible refine (f3 _).mono ?_); rintro e w1 ⟨rfl, rfl⟩; clear f3))
            go_ret
            exact ⟨rfl, Hb.out _⟩
        · have n4 : decide ((2147483648 : Int) ≤ (bt : Int)) = true := decide_eq_true (by omega)
          rw [if_neg (show ¬ Hd.May ⟨kd, ix, ct, bt, op, lp, ln⟩ from fun h => h4 (Int.ofNat_lt.2 h.2.2.2.2.2.2.1))]
          clear h1 h2 h3 h4
          go_enter Try.func50, Try.ntmps50
          go_wp2_with (first | (go_at_call 72; (with_reducible refine (f1 _).mono ?_); rintro e w1 ⟨rfl, rfl⟩; clear f1) | (go_at_call 72; (with_reducible refine (f2 _).mono ?_); rintro e w1 ⟨rfl, rfl⟩; clear f2) | (go_at_call 72; (with_reducible refine (f3 _).mono ?_); rintro e w1 ⟨rfl, rfl⟩; clear f3))
          go_ret
          exact ⟨rfl, Hb.out _⟩
      · rw [decide_eq_false h3] at f3
        rw [if_neg (show ¬ Hd.May ⟨kd, ix, ct, bt, op, lp, ln⟩ from fun h => h3 ⟨h.2.2.2.2.1, Int.le_sub_one_of_lt h.2.2.2.2.2.1⟩)]
        clear h1 h2 h3
        go_enter Try.func50, Try.ntmps50
        go_wp2_with (first | (go_at_call 72; (with_reducible refine (f1 _).mono ?_); rintro e w1 ⟨rfl, rfl⟩; clear f1) | (go_at_call 72; (with_reducible refine (f2 _).mono ?_); rintro e w1 ⟨rfl, rfl⟩; clear f2) | (go_at_call 72; (with_reducible refine (f3 _).mono ?_); rintro e w1 ⟨rfl, rfl⟩; clear f3))
        go_ret
        exact ⟨rfl, Hb.out _⟩
    · rw [decide_eq_false h2] at f2
      rw [if_neg (show ¬ Hd.May ⟨kd, ix, ct, bt, op, lp, ln⟩ from fun h => h2 ⟨h.2.2.1, h.2.2.2.1⟩)]
      clear h1 h2
      go_enter Try.func50, Try.ntmps50
      go_wp2_with (first | (go_at_call 72; (with_reducible refine (f1 _).mono ?_); rintro e w1 ⟨rfl, rfl⟩; clear f1) | (go_at_call 72; (with_reducible refine (f2 _).mono ?_); rintro e w1 ⟨rfl, rfl⟩; clear f2))
      go_ret
      exact ⟨rfl, Hb.out _⟩
  · rw [decide_eq_false h1] at f1
    rw [if_neg (show ¬ Hd.May ⟨kd, ix, ct, bt, op, lp, ln⟩ from fun h => h1 ⟨h.1, h.2.1⟩)]
    clear h1
    go_enter Try.func50, Try.ntmps50
    go_wp2_with (first | (go_at_call 72; (with_reducible refine (f1 _).mono ?_); rintro e w1 ⟨rfl, rfl⟩; clear f1))
    go_ret
    exact ⟨rfl, Hb.out _⟩
set_option maxHeartbeats 3200000 in
theorem may15_any (h : Hd) (w : World) : Calls Try.prog 28 #[h.val] w fun e w' => e = .returned (.bool (decide h.May)) ∧ Below w.heap.size w w' := by
  rcases h with ⟨kd, ix, ct, bt, op, lp, ln⟩
  have Hb := hide (fun o => (Below.refl w.heap.size w).alloc (Nat.le_refl _) o)
  unfold Hd.val
  simp only
  by_cases h1 : 1 ≤ kd
  ·
    by_cases h2 : kd ≤ 5
    ·
      by_cases h3 : 1 ≤ ct
      ·
        by_cases h4 : ct ≤ 16
        ·
          by_cases h5 : 0 ≤ ix
          ·
            by_cases h6 : ix < ct
            ·
              by_cases h7 : (bt : Int) < 2147483648
              ·
                by_cases h8 : (op : Int) < 2147483648
                ·
                  by_cases h9 : 0 ≤ lp
                  ·
                    by_cases h10 : lp ≤ 65535
                    ·
                      by_cases h11 : 0 ≤ ln
                      ·
                        by_cases h12 : ln ≤ 228
                        ·
                          rw [decide_eq_true (show Hd.May ⟨kd, ix, ct, bt, op, lp, ln⟩ from ⟨h1, h2, h3, h4, h5, h6, Int.ofNat_lt.1 h7, Int.ofNat_lt.1 h8, h9, h10, h11, h12⟩)]
                          go_enter Try.func28, Try.ntmps28
                          go_wp2
                          go_ret
                          exact ⟨rfl, Hb.out _⟩
                        · rw [decide_eq_false (show ¬ Hd.May ⟨kd, ix, ct, bt, op, lp, ln⟩ from fun h => h12 h.2.2.2.2.2.2.2.2.2.2.2)]
                          go_enter Try.func28, Try.ntmps28
                          go_wp2
                          go_ret
                          exact ⟨rfl, Hb.out _⟩
                      · rw [decide_eq_false (show ¬ Hd.May ⟨kd, ix, ct, bt, op, lp, ln⟩ from fun h => h11 h.2.2.2.2.2.2.2.2.2.2.1)]
                        go_enter Try.func28, Try.ntmps28
                        go_wp2
                        go_ret
                        exact ⟨rfl, Hb.out _⟩
                    · rw [decide_eq_false (show ¬ Hd.May ⟨kd, ix, ct, bt, op, lp, ln⟩ from fun h => h10 h.2.2.2.2.2.2.2.2.2.1)]
                      go_enter Try.func28, Try.ntmps28
                      go_wp2
                      go_ret
                      exact ⟨rfl, Hb.out _⟩
                  · rw [decide_eq_false (show ¬ Hd.May ⟨kd, ix, ct, bt, op, lp, ln⟩ from fun h => h9 h.2.2.2.2.2.2.2.2.1)]
                    go_enter Try.func28, Try.ntmps28
                    go_wp2
                    go_ret
                    exact ⟨rfl, Hb.out _⟩
                · rw [decide_eq_false (show ¬ Hd.May ⟨kd, ix, ct, bt, op, lp, ln⟩ from fun h => h8 (Int.ofNat_lt.2 h.2.2.2.2.2.2.2.1))]
                  go_enter Try.func28, Try.ntmps28
                  go_wp2
                  go_ret
                  exact ⟨rfl, Hb.out _⟩
              · rw [decide_eq_false (show ¬ Hd.May ⟨kd, ix, ct, bt, op, lp, ln⟩ from fun h => h7 (Int.ofNat_lt.2 h.2.2.2.2.2.2.1))]
                go_enter Try.func28, Try.ntmps28
                go_wp2
                go_ret
                exact ⟨rfl, Hb.out _⟩
            · rw [decide_eq_false (show ¬ Hd.May ⟨kd, ix, ct, bt, op, lp, ln⟩ from fun h => h6 h.2.2.2.2.2.1)]
              go_enter Try.func28, Try.ntmps28
              go_wp2
              go_ret
              exact ⟨rfl, Hb.out _⟩
          · rw [decide_eq_false (show ¬ Hd.May ⟨kd, ix, ct, bt, op, lp, ln⟩ from fun h => h5 h.2.2.2.2.1)]
            go_enter Try.func28, Try.ntmps28
            go_wp2
            go_ret
            exact ⟨rfl, Hb.out _⟩
        · rw [decide_eq_false (show ¬ Hd.May ⟨kd, ix, ct, bt, op, lp, ln⟩ from fun h => h4 h.2.2.2.1)]
          go_enter Try.func28, Try.ntmps28
          go_wp2
          go_ret
          exact ⟨rfl, Hb.out _⟩
      · rw [decide_eq_false (show ¬ Hd.May ⟨kd, ix, ct, bt, op, lp, ln⟩ from fun h => h3 h.2.2.1)]
        go_enter Try.func28, Try.ntmps28
        go_wp2
        go_ret
        exact ⟨rfl, Hb.out _⟩
    · rw [decide_eq_false (show ¬ Hd.May ⟨kd, ix, ct, bt, op, lp, ln⟩ from fun h => h2 h.2.1)]
      go_enter Try.func28, Try.ntmps28
      go_wp2
      go_ret
      exact ⟨rfl, Hb.out _⟩
  · rw [decide_eq_false (show ¬ Hd.May ⟨kd, ix, ct, bt, op, lp, ln⟩ from fun h => h1 h.1)]
    go_enter Try.func28, Try.ntmps28
    go_wp2
    go_ret
    exact ⟨rfl, Hb.out _⟩
end Go.Proofs.Ytahipfmokbiklaa
