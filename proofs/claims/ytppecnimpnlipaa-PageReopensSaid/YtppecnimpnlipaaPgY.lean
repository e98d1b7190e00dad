/-
  CONTRACT of the reference's Class; the walk of PageGets. (By gen/PgY.gen.py.)
-/
import Derived.Test.YtppecnimpnlipaaPgH
import Derived.Test.YtppecnimpnlipaaPgA
namespace Go.Proofs.Ytppecnimpnlipaa
open Go.RowKit

set_option maxRecDepth 4000 in
set_option maxHeartbeats 2000000 in
theorem class15_any (b : List UInt8) (w : World) (hsm : b.length ≤ 1000000) : Calls Try.prog 30 #[.string (str b)] w fun e w' => e = .returned (.int .i64 (classN b : Nat)) ∧ Below w.heap.size w w' := by
  have FO : Hid (Calls Try.prog 32 #[.int .i64 256] w fun e w' => ∃ A' c', e = .returned (.slice A' 256 c') ∧ w'.ownsRow w.heap.size 5 1 (.slice A' 256 c') 256 (bys (List.replicate 256 255)) ∧ Below w.heap.size w w') := hide (ones2_any 256 w (by omega))
  obtain ⟨r, hrep⟩ : ∃ r : List UInt8, Hid (r = List.replicate 256 255) := ⟨_, hide rfl⟩
  have hrl : Hid (r.length = 256) := hide (by rw [hrep.out, List.length_replicate])
  rw [← hrep.out] at FO
  have hbq := str_beqH b r
  have Fg := hide (fun W => get15_any b W hsm)
  by_cases h0 : b = r
  · have hr : classN b = 0 := by unfold classN; rw [if_pos (h0.trans hrep.out)]
    rw [decide_eq_true h0] at hbq
    rw [hr]
    clear h0 hr hsm Fg hrep
    go_enter Try.func30, Try.ntmps30
    go_wp2_with fail
    (with_reducible refine FO.out.mono ?_)
    rintro e w2 ⟨A2, c2, rfl, ho, hb⟩
    have hs := strU8 c2 (Lies.of_own ho) hrl.out.symm
    have HB := hide hb
    clear ho hb FO
    go_wp2
    go_ret
    exact ⟨rfl, HB.out⟩
  · rw [decide_eq_false h0] at hbq
    have hr : classN b = if rightB b = true then 1 else 2 := by unfold classN; rw [if_neg (by rw [← hrep.out]; exact h0)]
    rw [hr]
    generalize (get15 b).1 = h at *
    generalize (get15 b).2 = d at *
    rcases h with ⟨kd, ix, ct, bt, op, lp, ln⟩
    clear h0 hr hsm hrep
    unfold Hd.val at Fg
    dsimp only at Fg
    cases hrb : rightB b with
    | true =>
      rw [hrb] at Fg
      go_enter Try.func30, Try.ntmps30
      go_wp2_with fail
      (with_reducible refine FO.out.mono ?_)
      rintro e w2 ⟨A2, c2, rfl, ho, hb⟩
      have hs := strU8 c2 (Lies.of_own ho) hrl.out.symm
      have HB := hide hb
      clear ho hb FO hrb
      go_wp2_with fail
      (with_reducible refine (Fg.out _).mono ?_)
      rintro e w3 ⟨rfl, hb⟩
      have hb3 := HB.out.trans (hb.mono HB.out.size)
      have HB3 := hide (hb3.alloc hb3.size (.cells #[.int .i64 kd, .int .i64 ix, .int .i64 ct, .int .u64 (bt : Int), .int .u64 (op : Int), .int .i64 lp, .int .i64 ln] 57))
      clear hb hb3 hs Fg HB
      go_wp2
      go_ret
      exact ⟨rfl, HB3.out⟩
    | false =>
      rw [hrb] at Fg
      go_enter Try.func30, Try.ntmps30
      go_wp2_with fail
      (with_reducible refine FO.out.mono ?_)
      rintro e w2 ⟨A2, c2, rfl, ho, hb⟩
      have hs := strU8 c2 (Lies.of_own ho) hrl.out.symm
      have HB := hide hb
      clear ho hb FO hrb
      go_wp2_with fail
      (with_reducible refine (Fg.out _).mono ?_)
      rintro e w3 ⟨rfl, hb⟩
      have hb3 := HB.out.trans (hb.mono HB.out.size)
      have HB3 := hide (hb3.alloc hb3.size (.cells #[.int .i64 kd, .int .i64 ix, .int .i64 ct, .int .u64 (bt : Int), .int .u64 (op : Int), .int .i64 lp, .int .i64 ln] 57))
      clear hb hb3 hs Fg HB
      go_wp2
      go_ret
      exact ⟨rfl, HB3.out⟩

set_option maxRecDepth 4000 in
set_option maxHeartbeats 4000000 in
theorem pageGets_any (A : Option Addr) (n c : Nat) (b : List UInt8) (w : World) (hl : Lies w w.heap.size A (bys b)) (hn : n = b.length) (hc : n ≤ c) :
    Calls Try.prog 5 #[.slice A n c] w fun e w' => e = .returned (.bool true) ∧ Below w.heap.size w w' := by
  by_cases h4 : 400 < n
  · have h4' : (400 : Int) < (n : Int) := by omega
    clear h4 hn hl hc
    go_enter Try.func5, Try.ntmps5
    go_wp2_with fail
    (with_reducible refine (awake15_any _).mono ?_)
    rintro e w3 ⟨rfl, hb⟩
    have HB3 := hide hb
    clear hb
    go_wp2
    go_ret
    exact ⟨rfl, HB3.out⟩
  · have h4' : ¬ (400 : Int) < (n : Int) := by omega
    have F5 := fun W => class15_any b W (by omega)
    have Fg := fun W (hW : Below w.heap.size w W) => pget_any A n c w.heap.size b W (hl.below hW) hn hc hW.size
    have Fk := fun W (hW : Below w.heap.size w W) => pclass_any A n c w.heap.size b W (hl.below hW) hn hc hW.size
    have Fr := hide (fun W => get15_any b W (by omega))
    have hs := fun W (hW : Below w.heap.size w W) => strU8 c (hl.below hW) hn
    have hsw := hs w (Below.refl _ _)
    rcases (show classN b = 0 ∨ classN b = 2 ∨ classN b = 1 by have := class_le b; omega) with h0 | h0 | h0
    · have hg : getR b = (zeroHd, [], 8) := by unfold getR; rw [h0]; rfl
      rw [hg] at Fg
      rw [h0] at F5 Fk
      have F5 : Hid (∀ W, Calls Try.prog 30 #[.string (str b)] W fun e w' => e = .returned (.int .i64 0) ∧ Below W.heap.size W w') := hide F5
      have Fk : Hid (∀ W, Below w.heap.size w W → Calls Try.prog 29 #[.slice A n c] W fun e w' => e = .returned (.int .i64 0) ∧ Below W.heap.size W w') := hide Fk
      have Fg : Hid (∀ W, Below w.heap.size w W → Calls Try.prog 27 #[.slice A n c] W fun e w' => e = .returned (.tuple #[.agg #[.int .i64 0, .int .i64 0, .int .i64 0, .int .u64 0, .int .u64 0, .int .i64 0, .int .i64 0], .string ⟨#[]⟩, .int .i64 8]) ∧ Below W.heap.size W w') := hide Fg
      clear h0 hg h4 hn hl hc hs Fr
      go_enter Try.func5, Try.ntmps5
      go_wp2_with fail
      (with_reducible refine (F5.out _).mono ?_)
      rintro e w2 ⟨rfl, hb⟩
      have HB2 := hide hb
      clear hb F5 hsw
      go_wp2_with fail
      (with_reducible refine (Fg.out _ HB2.out).mono ?_)
      rintro e w3 ⟨rfl, hb⟩
      have hb3 := HB2.out.trans (hb.mono HB2.out.size)
      have HB4 := hide (hb3.alloc hb3.size (.cells #[.int .i64 0, .int .i64 0, .int .i64 0, .int .u64 0, .int .u64 0, .int .i64 0, .int .i64 0] 57))
      have HX4 : Hid (BoxH zeroHd w3.heap.size (w3.alloc (.cells #[.int .i64 0, .int .i64 0, .int .i64 0, .int .u64 0, .int .u64 0, .int .i64 0, .int .i64 0] 57))) := hide (heap_alloc_new w3 _)
      clear hb hb3 Fg HB2
      go_wp2_with fail
      (with_reducible refine (Fk.out _ HB4.out).mono ?_)
      rintro e w5 ⟨rfl, hb⟩
      have HB5 := hide (HB4.out.trans (hb.mono HB4.out.size))
      have HX5 := hide (HX4.out.below hb HX4.out.lt)
      clear hb HB4 HX4 Fk
      generalize w3.heap.size = hk at *
      go_wp2_with fail
      (with_reducible refine (awake15_any _).mono ?_)
      rintro e w6 ⟨rfl, hb⟩
      have HB6 := hide (HB5.out.trans (hb.mono HB5.out.size))
      have HX6 := HX5.out.below hb HX5.out.lt
      clear hb HB5 HX5
      have q0 : w6.cell? ⟨hk, 0, none⟩ = some (.int .i64 0) := HX6.c 0 _ rfl
      have q1 : w6.cell? ⟨hk, 1, none⟩ = some (.int .i64 0) := HX6.c 1 _ rfl
      have q2 : w6.cell? ⟨hk, 2, none⟩ = some (.int .i64 0) := HX6.c 2 _ rfl
      have q3 : w6.cell? ⟨hk, 3, none⟩ = some (.int .u64 0) := HX6.c 3 _ rfl
      have q4 : w6.cell? ⟨hk, 4, none⟩ = some (.int .u64 0) := HX6.c 4 _ rfl
      have q5 : w6.cell? ⟨hk, 5, none⟩ = some (.int .i64 0) := HX6.c 5 _ rfl
      have q6 : w6.cell? ⟨hk, 6, none⟩ = some (.int .i64 0) := HX6.c 6 _ rfl
      clear HX6
      go_wp2
      go_ret
      exact ⟨rfl, HB6.out⟩
    · have hg : getR b = (zeroHd, [], 6) := by unfold getR; rw [h0]; rfl
      rw [hg] at Fg
      rw [h0] at F5 Fk
      have F5 : Hid (∀ W, Calls Try.prog 30 #[.string (str b)] W fun e w' => e = .returned (.int .i64 2) ∧ Below W.heap.size W w') := hide F5
      have Fk : Hid (∀ W, Below w.heap.size w W → Calls Try.prog 29 #[.slice A n c] W fun e w' => e = .returned (.int .i64 2) ∧ Below W.heap.size W w') := hide Fk
      have Fg : Hid (∀ W, Below w.heap.size w W → Calls Try.prog 27 #[.slice A n c] W fun e w' => e = .returned (.tuple #[.agg #[.int .i64 0, .int .i64 0, .int .i64 0, .int .u64 0, .int .u64 0, .int .i64 0, .int .i64 0], .string ⟨#[]⟩, .int .i64 6]) ∧ Below W.heap.size W w') := hide Fg
      clear h0 hg h4 hn hl hc hs Fr
      go_enter Try.func5, Try.ntmps5
      go_wp2_with fail
      (with_reducible refine (F5.out _).mono ?_)
      rintro e w2 ⟨rfl, hb⟩
      have HB2 := hide hb
      clear hb F5 hsw
      go_wp2_with fail
      (with_reducible refine (Fg.out _ HB2.out).mono ?_)
      rintro e w3 ⟨rfl, hb⟩
      have hb3 := HB2.out.trans (hb.mono HB2.out.size)
      have HB4 := hide (hb3.alloc hb3.size (.cells #[.int .i64 0, .int .i64 0, .int .i64 0, .int .u64 0, .int .u64 0, .int .i64 0, .int .i64 0] 57))
      have HX4 : Hid (BoxH zeroHd w3.heap.size (w3.alloc (.cells #[.int .i64 0, .int .i64 0, .int .i64 0, .int .u64 0, .int .u64 0, .int .i64 0, .int .i64 0] 57))) := hide (heap_alloc_new w3 _)
      clear hb hb3 Fg HB2
      go_wp2_with fail
      (with_reducible refine (Fk.out _ HB4.out).mono ?_)
      rintro e w5 ⟨rfl, hb⟩
      have HB5 := hide (HB4.out.trans (hb.mono HB4.out.size))
      have HX5 := hide (HX4.out.below hb HX4.out.lt)
      clear hb HB4 HX4 Fk
      generalize w3.heap.size = hk at *
      go_wp2_with fail
      (with_reducible refine (awake15_any _).mono ?_)
      rintro e w6 ⟨rfl, hb⟩
      have HB6 := hide (HB5.out.trans (hb.mono HB5.out.size))
      have HX6 := HX5.out.below hb HX5.out.lt
      clear hb HB5 HX5
      have q0 : w6.cell? ⟨hk, 0, none⟩ = some (.int .i64 0) := HX6.c 0 _ rfl
      have q1 : w6.cell? ⟨hk, 1, none⟩ = some (.int .i64 0) := HX6.c 1 _ rfl
      have q2 : w6.cell? ⟨hk, 2, none⟩ = some (.int .i64 0) := HX6.c 2 _ rfl
      have q3 : w6.cell? ⟨hk, 3, none⟩ = some (.int .u64 0) := HX6.c 3 _ rfl
      have q4 : w6.cell? ⟨hk, 4, none⟩ = some (.int .u64 0) := HX6.c 4 _ rfl
      have q5 : w6.cell? ⟨hk, 5, none⟩ = some (.int .i64 0) := HX6.c 5 _ rfl
      have q6 : w6.cell? ⟨hk, 6, none⟩ = some (.int .i64 0) := HX6.c 6 _ rfl
      clear HX6
      go_wp2
      go_ret
      exact ⟨rfl, HB6.out⟩
    · have hg : getR b = (headOf b, dataOf b, 0) := by unfold getR; rw [h0]; rfl
      have hr : get15 b = (headOf b, dataOf b) := by unfold get15; rw [if_pos ((class_one b).1 h0)]
      have hrb := (class_one b).1 h0
      rw [hg] at Fg
      rw [hr, hrb] at Fr
      rw [h0] at F5 Fk
      generalize headOf b = h at *
      generalize dataOf b = d at *
      rcases h with ⟨kd, ix, ct, bt, op, lp, ln⟩
      have F5 : Hid (∀ W, Calls Try.prog 30 #[.string (str b)] W fun e w' => e = .returned (.int .i64 1) ∧ Below W.heap.size W w') := hide F5
      have Fk : Hid (∀ W, Below w.heap.size w W → Calls Try.prog 29 #[.slice A n c] W fun e w' => e = .returned (.int .i64 1) ∧ Below W.heap.size W w') := hide Fk
      have Fg : Hid (∀ W, Below w.heap.size w W → Calls Try.prog 27 #[.slice A n c] W fun e w' => e = .returned (.tuple #[.agg #[.int .i64 kd, .int .i64 ix, .int .i64 ct, .int .u64 (bt : Int), .int .u64 (op : Int), .int .i64 lp, .int .i64 ln], .string (str d), .int .i64 0]) ∧ Below W.heap.size W w') := hide Fg
      have Fr : Hid (∀ W, Calls Try.prog 31 #[.string (str b)] W fun e w' => e = .returned (.tuple #[.agg #[.int .i64 kd, .int .i64 ix, .int .i64 ct, .int .u64 (bt : Int), .int .u64 (op : Int), .int .i64 lp, .int .i64 ln], .string (str d), .bool true]) ∧ Below W.heap.size W w') := hide Fr.out
      have Hs := hide hs
      clear h0 hg hr hrb h4 hn hl hc hs
      go_enter Try.func5, Try.ntmps5
      go_wp2_with fail
      (with_reducible refine (F5.out _).mono ?_)
      rintro e w2 ⟨rfl, hb⟩
      have HB2 := hide hb
      clear hb F5 hsw
      go_wp2_with fail
      (with_reducible refine (Fg.out _ HB2.out).mono ?_)
      rintro e w3 ⟨rfl, hb⟩
      have hb3 := HB2.out.trans (hb.mono HB2.out.size)
      have HB4 := hide (hb3.alloc hb3.size (.cells #[.int .i64 kd, .int .i64 ix, .int .i64 ct, .int .u64 (bt : Int), .int .u64 (op : Int), .int .i64 lp, .int .i64 ln] 57))
      have HX4 : Hid (BoxH ⟨kd, ix, ct, bt, op, lp, ln⟩ w3.heap.size (w3.alloc (.cells #[.int .i64 kd, .int .i64 ix, .int .i64 ct, .int .u64 (bt : Int), .int .u64 (op : Int), .int .i64 lp, .int .i64 ln] 57))) := hide (heap_alloc_new w3 _)
      clear hb hb3 Fg HB2
      go_wp2_with fail
      (with_reducible refine (Fk.out _ HB4.out).mono ?_)
      rintro e w5 ⟨rfl, hb⟩
      have HB5 := hide (HB4.out.trans (hb.mono HB4.out.size))
      have HX5 := hide (HX4.out.below hb HX4.out.lt)
      have hs5 := Hs.out _ HB5.out
      clear hb HB4 HX4 Fk
      generalize w3.heap.size = hk at *
      go_wp2_with fail
      (with_reducible refine (Fr.out _).mono ?_)
      rintro e w6 ⟨rfl, hb⟩
      have hb6 := HB5.out.trans (hb.mono HB5.out.size)
      have hx6 := HX5.out.below hb HX5.out.lt
      have hb7 : Below w6.heap.size w6 (w6.alloc (.cells #[.int .i64 kd, .int .i64 ix, .int .i64 ct, .int .u64 (bt : Int), .int .u64 (op : Int), .int .i64 lp, .int .i64 ln] 57)) := (Below.refl _ _).alloc (Nat.le_refl _) _
      have HB7 := hide (hb6.trans (hb7.mono hb6.size))
      have HX7 := hide (hx6.below hb7 hx6.lt)
      have HY7 : Hid (BoxH ⟨kd, ix, ct, bt, op, lp, ln⟩ w6.heap.size (w6.alloc (.cells #[.int .i64 kd, .int .i64 ix, .int .i64 ct, .int .u64 (bt : Int), .int .u64 (op : Int), .int .i64 lp, .int .i64 ln] 57))) := hide (heap_alloc_new w6 _)
      clear hb hb6 hx6 hb7 hs5 HB5 HX5 Fr Hs
      go_wp2_with fail
      (with_reducible refine (awake15_any _).mono ?_)
      rintro e w8 ⟨rfl, hb⟩
      have HB8 := hide (HB7.out.trans (hb.mono HB7.out.size))
      have HX8 := HX7.out.below hb HX7.out.lt
      have HY8 := HY7.out.below hb HY7.out.lt
      clear hb HB7 HX7 HY7
      generalize w6.heap.size = hj at *
      have q0 : w8.cell? ⟨hk, 0, none⟩ = some (.int .i64 kd) := HX8.c 0 _ rfl
      have p0 : w8.cell? ⟨hj, 0, none⟩ = some (.int .i64 kd) := HY8.c 0 _ rfl
      have q1 : w8.cell? ⟨hk, 1, none⟩ = some (.int .i64 ix) := HX8.c 1 _ rfl
      have p1 : w8.cell? ⟨hj, 1, none⟩ = some (.int .i64 ix) := HY8.c 1 _ rfl
      have q2 : w8.cell? ⟨hk, 2, none⟩ = some (.int .i64 ct) := HX8.c 2 _ rfl
      have p2 : w8.cell? ⟨hj, 2, none⟩ = some (.int .i64 ct) := HY8.c 2 _ rfl
      have q3 : w8.cell? ⟨hk, 3, none⟩ = some (.int .u64 (bt : Int)) := HX8.c 3 _ rfl
      have p3 : w8.cell? ⟨hj, 3, none⟩ = some (.int .u64 (bt : Int)) := HY8.c 3 _ rfl
      have q4 : w8.cell? ⟨hk, 4, none⟩ = some (.int .u64 (op : Int)) := HX8.c 4 _ rfl
      have p4 : w8.cell? ⟨hj, 4, none⟩ = some (.int .u64 (op : Int)) := HY8.c 4 _ rfl
      have q5 : w8.cell? ⟨hk, 5, none⟩ = some (.int .i64 lp) := HX8.c 5 _ rfl
      have p5 : w8.cell? ⟨hj, 5, none⟩ = some (.int .i64 lp) := HY8.c 5 _ rfl
      have q6 : w8.cell? ⟨hk, 6, none⟩ = some (.int .i64 ln) := HX8.c 6 _ rfl
      have p6 : w8.cell? ⟨hj, 6, none⟩ = some (.int .i64 ln) := HY8.c 6 _ rfl
      clear HX8 HY8
      go_wp2
      go_ret
      exact ⟨rfl, HB8.out⟩
end Go.Proofs.Ytppecnimpnlipaa
