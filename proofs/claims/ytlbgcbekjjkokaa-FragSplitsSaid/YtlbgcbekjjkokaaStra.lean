/-
  CONTRACTS: frag.strange and the function that it makes; frag.whole's own function.
-/
import Derived.Test.YtlbgcbekjjkokaaSame
import Derived.Test.YtlbgcbekjjkokaaBuck
namespace Go.Proofs.Ytlbgcbekjjkokaa
open Go.RowKit

/-- A struct, the operation guarded, its guard saying yes. -/
theorem wpl_load_want {P : Program} {ops : Array Oper} {rest : List Oper} {op : Oper} {a : Act} {w : World} {Q : Exit → Act → World → Prop} (hw : Region.wanted op (yielded ops a.tmps) = true) (ty : TypeId) (x : Operand) (ho : op.op = .load ty x) (b k : Nat) (cs : List Value) (hc : w.rangeAt b k cs)
    (hx : a.eval x = .pointer (some ⟨b, k, none⟩)) (d : TypeDesc) (hu : P.underlying ty = some d) (hd : d.isRow = true) (n : Nat) (hi : (P.info? ty).map (·.size) = some n) (hn : cs.length = n)
    (h : wpList P ops Q rest (a.put op.dst (.agg cs.toArray)) w) : wpList P ops Q (op :: rest) a w :=
  BigFrame.wpList_want hw fun _ hK => wp_load_mid ty x ho b k hx cs d hc hu hd (by rw [hi, hn]) (hK _ _ h)

theorem strange_any (b : Bn) (w : World) : Calls Try.prog 23 #[b.val] w fun e w' => e = .returned (.func (.func 37) #[] #[.pointer (some ⟨w.heap.size, 0, none⟩)]) ∧ w' = w.alloc (.cells b.cells.toArray 33) := by
  simp only [Bn.val]
  go_enter Try.func23, Try.ntmps23
  go_wp2
  go_ret
  exact ⟨rfl, rfl⟩

def strangeB (f b : Bn) : Bool := !decide (b.p.fl % 2 = 1) || (!b.p.sameB f.p || (decide (b.p.tot - b.p.off < b.pay.data.size) || decide (65536 < b.p.tot)))

set_option maxRecDepth 100000 in
set_option maxHeartbeats 4000000 in
theorem strange1_any (b f : Bn) (q : Nat) (w : World) (hb : b.p.fl < 18446744073709551616) (hf : f.p.fl < 18446744073709551616) (ht : b.p.tot < 18446744073709551616) (hd : b.pay.data.size ≤ 1000000) (ho : b.p.fl % 2 = 1 → b.p.off ≤ b.p.tot)
    (hq : q < w.heap.size) (hc : w.rangeAt q 0 f.cells) : Calls Try.prog 37 #[b.val, .pointer (some ⟨q, 0, none⟩)] w fun e w' => e = .returned (.bool (strangeB f b)) ∧ Below w.heap.size w w' := by
  obtain ⟨z, hz⟩ : ∃ z, z = strangeB f b := ⟨_, rfl⟩
  rw [← hz]
  have Hz := hide hz
  clear hz
  unfold strangeB at Hz
  have FF := hide (fun W => fragment_any b.p W hb)
  have FS := hide (fun W => same_any b.p f.p W hb hf)
  change Hid (∀ W, Calls Try.prog 38 #[b.p.val, f.p.val] W fun e w' => e = .returned (.bool (b.p.sameB f.p)) ∧ Below W.heap.size W w') at FS
  have hlt : w.heap.size < (w.alloc (.cells b.cells.toArray 33)).heap.size := by simp
  have hqlt : q < (w.alloc (.cells b.cells.toArray 33)).heap.size := by simp; omega
  have R0 := hide (range_p (range_new w b.cells 33 (0, 0)))
  have RB := hide (fun W (hb : Below (w.alloc (.cells b.cells.toArray 33)).heap.size (w.alloc (.cells b.cells.toArray 33)) W) => range_below (range_new w b.cells 33 (0, 0)) hb hlt)
  have RP := hide (fun W hb => range_p (RB.out W hb))
  have RF := hide (fun W (hb : Below (w.alloc (.cells b.cells.toArray 33)).heap.size (w.alloc (.cells b.cells.toArray 33)) W) => range_p (range_below (range_alloc hc hq _) hb hqlt))
  have HB := hide ((Below.refl w.heap.size w).alloc (Nat.le_refl _) (.cells b.cells.toArray 33))
  clear hlt hqlt hc
  by_cases hfr : b.p.fl % 2 = 1
  · have FBY := hide (fun W => beyond_any b W (by omega) (ho hfr) ht)
    rw [decide_eq_true hfr] at FF Hz
    clear hb hf ho hd
    generalize b.p.sameB f.p = bs1 at *
    generalize decide (b.p.tot - b.p.off < b.pay.data.size) = by1 at *
    rcases b with ⟨⟨fl, crc, ⟨d0, d1, d2, d3⟩, ⟨s0, s1, s2, s3⟩, ⟨r0, r1, r2, r3⟩, time, seq, life, off, tot⟩, A, n, c, bs, ⟨ty, num, fl2, crc2, data⟩⟩
    simp only [Bn.val, Bn.cells, Pr.val, Pr.cells] at *
    clear hfr
    cases bs1 with
    | false =>
      obtain rfl : z = true := Hz.out
      clear Hz FBY
      go_enter Try.func37, Try.ntmps37
      go_wp2_with (with_reducible refine wpl_load_mid rfl 28 (.tmp 4) rfl w.heap.size 0 _ R0.out rfl _ Try.underlying28 rfl 19 info28 (by with_unfolding_all rfl) ?_)
      (with_reducible refine (FF.out _).mono ?_)
      rintro e w1 ⟨rfl, hb⟩
      have RB1 := hide (RB.out w1 hb)
      have RP1 := hide (RP.out w1 hb)
      have RF1 := hide (RF.out w1 hb)
      obtain ⟨hb1, hz1⟩ := below_size _ hb
      have Hb1 := hide hb1
      have hq1 : q < w1.heap.size := by omega
      clear hb hb1 RB RP RF FF R0
      go_wp2_with (first
        | (with_reducible refine wpl_load_want ?_ 28 (.tmp 9) rfl w.heap.size 0 _ RP1.out rfl _ Try.underlying28 rfl 19 info28 (by with_unfolding_all rfl) ?_)
        | (with_reducible refine wpl_load_want ?_ 28 (.tmp 11) rfl q 0 _ RF1.out rfl _ Try.underlying28 rfl 19 info28 (by with_unfolding_all rfl) ?_))
      (with_reducible refine (FS.out _).mono ?_)
      rintro e w2 ⟨rfl, hb⟩
      have RB2 := hide (range_below RB1.out hb hz1)
      have Hb2 := hide (Hb1.out.trans (hb.mono (Nat.le_of_lt hz1)))
      have hz2 : w.heap.size < w2.heap.size := Nat.lt_of_lt_of_le hz1 hb.size
      clear hb RB1 RP1 RF1 Hb1 FS
      go_wp2
      go_ret
      exact ⟨rfl, Hb2.out⟩
    | true =>
      cases by1 with
      | true =>
        obtain rfl : z = true := Hz.out
        clear Hz
        go_enter Try.func37, Try.ntmps37
        go_wp2_with (with_reducible refine wpl_load_mid rfl 28 (.tmp 4) rfl w.heap.size 0 _ R0.out rfl _ Try.underlying28 rfl 19 info28 (by with_unfolding_all rfl) ?_)
        (with_reducible refine (FF.out _).mono ?_)
        rintro e w1 ⟨rfl, hb⟩
        have RB1 := hide (RB.out w1 hb)
        have RP1 := hide (RP.out w1 hb)
        have RF1 := hide (RF.out w1 hb)
        obtain ⟨hb1, hz1⟩ := below_size _ hb
        have Hb1 := hide hb1
        have hq1 : q < w1.heap.size := by omega
        clear hb hb1 RB RP RF FF R0
        go_wp2_with (first
          | (with_reducible refine wpl_load_want ?_ 28 (.tmp 9) rfl w.heap.size 0 _ RP1.out rfl _ Try.underlying28 rfl 19 info28 (by with_unfolding_all rfl) ?_)
          | (with_reducible refine wpl_load_want ?_ 28 (.tmp 11) rfl q 0 _ RF1.out rfl _ Try.underlying28 rfl 19 info28 (by with_unfolding_all rfl) ?_))
        (with_reducible refine (FS.out _).mono ?_)
        rintro e w2 ⟨rfl, hb⟩
        have RB2 := hide (range_below RB1.out hb hz1)
        have Hb2 := hide (Hb1.out.trans (hb.mono (Nat.le_of_lt hz1)))
        have hz2 : w.heap.size < w2.heap.size := Nat.lt_of_lt_of_le hz1 hb.size
        clear hb RB1 RP1 RF1 Hb1 FS
        go_wp2_with (with_reducible refine wpl_load_want ?_ 33 (.tmp 2) rfl w.heap.size 0 _ RB2.out rfl _ Try.underlying33 rfl 25 info33 (by with_unfolding_all rfl) ?_)
        (with_reducible refine (FBY.out _).mono ?_)
        rintro e w3 ⟨rfl, hb⟩
        have RB3 := hide (range_below RB2.out hb hz2)
        have c18 : w3.cell? ⟨w.heap.size, 18, none⟩ = some (.int .u64 (tot : Int)) := RB3.out 18 _ rfl
        have Hb3 := hide (Hb2.out.trans (hb.mono (Nat.le_of_lt hz2)))
        clear hb RB2 RB3 Hb2 FBY
        go_wp2
        go_ret
        exact ⟨rfl, Hb3.out⟩
      | false =>
        by_cases hb6 : 65536 < tot
        · obtain rfl : z = true := by have := Hz.out; rw [decide_eq_true hb6] at this; exact this
          have hb6' : (65536 : Int) < (tot : Int) := by omega
          clear Hz hb6
          go_enter Try.func37, Try.ntmps37
          go_wp2_with (with_reducible refine wpl_load_mid rfl 28 (.tmp 4) rfl w.heap.size 0 _ R0.out rfl _ Try.underlying28 rfl 19 info28 (by with_unfolding_all rfl) ?_)
          (with_reducible refine (FF.out _).mono ?_)
          rintro e w1 ⟨rfl, hb⟩
          have RB1 := hide (RB.out w1 hb)
          have RP1 := hide (RP.out w1 hb)
          have RF1 := hide (RF.out w1 hb)
          obtain ⟨hb1, hz1⟩ := below_size _ hb
          have Hb1 := hide hb1
          have hq1 : q < w1.heap.size := by omega
          clear hb hb1 RB RP RF FF R0
          go_wp2_with (first
            | (with_reducible refine wpl_load_want ?_ 28 (.tmp 9) rfl w.heap.size 0 _ RP1.out rfl _ Try.underlying28 rfl 19 info28 (by with_unfolding_all rfl) ?_)
            | (with_reducible refine wpl_load_want ?_ 28 (.tmp 11) rfl q 0 _ RF1.out rfl _ Try.underlying28 rfl 19 info28 (by with_unfolding_all rfl) ?_))
          (with_reducible refine (FS.out _).mono ?_)
          rintro e w2 ⟨rfl, hb⟩
          have RB2 := hide (range_below RB1.out hb hz1)
          have Hb2 := hide (Hb1.out.trans (hb.mono (Nat.le_of_lt hz1)))
          have hz2 : w.heap.size < w2.heap.size := Nat.lt_of_lt_of_le hz1 hb.size
          clear hb RB1 RP1 RF1 Hb1 FS
          go_wp2_with (with_reducible refine wpl_load_want ?_ 33 (.tmp 2) rfl w.heap.size 0 _ RB2.out rfl _ Try.underlying33 rfl 25 info33 (by with_unfolding_all rfl) ?_)
          (with_reducible refine (FBY.out _).mono ?_)
          rintro e w3 ⟨rfl, hb⟩
          have RB3 := hide (range_below RB2.out hb hz2)
          have c18 : w3.cell? ⟨w.heap.size, 18, none⟩ = some (.int .u64 (tot : Int)) := RB3.out 18 _ rfl
          have Hb3 := hide (Hb2.out.trans (hb.mono (Nat.le_of_lt hz2)))
          clear hb RB2 RB3 Hb2 FBY
          go_wp2
          go_ret
          exact ⟨rfl, Hb3.out⟩
        · obtain rfl : z = false := by have := Hz.out; rw [decide_eq_false hb6] at this; exact this
          have hb6' : decide ((65536 : Int) < (tot : Int)) = false := decide_eq_false (by omega)
          clear Hz hb6
          go_enter Try.func37, Try.ntmps37
          go_wp2_with (with_reducible refine wpl_load_mid rfl 28 (.tmp 4) rfl w.heap.size 0 _ R0.out rfl _ Try.underlying28 rfl 19 info28 (by with_unfolding_all rfl) ?_)
          (with_reducible refine (FF.out _).mono ?_)
          rintro e w1 ⟨rfl, hb⟩
          have RB1 := hide (RB.out w1 hb)
          have RP1 := hide (RP.out w1 hb)
          have RF1 := hide (RF.out w1 hb)
          obtain ⟨hb1, hz1⟩ := below_size _ hb
          have Hb1 := hide hb1
          have hq1 : q < w1.heap.size := by omega
          clear hb hb1 RB RP RF FF R0
          go_wp2_with (first
            | (with_reducible refine wpl_load_want ?_ 28 (.tmp 9) rfl w.heap.size 0 _ RP1.out rfl _ Try.underlying28 rfl 19 info28 (by with_unfolding_all rfl) ?_)
            | (with_reducible refine wpl_load_want ?_ 28 (.tmp 11) rfl q 0 _ RF1.out rfl _ Try.underlying28 rfl 19 info28 (by with_unfolding_all rfl) ?_))
          (with_reducible refine (FS.out _).mono ?_)
          rintro e w2 ⟨rfl, hb⟩
          have RB2 := hide (range_below RB1.out hb hz1)
          have Hb2 := hide (Hb1.out.trans (hb.mono (Nat.le_of_lt hz1)))
          have hz2 : w.heap.size < w2.heap.size := Nat.lt_of_lt_of_le hz1 hb.size
          clear hb RB1 RP1 RF1 Hb1 FS
          go_wp2_with (with_reducible refine wpl_load_want ?_ 33 (.tmp 2) rfl w.heap.size 0 _ RB2.out rfl _ Try.underlying33 rfl 25 info33 (by with_unfolding_all rfl) ?_)
          (with_reducible refine (FBY.out _).mono ?_)
          rintro e w3 ⟨rfl, hb⟩
          have RB3 := hide (range_below RB2.out hb hz2)
          have c18 : w3.cell? ⟨w.heap.size, 18, none⟩ = some (.int .u64 (tot : Int)) := RB3.out 18 _ rfl
          have Hb3 := hide (Hb2.out.trans (hb.mono (Nat.le_of_lt hz2)))
          clear hb RB2 RB3 Hb2 FBY
          go_wp2
          go_ret
          exact ⟨rfl, Hb3.out⟩
  · rw [decide_eq_false hfr] at FF Hz
    obtain rfl : z = true := Hz.out
    clear hb hf ho hd FS hfr Hz
    rcases b with ⟨⟨fl, crc, ⟨d0, d1, d2, d3⟩, ⟨s0, s1, s2, s3⟩, ⟨r0, r1, r2, r3⟩, time, seq, life, off, tot⟩, A, n, c, bs, ⟨ty, num, fl2, crc2, data⟩⟩
    simp only [Bn.val, Bn.cells, Pr.val, Pr.cells] at *
    go_enter Try.func37, Try.ntmps37
    go_wp2_with (with_reducible refine wpl_load_mid rfl 28 (.tmp 4) rfl w.heap.size 0 _ R0.out rfl _ Try.underlying28 rfl 19 info28 (by with_unfolding_all rfl) ?_)
    (with_reducible refine (FF.out _).mono ?_)
    rintro e w1 ⟨rfl, hb⟩
    have RB1 := hide (RB.out w1 hb)
    have RP1 := hide (RP.out w1 hb)
    have RF1 := hide (RF.out w1 hb)
    obtain ⟨hb1, hz1⟩ := below_size _ hb
    have Hb1 := hide hb1
    have hq1 : q < w1.heap.size := by omega
    clear hb hb1 RB RP RF FF R0
    go_wp2
    go_ret
    exact ⟨rfl, Hb1.out⟩

end Go.Proofs.Ytlbgcbekjjkokaa
