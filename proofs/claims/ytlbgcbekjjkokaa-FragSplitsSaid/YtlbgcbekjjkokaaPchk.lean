/-
  CONTRACTS of package primary: Check.
-/
import Derived.Test.YtlbgcbekjjkokaaOwn
namespace Go.Proofs.Ytlbgcbekjjkokaa
open Go.RowKit

def Pr.named (p : Pr) : Bool := p.dst.right && (p.src.right && p.rep.right)
def Pr.check (p : Pr) : Int := if p.crc < 0 ∨ 2 < p.crc ∨ p.named = false ∨ 2097152 ≤ p.fl then 2 else if p.placed = false ∨ p.owned = false then 6 else 0
theorem Pr.check2 {p : Pr} (h : p.crc < 0 ∨ 2 < p.crc ∨ p.named = false ∨ 2097152 ≤ p.fl) : p.check = 2 := if_pos h
theorem Pr.check6 {p : Pr} (h : ¬ (p.crc < 0 ∨ 2 < p.crc ∨ p.named = false ∨ 2097152 ≤ p.fl)) (h2 : p.placed = false ∨ p.owned = false) : p.check = 6 := by unfold Pr.check; rw [if_neg h, if_pos h2]
theorem Pr.check0 {p : Pr} (h : ¬ (p.crc < 0 ∨ 2 < p.crc ∨ p.named = false ∨ 2097152 ≤ p.fl)) (h2 : ¬ (p.placed = false ∨ p.owned = false)) : p.check = 0 := by unfold Pr.check; rw [if_neg h, if_neg h2]

set_option maxRecDepth 100000 in
set_option maxHeartbeats 1000000 in
theorem pcheck_any (p : Pr) (w : World) (hf : p.fl < 18446744073709551616) : Calls Try.prog 29 #[p.val] w fun e w' => e = .returned (.int .i64 p.check) ∧ Below w.heap.size w w' := by
  have FN := hide (fun W => named_any p W)
  have FP := hide (fun W => placed_any p W hf)
  have FO := hide (fun W => owned_any p W hf)
  have R0 := hide (range_new w p.cells 28 (0, 0))
  have hlt : w.heap.size < (w.alloc (.cells p.cells.toArray 28)).heap.size := by simp
  have RR := hide (fun W (hb : Below (w.alloc (.cells p.cells.toArray 28)).heap.size (w.alloc (.cells p.cells.toArray 28)) W) => range_below R0.out hb hlt)
  have HB := hide ((Below.refl w.heap.size w).alloc (Nat.le_refl _) (.cells p.cells.toArray 28))
  have K2 := hide (@Pr.check2 p)
  have K6 := hide (@Pr.check6 p)
  have K0 := hide (@Pr.check0 p)
  change Hid (∀ W, Calls Try.prog 43 #[p.val] W fun e w' => e = .returned (.bool p.named) ∧ Below W.heap.size W w') at FN
  clear hf hlt
  generalize p.named = bn at *
  generalize p.placed = bp at *
  generalize p.owned = bo at *
  generalize p.check = z at *
  rcases p with ⟨fl, crc, ⟨d0, d1, d2, d3⟩, ⟨s0, s1, s2, s3⟩, ⟨r0, r1, r2, r3⟩, time, seq, life, off, tot⟩
  simp only [Pr.val, Pr.cells] at *
  by_cases h1 : crc < 0
  · obtain rfl : z = 2 := K2.out (Or.inl h1)
    go_enter Try.func29, Try.ntmps29
    go_wp2
    go_ret
    exact ⟨rfl, HB.out⟩
  by_cases h2 : 2 < crc
  · obtain rfl : z = 2 := K2.out (Or.inr (Or.inl h2))
    go_enter Try.func29, Try.ntmps29
    go_wp2
    go_ret
    exact ⟨rfl, HB.out⟩
  cases bn with
  | false =>
    obtain rfl : z = 2 := K2.out (Or.inr (Or.inr (Or.inl rfl)))
    go_enter Try.func29, Try.ntmps29
    go_wp2_with (with_reducible refine wpl_load_mid rfl 28 (.tmp 1) rfl w.heap.size 0 _ R0.out rfl _ Try.underlying28 rfl 19 info28 (by with_unfolding_all rfl) ?_)
    (with_reducible refine (FN.out _).mono ?_)
    rintro e w1 ⟨rfl, hb⟩
    have HR1 := hide (RR.out w1 hb)
    obtain ⟨hb1, hz1⟩ := below_size _ hb
    have Hb1 := hide hb1
    have c0 : w1.cell? ⟨w.heap.size, 0, none⟩ = some (.int .u64 (fl : Int)) := HR1.out 0 _ rfl
    clear hb hb1 FN
    go_wp2
    go_ret
    exact ⟨rfl, Hb1.out⟩
  | true =>
    by_cases h3 : 2097152 ≤ fl
    · obtain rfl : z = 2 := K2.out (Or.inr (Or.inr (Or.inr h3)))
      have h3' : (2097152 : Int) ≤ (fl : Int) := by omega
      clear h3
      go_enter Try.func29, Try.ntmps29
      go_wp2_with (with_reducible refine wpl_load_mid rfl 28 (.tmp 1) rfl w.heap.size 0 _ R0.out rfl _ Try.underlying28 rfl 19 info28 (by with_unfolding_all rfl) ?_)
      (with_reducible refine (FN.out _).mono ?_)
      rintro e w1 ⟨rfl, hb⟩
      have HR1 := hide (RR.out w1 hb)
      obtain ⟨hb1, hz1⟩ := below_size _ hb
      have Hb1 := hide hb1
      have c0 : w1.cell? ⟨w.heap.size, 0, none⟩ = some (.int .u64 (fl : Int)) := HR1.out 0 _ rfl
      clear hb hb1 FN
      go_wp2
      go_ret
      exact ⟨rfl, Hb1.out⟩
    have h3' : decide ((2097152 : Int) ≤ (fl : Int)) = false := decide_eq_false (by omega)
    have hn : ¬ (crc < 0 ∨ 2 < crc ∨ true = false ∨ 2097152 ≤ fl) := by
      rintro (h | h | h | h)
      · exact h1 h
      · exact h2 h
      · cases h
      · exact h3 h
    clear h3
    cases bp with
    | false =>
      obtain rfl : z = 6 := K6.out hn (Or.inl rfl)
      clear hn
      go_enter Try.func29, Try.ntmps29
      go_wp2_with (with_reducible refine wpl_load_mid rfl 28 (.tmp 1) rfl w.heap.size 0 _ R0.out rfl _ Try.underlying28 rfl 19 info28 (by with_unfolding_all rfl) ?_)
      (with_reducible refine (FN.out _).mono ?_)
      rintro e w1 ⟨rfl, hb⟩
      have HR1 := hide (RR.out w1 hb)
      obtain ⟨hb1, hz1⟩ := below_size _ hb
      have Hb1 := hide hb1
      have c0 : w1.cell? ⟨w.heap.size, 0, none⟩ = some (.int .u64 (fl : Int)) := HR1.out 0 _ rfl
      clear hb hb1 FN
      go_wp2_with (with_reducible refine wpl_load_mid rfl 28 (.tmp 1) rfl w.heap.size 0 _ HR1.out rfl _ Try.underlying28 rfl 19 info28 (by with_unfolding_all rfl) ?_)
      (with_reducible refine (FP.out _).mono ?_)
      rintro e w2 ⟨rfl, hb⟩
      have HR2 := hide (range_below HR1.out hb hz1)
      have Hb2 := hide (Hb1.out.trans (hb.mono (Nat.le_of_lt hz1)))
      have hz2 : w.heap.size < w2.heap.size := Nat.lt_of_lt_of_le hz1 hb.size
      clear hb Hb1 HR1 hz1 c0 FP
      go_wp2
      go_ret
      exact ⟨rfl, Hb2.out⟩
    | true =>
      cases bo with
      | false =>
        obtain rfl : z = 6 := K6.out hn (Or.inr rfl)
        clear hn
        go_enter Try.func29, Try.ntmps29
        go_wp2_with (with_reducible refine wpl_load_mid rfl 28 (.tmp 1) rfl w.heap.size 0 _ R0.out rfl _ Try.underlying28 rfl 19 info28 (by with_unfolding_all rfl) ?_)
        (with_reducible refine (FN.out _).mono ?_)
        rintro e w1 ⟨rfl, hb⟩
        have HR1 := hide (RR.out w1 hb)
        obtain ⟨hb1, hz1⟩ := below_size _ hb
        have Hb1 := hide hb1
        have c0 : w1.cell? ⟨w.heap.size, 0, none⟩ = some (.int .u64 (fl : Int)) := HR1.out 0 _ rfl
        clear hb hb1 FN
        go_wp2_with (with_reducible refine wpl_load_mid rfl 28 (.tmp 1) rfl w.heap.size 0 _ HR1.out rfl _ Try.underlying28 rfl 19 info28 (by with_unfolding_all rfl) ?_)
        (with_reducible refine (FP.out _).mono ?_)
        rintro e w2 ⟨rfl, hb⟩
        have HR2 := hide (range_below HR1.out hb hz1)
        have Hb2 := hide (Hb1.out.trans (hb.mono (Nat.le_of_lt hz1)))
        have hz2 : w.heap.size < w2.heap.size := Nat.lt_of_lt_of_le hz1 hb.size
        clear hb Hb1 HR1 hz1 c0 FP
        go_wp2_with (with_reducible refine wpl_load_mid rfl 28 (.tmp 1) rfl w.heap.size 0 _ HR2.out rfl _ Try.underlying28 rfl 19 info28 (by with_unfolding_all rfl) ?_)
        (with_reducible refine (FO.out _).mono ?_)
        rintro e w3 ⟨rfl, hb⟩
        have HR3 := hide (range_below HR2.out hb hz2)
        have Hb3 := hide (Hb2.out.trans (hb.mono (Nat.le_of_lt hz2)))
        have hz3 : w.heap.size < w3.heap.size := Nat.lt_of_lt_of_le hz2 hb.size
        clear hb Hb2 HR2 hz2 FO
        go_wp2
        go_ret
        exact ⟨rfl, Hb3.out⟩
      | true =>
        obtain rfl : z = 0 := K0.out hn (by rintro (h | h) <;> cases h)
        clear hn
        go_enter Try.func29, Try.ntmps29
        go_wp2_with (with_reducible refine wpl_load_mid rfl 28 (.tmp 1) rfl w.heap.size 0 _ R0.out rfl _ Try.underlying28 rfl 19 info28 (by with_unfolding_all rfl) ?_)
        (with_reducible refine (FN.out _).mono ?_)
        rintro e w1 ⟨rfl, hb⟩
        have HR1 := hide (RR.out w1 hb)
        obtain ⟨hb1, hz1⟩ := below_size _ hb
        have Hb1 := hide hb1
        have c0 : w1.cell? ⟨w.heap.size, 0, none⟩ = some (.int .u64 (fl : Int)) := HR1.out 0 _ rfl
        clear hb hb1 FN
        go_wp2_with (with_reducible refine wpl_load_mid rfl 28 (.tmp 1) rfl w.heap.size 0 _ HR1.out rfl _ Try.underlying28 rfl 19 info28 (by with_unfolding_all rfl) ?_)
        (with_reducible refine (FP.out _).mono ?_)
        rintro e w2 ⟨rfl, hb⟩
        have HR2 := hide (range_below HR1.out hb hz1)
        have Hb2 := hide (Hb1.out.trans (hb.mono (Nat.le_of_lt hz1)))
        have hz2 : w.heap.size < w2.heap.size := Nat.lt_of_lt_of_le hz1 hb.size
        clear hb Hb1 HR1 hz1 c0 FP
        go_wp2_with (with_reducible refine wpl_load_mid rfl 28 (.tmp 1) rfl w.heap.size 0 _ HR2.out rfl _ Try.underlying28 rfl 19 info28 (by with_unfolding_all rfl) ?_)
        (with_reducible refine (FO.out _).mono ?_)
        rintro e w3 ⟨rfl, hb⟩
        have HR3 := hide (range_below HR2.out hb hz2)
        have Hb3 := hide (Hb2.out.trans (hb.mono (Nat.le_of_lt hz2)))
        have hz3 : w.heap.size < w3.heap.size := Nat.lt_of_lt_of_le hz2 hb.size
        clear hb Hb2 HR2 hz2 FO
        go_wp2
        go_ret
        exact ⟨rfl, Hb3.out⟩

end Go.Proofs.Ytlbgcbekjjkokaa
