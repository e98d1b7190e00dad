/-
  THE REFERENCE's Check of first blocks (wagtailref10).
-/
import Derived.Test.YtlbgcbekjjkokaaPchk
import Derived.Test.YtlbgcbekjjkokaaBchk
import Derived.Test.YtlbgcbekjjkokaaRf7
namespace Go.Proofs.Ytlbgcbekjjkokaa
open Go.RowKit

theorem Nm.eqB_none {x : Nm} (hr : x.right = true) : x.eqB Nm.none = true ↔ x.sch = 1 ∧ x.name.size = 0 := by
  rw [Nm.eqB_iff]
  rcases x with ⟨a, b, c, d⟩
  unfold Nm.none
  simp only [Nm.mk.injEq]
  constructor
  · rintro ⟨h1, h2, _, _⟩
    exact ⟨h1, by rw [h2]; rfl⟩
  · rintro ⟨h1, h2⟩
    have hb : b = ⟨#[]⟩ := by
      apply ByteArray.ext
      have h2' : b.data.size = 0 := h2
      exact Array.eq_empty_of_size_eq_zero h2'
    unfold Nm.right at hr
    rw [h1, decide_eq_false (show ¬ (1 : Int) = 2 by omega)] at hr
    simp only [Bool.false_and, Bool.false_or, Bool.and_eq_true, decide_eq_true_eq] at hr
    exact ⟨h1, hb, hr.1.2.1, hr.1.2.2⟩

def Pr.formBad (p : Pr) : Prop := (p.fl % 2 = 1 ∧ (p.fl / 4 % 2 = 1 ∨ p.tot ≤ p.off)) ∨ (p.fl % 2 = 0 ∧ (0 < p.off ∨ 0 < p.tot)) ∨ (p.src.sch = 1 ∧ p.src.name.size = 0 ∧ (p.fl / 4 % 2 = 0 ∨ p.fl % 2 = 1 ∨ p.fl / 16384 % 32 ≠ 0))
theorem Pr.formBad_iff {p : Pr} (hr : p.src.right = true) : (p.placed = false ∨ p.owned = false) ↔ p.formBad := by
  have e := Nm.eqB_none hr
  unfold Pr.placed Pr.owned Pr.formBad
  by_cases h1 : p.fl % 2 = 1
  · rw [if_pos h1]
    by_cases h2 : p.src.sch = 1 ∧ p.src.name.size = 0
    · rw [if_pos (e.2 h2), decide_eq_false_iff_not, decide_eq_false_iff_not]
      omega
    · rw [if_neg (fun h => h2 (e.1 h)), decide_eq_false_iff_not]
      constructor
      · rintro (h | h)
        · omega
        · cases h
      · intro h; left; omega
  · rw [if_neg h1]
    by_cases h2 : p.src.sch = 1 ∧ p.src.name.size = 0
    · rw [if_pos (e.2 h2), decide_eq_false_iff_not, decide_eq_false_iff_not]
      omega
    · rw [if_neg (fun h => h2 (e.1 h)), decide_eq_false_iff_not]
      constructor
      · rintro (h | h)
        · omega
        · cases h
      · intro h; left; omega
theorem Pr.check6' {p : Pr} (h : ¬ (p.crc < 0 ∨ 2 < p.crc ∨ p.named = false ∨ 2097152 ≤ p.fl)) (h2 : p.formBad) : p.check = 6 := by
  refine Pr.check6 h ((Pr.formBad_iff ?_).2 h2)
  cases hb : p.src.right with
  | true => rfl
  | false => exact absurd (Or.inr (Or.inr (Or.inl (by unfold Pr.named; rw [hb]; simp)))) h
theorem Pr.check0' {p : Pr} (h : ¬ (p.crc < 0 ∨ 2 < p.crc ∨ p.named = false ∨ 2097152 ≤ p.fl)) (h2 : ¬ p.formBad) : p.check = 0 := by
  refine Pr.check0 h (fun h3 => h2 ((Pr.formBad_iff ?_).1 h3))
  cases hb : p.src.right with
  | true => rfl
  | false => exact absurd (Or.inr (Or.inr (Or.inl (by unfold Pr.named; rw [hb]; simp)))) h

set_option maxRecDepth 100000 in
set_option maxHeartbeats 4000000 in
theorem ref10_any (p : Pr) (w : World) (hf : p.fl < 18446744073709551616) (hd : p.dst.name.size ≤ 1000000000000) (hs : p.src.name.size ≤ 1000000000000) (hr : p.rep.name.size ≤ 1000000000000) :
    Calls Try.prog 20 #[p.val] w fun e w' => e = .returned (.int .i64 p.check) ∧ Below w.heap.size w w' := by
  have F1 := hide (fun W => ref7_any p.dst W hd)
  have F2 := hide (fun W => ref7_any p.src W hs)
  have F3 := hide (fun W => ref7_any p.rep W hr)
  have B1 : Hid (∀ W, Calls Try.prog 35 #[.int .u64 (p.fl : Int), .int .u64 1] W fun e w' => e = .returned (.bool (decide (p.fl % 2 = 1))) ∧ w' = W) := hide (fun W => by
    have := bit10_any p.fl 1 (Or.inl rfl) hf W
    rw [Nat.div_one] at this
    exact this)
  have B2 : Hid (∀ W, Calls Try.prog 35 #[.int .u64 (p.fl : Int), .int .u64 4] W fun e w' => e = .returned (.bool (decide (p.fl / 4 % 2 = 1))) ∧ w' = W) := hide (fun W => bit10_any p.fl 4 (Or.inr rfl) hf W)
  have R0 := hide (range_new w p.cells 28 (0, 0))
  have hlt : w.heap.size < (w.alloc (.cells p.cells.toArray 28)).heap.size := by simp
  have RR := hide (fun W (hb : Below (w.alloc (.cells p.cells.toArray 28)).heap.size (w.alloc (.cells p.cells.toArray 28)) W) => range_below R0.out hb hlt)
  have HB := hide ((Below.refl w.heap.size w).alloc (Nat.le_refl _) (.cells p.cells.toArray 28))
  have K2 := hide (@Pr.check2 p)
  have K6 := hide (@Pr.check6' p)
  have K0 := hide (@Pr.check0' p)
  have HM := hide (show (IntKind.u64.wrap ((p.fl : Int) / 16384)).tmod 32 = ((p.fl / 16384 % 32 : Nat) : Int) by
    have e : IntKind.u64.wrap ((p.fl : Int) / 16384) = ((p.fl / 16384 : Nat) : Int) := by rw [IntKind.wrap_u64]; omega
    rw [e, Int.tmod_eq_emod_of_nonneg (by omega)]; rfl)
  have hnm : p.named = (p.dst.right && (p.src.right && p.rep.right)) := rfl
  rw [hnm] at K2 K6 K0
  unfold Pr.formBad at K6 K0
  clear hf hlt hd hs hr hnm R0
  generalize p.check = z at *
  rcases p with ⟨fl, crc, ⟨d0, d1, d2, d3⟩, ⟨s0, s1, s2, s3⟩, ⟨r0, r1, r2, r3⟩, time, seq, life, off, tot⟩
  simp only [Pr.val, Pr.cells, Nm.val, Nm.cells] at *
  generalize Nm.right ⟨d0, d1, d2, d3⟩ = bd at *
  generalize Nm.right ⟨s0, s1, s2, s3⟩ = bs at *
  generalize Nm.right ⟨r0, r1, r2, r3⟩ = br at *
  by_cases h1 : crc < 0
  · obtain rfl : z = 2 := K2.out (Or.inl h1)
    go_enter Try.func20, Try.ntmps20
    go_wp2
    go_ret
    exact ⟨rfl, HB.out⟩
  by_cases h2 : 2 < crc
  · obtain rfl : z = 2 := K2.out (Or.inr (Or.inl h2))
    go_enter Try.func20, Try.ntmps20
    go_wp2
    go_ret
    exact ⟨rfl, HB.out⟩
  cases bd with
  | false =>
    obtain rfl : z = 2 := K2.out (Or.inr (Or.inr (Or.inl rfl)))
    go_enter Try.func20, Try.ntmps20
    go_wp2_with fail
    (with_reducible refine (F1.out _).mono ?_)
    rintro e w1 ⟨rfl, hb⟩
    have HR1 := hide (RR.out w1 hb)
    obtain ⟨hb1, hz1⟩ := below_size _ hb
    have Hb1 := hide hb1
    have c6 : w1.cell? ⟨w.heap.size, 6, none⟩ = some (.int .i64 s0) := HR1.out 6 _ rfl
    have c7 : w1.cell? ⟨w.heap.size, 7, none⟩ = some (.string s1) := HR1.out 7 _ rfl
    have c8 : w1.cell? ⟨w.heap.size, 8, none⟩ = some (.int .u64 (s2 : Int)) := HR1.out 8 _ rfl
    have c9 : w1.cell? ⟨w.heap.size, 9, none⟩ = some (.int .u64 (s3 : Int)) := HR1.out 9 _ rfl
    clear hb hb1 F1
    go_wp2
    go_ret
    exact ⟨rfl, Hb1.out⟩
  | true =>
    cases bs with
    | false =>
      obtain rfl : z = 2 := K2.out (Or.inr (Or.inr (Or.inl rfl)))
      go_enter Try.func20, Try.ntmps20
      go_wp2_with fail
      (with_reducible refine (F1.out _).mono ?_)
      rintro e w1 ⟨rfl, hb⟩
      have HR1 := hide (RR.out w1 hb)
      obtain ⟨hb1, hz1⟩ := below_size _ hb
      have Hb1 := hide hb1
      have c6 : w1.cell? ⟨w.heap.size, 6, none⟩ = some (.int .i64 s0) := HR1.out 6 _ rfl
      have c7 : w1.cell? ⟨w.heap.size, 7, none⟩ = some (.string s1) := HR1.out 7 _ rfl
      have c8 : w1.cell? ⟨w.heap.size, 8, none⟩ = some (.int .u64 (s2 : Int)) := HR1.out 8 _ rfl
      have c9 : w1.cell? ⟨w.heap.size, 9, none⟩ = some (.int .u64 (s3 : Int)) := HR1.out 9 _ rfl
      clear hb hb1 F1
      go_wp2_with fail
      (with_reducible refine (F2.out _).mono ?_)
      rintro e w2 ⟨rfl, hb⟩
      have HR2 := hide (range_below HR1.out hb hz1)
      have Hb2 := hide (Hb1.out.trans (hb.mono (Nat.le_of_lt hz1)))
      have hz2 : w.heap.size < w2.heap.size := Nat.lt_of_lt_of_le hz1 hb.size
      have c10 : w2.cell? ⟨w.heap.size, 10, none⟩ = some (.int .i64 r0) := HR2.out 10 _ rfl
      have c11 : w2.cell? ⟨w.heap.size, 11, none⟩ = some (.string r1) := HR2.out 11 _ rfl
      have c12 : w2.cell? ⟨w.heap.size, 12, none⟩ = some (.int .u64 (r2 : Int)) := HR2.out 12 _ rfl
      have c13 : w2.cell? ⟨w.heap.size, 13, none⟩ = some (.int .u64 (r3 : Int)) := HR2.out 13 _ rfl
      clear hb Hb1 HR1 hz1 c6 c7 c8 c9 F2
      go_wp2
      go_ret
      exact ⟨rfl, Hb2.out⟩
    | true =>
      cases br with
      | false =>
        obtain rfl : z = 2 := K2.out (Or.inr (Or.inr (Or.inl rfl)))
        go_enter Try.func20, Try.ntmps20
        go_wp2_with fail
        (with_reducible refine (F1.out _).mono ?_)
        rintro e w1 ⟨rfl, hb⟩
        have HR1 := hide (RR.out w1 hb)
        obtain ⟨hb1, hz1⟩ := below_size _ hb
        have Hb1 := hide hb1
        have c6 : w1.cell? ⟨w.heap.size, 6, none⟩ = some (.int .i64 s0) := HR1.out 6 _ rfl
        have c7 : w1.cell? ⟨w.heap.size, 7, none⟩ = some (.string s1) := HR1.out 7 _ rfl
        have c8 : w1.cell? ⟨w.heap.size, 8, none⟩ = some (.int .u64 (s2 : Int)) := HR1.out 8 _ rfl
        have c9 : w1.cell? ⟨w.heap.size, 9, none⟩ = some (.int .u64 (s3 : Int)) := HR1.out 9 _ rfl
        clear hb hb1 F1
        go_wp2_with fail
        (with_reducible refine (F2.out _).mono ?_)
        rintro e w2 ⟨rfl, hb⟩
        have HR2 := hide (range_below HR1.out hb hz1)
        have Hb2 := hide (Hb1.out.trans (hb.mono (Nat.le_of_lt hz1)))
        have hz2 : w.heap.size < w2.heap.size := Nat.lt_of_lt_of_le hz1 hb.size
        have c10 : w2.cell? ⟨w.heap.size, 10, none⟩ = some (.int .i64 r0) := HR2.out 10 _ rfl
        have c11 : w2.cell? ⟨w.heap.size, 11, none⟩ = some (.string r1) := HR2.out 11 _ rfl
        have c12 : w2.cell? ⟨w.heap.size, 12, none⟩ = some (.int .u64 (r2 : Int)) := HR2.out 12 _ rfl
        have c13 : w2.cell? ⟨w.heap.size, 13, none⟩ = some (.int .u64 (r3 : Int)) := HR2.out 13 _ rfl
        clear hb Hb1 HR1 hz1 c6 c7 c8 c9 F2
        go_wp2_with fail
        (with_reducible refine (F3.out _).mono ?_)
        rintro e w3 ⟨rfl, hb⟩
        have HR3 := hide (range_below HR2.out hb hz2)
        have Hb3 := hide (Hb2.out.trans (hb.mono (Nat.le_of_lt hz2)))
        have hz3 : w.heap.size < w3.heap.size := Nat.lt_of_lt_of_le hz2 hb.size
        have c0 : w3.cell? ⟨w.heap.size, 0, none⟩ = some (.int .u64 (fl : Int)) := HR3.out 0 _ rfl
        clear hb Hb2 HR2 hz2 c10 c11 c12 c13 F3
        go_wp2
        go_ret
        exact ⟨rfl, Hb3.out⟩
      | true =>
        by_cases h3 : 2097152 ≤ fl
        · obtain rfl : z = 2 := K2.out (Or.inr (Or.inr (Or.inr h3)))
          have h3' : (2097152 : Int) ≤ (fl : Int) := by omega
          clear h3
          go_enter Try.func20, Try.ntmps20
          go_wp2_with fail
          (with_reducible refine (F1.out _).mono ?_)
          rintro e w1 ⟨rfl, hb⟩
          have HR1 := hide (RR.out w1 hb)
          obtain ⟨hb1, hz1⟩ := below_size _ hb
          have Hb1 := hide hb1
          have c6 : w1.cell? ⟨w.heap.size, 6, none⟩ = some (.int .i64 s0) := HR1.out 6 _ rfl
          have c7 : w1.cell? ⟨w.heap.size, 7, none⟩ = some (.string s1) := HR1.out 7 _ rfl
          have c8 : w1.cell? ⟨w.heap.size, 8, none⟩ = some (.int .u64 (s2 : Int)) := HR1.out 8 _ rfl
          have c9 : w1.cell? ⟨w.heap.size, 9, none⟩ = some (.int .u64 (s3 : Int)) := HR1.out 9 _ rfl
          clear hb hb1 F1
          go_wp2_with fail
          (with_reducible refine (F2.out _).mono ?_)
          rintro e w2 ⟨rfl, hb⟩
          have HR2 := hide (range_below HR1.out hb hz1)
          have Hb2 := hide (Hb1.out.trans (hb.mono (Nat.le_of_lt hz1)))
          have hz2 : w.heap.size < w2.heap.size := Nat.lt_of_lt_of_le hz1 hb.size
          have c10 : w2.cell? ⟨w.heap.size, 10, none⟩ = some (.int .i64 r0) := HR2.out 10 _ rfl
          have c11 : w2.cell? ⟨w.heap.size, 11, none⟩ = some (.string r1) := HR2.out 11 _ rfl
          have c12 : w2.cell? ⟨w.heap.size, 12, none⟩ = some (.int .u64 (r2 : Int)) := HR2.out 12 _ rfl
          have c13 : w2.cell? ⟨w.heap.size, 13, none⟩ = some (.int .u64 (r3 : Int)) := HR2.out 13 _ rfl
          clear hb Hb1 HR1 hz1 c6 c7 c8 c9 F2
          go_wp2_with fail
          (with_reducible refine (F3.out _).mono ?_)
          rintro e w3 ⟨rfl, hb⟩
          have HR3 := hide (range_below HR2.out hb hz2)
          have Hb3 := hide (Hb2.out.trans (hb.mono (Nat.le_of_lt hz2)))
          have hz3 : w.heap.size < w3.heap.size := Nat.lt_of_lt_of_le hz2 hb.size
          have c0 : w3.cell? ⟨w.heap.size, 0, none⟩ = some (.int .u64 (fl : Int)) := HR3.out 0 _ rfl
          clear hb Hb2 HR2 hz2 c10 c11 c12 c13 F3
          go_wp2
          go_ret
          exact ⟨rfl, Hb3.out⟩
        have h3' : decide ((2097152 : Int) ≤ (fl : Int)) = false := decide_eq_false (by omega)
        have hn : ¬ (crc < 0 ∨ 2 < crc ∨ (true && (true && true)) = false ∨ 2097152 ≤ fl) := by
          rintro (h | h | h | h)
          · exact h1 h
          · exact h2 h
          · cases h
          · exact h3 h
        have K6 := hide (K6.out hn)
        have K0 := hide (K0.out hn)
        rename_i K6' K0'
        clear h3 hn K2 K6' K0'
        go_enter Try.func20, Try.ntmps20
        go_wp2_with fail
        (with_reducible refine (F1.out _).mono ?_)
        rintro e w1 ⟨rfl, hb⟩
        have HR1 := hide (RR.out w1 hb)
        obtain ⟨hb1, hz1⟩ := below_size _ hb
        have Hb1 := hide hb1
        have c6 : w1.cell? ⟨w.heap.size, 6, none⟩ = some (.int .i64 s0) := HR1.out 6 _ rfl
        have c7 : w1.cell? ⟨w.heap.size, 7, none⟩ = some (.string s1) := HR1.out 7 _ rfl
        have c8 : w1.cell? ⟨w.heap.size, 8, none⟩ = some (.int .u64 (s2 : Int)) := HR1.out 8 _ rfl
        have c9 : w1.cell? ⟨w.heap.size, 9, none⟩ = some (.int .u64 (s3 : Int)) := HR1.out 9 _ rfl
        clear hb hb1 F1
        go_wp2_with fail
        (with_reducible refine (F2.out _).mono ?_)
        rintro e w2 ⟨rfl, hb⟩
        have HR2 := hide (range_below HR1.out hb hz1)
        have Hb2 := hide (Hb1.out.trans (hb.mono (Nat.le_of_lt hz1)))
        have hz2 : w.heap.size < w2.heap.size := Nat.lt_of_lt_of_le hz1 hb.size
        have c10 : w2.cell? ⟨w.heap.size, 10, none⟩ = some (.int .i64 r0) := HR2.out 10 _ rfl
        have c11 : w2.cell? ⟨w.heap.size, 11, none⟩ = some (.string r1) := HR2.out 11 _ rfl
        have c12 : w2.cell? ⟨w.heap.size, 12, none⟩ = some (.int .u64 (r2 : Int)) := HR2.out 12 _ rfl
        have c13 : w2.cell? ⟨w.heap.size, 13, none⟩ = some (.int .u64 (r3 : Int)) := HR2.out 13 _ rfl
        clear hb Hb1 HR1 hz1 c6 c7 c8 c9 F2
        go_wp2_with fail
        (with_reducible refine (F3.out _).mono ?_)
        rintro e w3 ⟨rfl, hb⟩
        have HR3 := hide (range_below HR2.out hb hz2)
        have Hb3 := hide (Hb2.out.trans (hb.mono (Nat.le_of_lt hz2)))
        have hz3 : w.heap.size < w3.heap.size := Nat.lt_of_lt_of_le hz2 hb.size
        have c0 : w3.cell? ⟨w.heap.size, 0, none⟩ = some (.int .u64 (fl : Int)) := HR3.out 0 _ rfl
        clear hb Hb2 HR2 hz2 c10 c11 c12 c13 F3
        go_wp2_with fail
        (with_reducible refine (B1.out _).mono ?_)
        rintro e w9 ⟨rfl, hq⟩
        have hq := hq.symm
        subst hq
        clear B1
        go_wp2_with fail
        (with_reducible refine (B2.out _).mono ?_)
        rintro e w9 ⟨rfl, hq⟩
        have hq := hq.symm
        subst hq
        clear B2
        have c0 : w3.cell? ⟨w.heap.size, 0, none⟩ = some (.int .u64 (fl : Int)) := HR3.out 0 _ rfl
        have c6 : w3.cell? ⟨w.heap.size, 6, none⟩ = some (.int .i64 s0) := HR3.out 6 _ rfl
        have c7 : w3.cell? ⟨w.heap.size, 7, none⟩ = some (.string s1) := HR3.out 7 _ rfl
        have c17 : w3.cell? ⟨w.heap.size, 17, none⟩ = some (.int .u64 (off : Int)) := HR3.out 17 _ rfl
        have c18 : w3.cell? ⟨w.heap.size, 18, none⟩ = some (.int .u64 (tot : Int)) := HR3.out 18 _ rfl
        obtain ⟨m, hm⟩ : ∃ m, m = fl / 16384 % 32 := ⟨_, rfl⟩
        have hm' : (IntKind.u64.wrap ((fl : Int) / 16384)).tmod 32 = (m : Int) := by rw [hm]; exact HM.out
        obtain ⟨x, hx⟩ : ∃ x, x = fl % 2 := ⟨_, rfl⟩
        obtain ⟨y, hy⟩ : ∃ y, y = fl / 4 % 2 := ⟨_, rfl⟩
        have hx2 : x < 2 := by omega
        have hy2 : y < 2 := by omega
        rw [← hm, ← hx, ← hy] at K6 K0
        rw [← hx, ← hy]
        have hsz : s1.size = 0 ↔ s1.toList.isEmpty = true := by
          rw [ByteArray.toList_eq, List.isEmpty_iff, ← List.length_eq_zero_iff, Array.length_toList]; exact Iff.rfl
        clear hm hx hy
        by_cases hp : x = 1
        · skip
          by_cases hw : y = 1
          · skip
            obtain rfl : z = 6 := K6.out (by omega)
            clear K6 K0 hsz
            go_wp2
            go_ret
            exact ⟨rfl, Hb3.out⟩
          · skip
            have hy0 : y = 0 := by omega
            subst hy0
            by_cases ho : tot ≤ off
            · skip
              have ho' : (tot : Int) ≤ (off : Int) := by omega
              obtain rfl : z = 6 := K6.out (by omega)
              clear K6 K0 hsz
              go_wp2
              go_ret
              exact ⟨rfl, Hb3.out⟩
            · skip
              have ho' : ¬ (tot : Int) ≤ (off : Int) := by omega
              by_cases hs1 : s0 = 1
              · skip
                by_cases he : s1.size = 0
                · skip
                  have hem := hsz.1 he
                  obtain rfl : z = 6 := K6.out (by omega)
                  clear K6 K0 hsz
                  go_wp2
                  go_ret
                  exact ⟨rfl, Hb3.out⟩
                · skip
                  have hem : s1.toList.isEmpty = false := by cases hb : s1.toList.isEmpty with | true => exact absurd (hsz.2 hb) he | false => rfl
                  obtain rfl : z = 0 := K0.out (by omega)
                  clear K6 K0 hsz
                  go_wp2
                  go_ret
                  exact ⟨rfl, Hb3.out⟩
              · skip
                obtain rfl : z = 0 := K0.out (by omega)
                clear K6 K0 hsz
                go_wp2
                go_ret
                exact ⟨rfl, Hb3.out⟩
        · skip
          have hx0 : x = 0 := by omega
          subst hx0
          by_cases ho : 0 < off
          · skip
            have ho' : (0 : Int) < (off : Int) := by omega
            obtain rfl : z = 6 := K6.out (by omega)
            clear K6 K0 hsz
            go_wp2
            go_ret
            exact ⟨rfl, Hb3.out⟩
          · skip
            have ho' : ¬ (0 : Int) < (off : Int) := by omega
            by_cases ht : 0 < tot
            · skip
              have ht' : (0 : Int) < (tot : Int) := by omega
              obtain rfl : z = 6 := K6.out (by omega)
              clear K6 K0 hsz
              go_wp2
              go_ret
              exact ⟨rfl, Hb3.out⟩
            · skip
              have ht' : ¬ (0 : Int) < (tot : Int) := by omega
              by_cases hs1 : s0 = 1
              · skip
                by_cases he : s1.size = 0
                · skip
                  have hem := hsz.1 he
                  by_cases hw : y = 1
                  · skip
                    by_cases hm0 : m = 0
                    · skip
                      have hm1 : (m : Int) = 0 := by omega
                      obtain rfl : z = 0 := K0.out (by omega)
                      clear K6 K0 hsz
                      go_wp2
                      go_ret
                      exact ⟨rfl, Hb3.out⟩
                    · skip
                      have hm1 : ¬ (m : Int) = 0 := by omega
                      obtain rfl : z = 6 := K6.out (by omega)
                      clear K6 K0 hsz
                      go_wp2
                      go_ret
                      exact ⟨rfl, Hb3.out⟩
                  · skip
                    have hy0 : y = 0 := by omega
                    subst hy0
                    obtain rfl : z = 6 := K6.out (by omega)
                    clear K6 K0 hsz
                    go_wp2
                    go_ret
                    exact ⟨rfl, Hb3.out⟩
                · skip
                  have hem : s1.toList.isEmpty = false := by cases hb : s1.toList.isEmpty with | true => exact absurd (hsz.2 hb) he | false => rfl
                  obtain rfl : z = 0 := K0.out (by omega)
                  clear K6 K0 hsz
                  go_wp2
                  go_ret
                  exact ⟨rfl, Hb3.out⟩
              · skip
                obtain rfl : z = 0 := K0.out (by omega)
                clear K6 K0 hsz
                go_wp2
                go_ret
                exact ⟨rfl, Hb3.out⟩

end Go.Proofs.Ytlbgcbekjjkokaa
