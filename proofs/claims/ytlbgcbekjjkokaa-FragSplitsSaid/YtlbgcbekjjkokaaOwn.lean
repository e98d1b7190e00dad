/-
  CONTRACTS of package primary: owned.
-/
import Derived.Test.YtlbgcbekjjkokaaPlac
namespace Go.Proofs.Ytlbgcbekjjkokaa
open Go.RowKit

theorem flags_own (n : Nat) : n &&& 507909 = 4 ↔ n % 2 = 0 ∧ n / 4 % 2 = 1 ∧ n / 16384 % 32 = 0 := by
  have tb : ∀ i, (n &&& 507909).testBit i = (n.testBit i && (507909 : Nat).testBit i) := fun i => Nat.testBit_and n 507909 i
  have b0 : n.testBit 0 = decide (n % 2 = 1) := by rw [Nat.testBit_zero]
  have b2 : n.testBit 2 = decide (n / 4 % 2 = 1) := by
    rw [Nat.testBit_eq_decide_div_mod_eq]
  have bh : n / 16384 % 32 = 0 ↔ ∀ j, j < 5 → n.testBit (14 + j) = false := by
    have e : ∀ j, (n / 2 ^ 14 % 2 ^ 5).testBit j = (decide (j < 5) && n.testBit (14 + j)) := fun j => by rw [Nat.testBit_mod_two_pow, Nat.testBit_div_two_pow, Nat.add_comm]
    constructor
    · intro h j hj
      have := e j
      rw [show n / 2 ^ 14 % 2 ^ 5 = n / 16384 % 32 from rfl, h, Nat.zero_testBit, decide_eq_true hj, Bool.true_and] at this
      exact this.symm
    · intro h
      show n / 2 ^ 14 % 2 ^ 5 = 0
      apply Nat.eq_of_testBit_eq
      intro j
      rw [e j, Nat.zero_testBit]
      by_cases hj : j < 5
      · rw [h j hj, Bool.and_false]
      · rw [decide_eq_false hj, Bool.false_and]
  rw [bh]
  constructor
  · intro h
    have t := fun i => tb i
    rw [h] at t
    refine ⟨?_, ?_, ?_⟩
    · have := t 0
      rw [b0] at this
      by_cases hn : n % 2 = 1
      · rw [decide_eq_true hn] at this; exact absurd this (by decide)
      · omega
    · have := t 2
      rw [b2] at this
      by_cases hn : n / 4 % 2 = 1
      · exact hn
      · rw [decide_eq_false hn] at this; exact absurd this (by decide)
    · intro j hj
      have := t (14 + j)
      cases hb : n.testBit (14 + j) with
      | false => rfl
      | true =>
        rw [hb] at this
        exfalso
        match j, hj with
        | 0, _ => revert this; decide
        | 1, _ => revert this; decide
        | 2, _ => revert this; decide
        | 3, _ => revert this; decide
        | 4, _ => revert this; decide
        | j + 5, hj => omega
  · rintro ⟨h0, h2, hh⟩
    apply Nat.eq_of_testBit_eq
    intro i
    rw [tb i]
    have hi0 : n.testBit 0 = false := by rw [b0]; exact decide_eq_false (by omega)
    have hi2 : n.testBit 2 = true := by rw [b2]; exact decide_eq_true h2
    match i with
    | 0 => rw [hi0]; decide
    | 1 => rw [show (507909 : Nat).testBit 1 = false by decide, Bool.and_false]; decide
    | 2 => rw [hi2]; decide
    | 3 => rw [show (507909 : Nat).testBit 3 = false by decide, Bool.and_false]; decide
    | 4 => rw [show (507909 : Nat).testBit 4 = false by decide, Bool.and_false]; decide
    | 5 => rw [show (507909 : Nat).testBit 5 = false by decide, Bool.and_false]; decide
    | 6 => rw [show (507909 : Nat).testBit 6 = false by decide, Bool.and_false]; decide
    | 7 => rw [show (507909 : Nat).testBit 7 = false by decide, Bool.and_false]; decide
    | 8 => rw [show (507909 : Nat).testBit 8 = false by decide, Bool.and_false]; decide
    | 9 => rw [show (507909 : Nat).testBit 9 = false by decide, Bool.and_false]; decide
    | 10 => rw [show (507909 : Nat).testBit 10 = false by decide, Bool.and_false]; decide
    | 11 => rw [show (507909 : Nat).testBit 11 = false by decide, Bool.and_false]; decide
    | 12 => rw [show (507909 : Nat).testBit 12 = false by decide, Bool.and_false]; decide
    | 13 => rw [show (507909 : Nat).testBit 13 = false by decide, Bool.and_false]; decide
    | 14 => rw [hh 0 (by omega)]; decide
    | 15 => rw [hh 1 (by omega)]; decide
    | 16 => rw [hh 2 (by omega)]; decide
    | 17 => rw [hh 3 (by omega)]; decide
    | 18 => rw [hh 4 (by omega)]; decide
    | i + 19 =>
      have e1 : (507909 : Nat).testBit (i + 19) = false := Nat.testBit_lt_two_pow (Nat.lt_of_lt_of_le (by decide : 507909 < 2 ^ 19) (Nat.pow_le_pow_right (by omega) (by omega)))
      have e2 : (4 : Nat).testBit (i + 19) = false := Nat.testBit_lt_two_pow (Nat.lt_of_lt_of_le (by decide : 4 < 2 ^ 19) (Nat.pow_le_pow_right (by omega) (by omega)))
      rw [e1, e2, Bool.and_false]

theorem src_cells (p : Pr) : (p.cells.drop 6).take 4 = p.src.cells := rfl
theorem range_src {w : World} {b : Nat} {p : Pr} (h : w.rangeAt b 0 p.cells) : w.rangeAt b 6 p.src.cells := by
  have := range_sub h 6 4
  rw [src_cells, Nat.zero_add] at this
  exact this
theorem cell_fl {w : World} {b : Nat} {p : Pr} (h : w.rangeAt b 0 p.cells) : w.cell? ⟨b, 0, none⟩ = some (.int .u64 (p.fl : Int)) := h 0 _ rfl
def Nm.none : Nm := ⟨1, ⟨#[]⟩, 0, 0⟩
def Pr.owned (p : Pr) : Bool := if p.src.eqB Nm.none = true then decide (p.fl % 2 = 0 ∧ p.fl / 4 % 2 = 1 ∧ p.fl / 16384 % 32 = 0) else true

theorem neq24 (x y : Nm) (w : World) : (binOp .neq 24 (.agg x.cells.toArray) (.agg y.cells.toArray)).run Try.prog w = .ok (.bool (!x.eqB y)) w := by
  rw [run_neq_struct, show (10000 : Nat) = 9998 + 2 from rfl]
  rw [show (Op.equalIn (9998 + 2) 24 (.agg x.cells.toArray) (.agg y.cells.toArray)).run Try.prog w = .ok (x.eqB y) w from eqN 9998 x y w]
  rfl

set_option maxRecDepth 100000 in
set_option maxHeartbeats 1000000 in
theorem owned_any (p : Pr) (w : World) (hf : p.fl < 18446744073709551616) : Calls Try.prog 45 #[p.val] w fun e w' => e = .returned (.bool p.owned) ∧ Below w.heap.size w w' := by
  have FN := hide (fun W => none_any W)
  have R := range_new w p.cells 28 (0, 0)
  have hlt : w.heap.size < (w.alloc (.cells p.cells.toArray 28)).heap.size := by simp
  have RR := hide (fun W (hb : Below (w.alloc (.cells p.cells.toArray 28)).heap.size (w.alloc (.cells p.cells.toArray 28)) W) => range_below R hb hlt)
  have Hb1 := hide ((Below.refl w.heap.size w).alloc (Nat.le_refl _) (.cells p.cells.toArray 28))
  have Q := hide (fun W => neq24 p.src Nm.none W)
  have hm : Try.prog.eqGuardType Try.prog.depth 24 = false := by kernel_rfl
  have G9 := hide (fun W => run_eqGuard_agg (P := Try.prog) W .neq 24 (.tmp 4) (.tmp 5) p.src.cells.toArray Nm.none.cells.toArray hm)
  have HA := hide (u64_and_nat p.fl 507909 hf (by omega))
  simp only [Nm.val, Pr.val] at FN ⊢
  simp only [Nm.none] at Q G9
  change Hid (bits .and .u64 (p.fl : Int) 507909 = ((p.fl &&& 507909 : Nat) : Int)) at HA
  cases hs : p.src.eqB Nm.none with
  | false =>
    have HE := hide True.intro
    have Ho := hide (show p.owned = true by unfold Pr.owned; rw [if_neg (by rw [hs]; decide)])
    rw [Ho.out]
    simp only [Nm.none] at hs
    rw [hs] at Q
    clear R hlt hs Ho
    go_enter Try.func45, Try.ntmps45
    go_upto_region 1 with fail
    refine wp_region_flow (by kernel_rfl) (fun d => if d = 2 then is (.bool true) else List.getD [is (.pointer (some ⟨w.heap.size, 6, none⟩)), is (.agg p.src.cells.toArray), is (.agg (Nm.cells ⟨1, ⟨#[]⟩, 0, 0⟩).toArray), is (.bool true), is (.bool true), is (undef), is (undef), is (undef), is (undef), is (.bool true)] (d - 3) (fun _ _ => True)) 2 (by kernel_rfl) (by kernel_rfl) ?_ ?_
    · refine And.intro ?_ (And.intro ?_ (And.intro ?_ (And.intro ?_ (And.intro ?_ (And.intro ?_ (And.intro ?_ (And.intro ?_ (And.intro ?_ (And.intro ?_ (And.intro ?_ trivial))))))))))
      · intro a w9 hb h
        have e1 : a.tmps.getD 1 undef = .pointer (some ⟨w.heap.size, 0, none⟩) := sb h 1 (by kernel_rfl) (by kernel_rfl) rfl
        exact .val (want0 rfl) rfl (by simp [Act.eval, e1, go_sem]) (Keeps.is rfl)
      · intro a w9 hb h
        have e3 := (sw h 3 (by kernel_rfl) (by kernel_rfl)).eq
        exact .val (want0 rfl) rfl (exec_load_mid 24 (.tmp 3) rfl w.heap.size 6 (by simp [Act.eval, e3]) p.src.cells _ (range_src (RR.out w9 hb)) Try.underlying24 rfl info24) (Keeps.is rfl)
      · intro a w9 hb h
        exact .called (want0 rfl) rfl (by simp [go_sem]) (belowF (FN.out w9))
      · intro a w9 hb h
        have e4 := (sw h 4 (by kernel_rfl) (by kernel_rfl)).eq
        have e5 := (sw h 5 (by kernel_rfl) (by kernel_rfl)).eq
        exact .val (want0 rfl) rfl (by simp [Act.eval, e4, e5, Q.out, G9.out, go_sem]) (Keeps.is rfl)
      · intro a w9 hb h
        have e6 := (sw h 6 (by kernel_rfl) (by kernel_rfl)).eq
        exact .val (want0 rfl) rfl (by simp [Act.eval, e6, go_sem]) (Keeps.is rfl)
      · intro a w9 hb h
        have eg := (sw h 7 (by kernel_rfl) (by kernel_rfl)).eq
        exact .off (idleg rfl (by kernel_rfl) eg rfl) rfl (Keeps.is rfl)
      · intro a w9 hb h
        have eg := (sw h 7 (by kernel_rfl) (by kernel_rfl)).eq
        exact .off (idleg rfl (by kernel_rfl) eg rfl) rfl (Keeps.is rfl)
      · intro a w9 hb h
        have eg := (sw h 7 (by kernel_rfl) (by kernel_rfl)).eq
        exact .off (idleg rfl (by kernel_rfl) eg rfl) rfl (Keeps.is rfl)
      · intro a w9 hb h
        have eg := (sw h 7 (by kernel_rfl) (by kernel_rfl)).eq
        exact .off (idleg rfl (by kernel_rfl) eg rfl) rfl (Keeps.is rfl)
      · intro a w9 hb h
        have e7 := (sw h 7 (by kernel_rfl) (by kernel_rfl)).eq
        exact .val (want0 rfl) rfl (by simp [Act.eval, e7, go_sem]) (Keeps.is rfl)
      · intro a w9 hb h
        have e12 := (sw h 12 (by kernel_rfl) (by kernel_rfl)).eq
        exact .val (want0 rfl) rfl (by simp [Act.eval, e12, go_sem]) (Keeps.is rfl)
    · intro a w2 hd hb hv
      have er := hv.eq
      clear hv
      simp only [Exit.then]
      go_wp2
      exact ⟨hd, _, results_tmp rfl _ _ _, by rw [er], Hb1.out.trans (hb.mono Hb1.out.size)⟩
  | true =>
    have Ho := hide (show p.owned = decide (p.fl &&& 507909 = 4) by
      unfold Pr.owned; rw [if_pos hs]; exact decide_eq_decide.2 (flags_own p.fl).symm)
    rw [Ho.out]
    simp only [Nm.none] at hs
    rw [hs] at Q
    have HE := hide (show (((p.fl &&& 507909 : Nat) : Int) == 4) = decide (p.fl &&& 507909 = 4) by
      by_cases h : p.fl &&& 507909 = 4
      · rw [decide_eq_true h, h]; rfl
      · rw [decide_eq_false h]; exact beq_eq_false_iff_ne.2 (by omega))
    generalize decide (p.fl &&& 507909 = 4) = b at *
    clear R hlt hs Ho
    go_enter Try.func45, Try.ntmps45
    go_upto_region 1 with fail
    refine wp_region_flow (by kernel_rfl) (fun d => if d = 2 then is (.bool b) else List.getD [is (.pointer (some ⟨w.heap.size, 6, none⟩)), is (.agg p.src.cells.toArray), is (.agg (Nm.cells ⟨1, ⟨#[]⟩, 0, 0⟩).toArray), is (.bool false), is (.bool false), is (.pointer (some ⟨w.heap.size, 0, none⟩)), is (.int .u64 (p.fl : Int)), is (.int .u64 ((p.fl &&& 507909 : Nat) : Int)), is (.bool b), is (.bool b)] (d - 3) (fun _ _ => True)) 2 (by kernel_rfl) (by kernel_rfl) ?_ ?_
    · refine And.intro ?_ (And.intro ?_ (And.intro ?_ (And.intro ?_ (And.intro ?_ (And.intro ?_ (And.intro ?_ (And.intro ?_ (And.intro ?_ (And.intro ?_ (And.intro ?_ trivial))))))))))
      · intro a w9 hb h
        have e1 : a.tmps.getD 1 undef = .pointer (some ⟨w.heap.size, 0, none⟩) := sb h 1 (by kernel_rfl) (by kernel_rfl) rfl
        exact .val (want0 rfl) rfl (by simp [Act.eval, e1, go_sem]) (Keeps.is rfl)
      · intro a w9 hb h
        have e3 := (sw h 3 (by kernel_rfl) (by kernel_rfl)).eq
        exact .val (want0 rfl) rfl (exec_load_mid 24 (.tmp 3) rfl w.heap.size 6 (by simp [Act.eval, e3]) p.src.cells _ (range_src (RR.out w9 hb)) Try.underlying24 rfl info24) (Keeps.is rfl)
      · intro a w9 hb h
        exact .called (want0 rfl) rfl (by simp [go_sem]) (belowF (FN.out w9))
      · intro a w9 hb h
        have e4 := (sw h 4 (by kernel_rfl) (by kernel_rfl)).eq
        have e5 := (sw h 5 (by kernel_rfl) (by kernel_rfl)).eq
        exact .val (want0 rfl) rfl (by simp [Act.eval, e4, e5, Q.out, G9.out, go_sem]) (Keeps.is rfl)
      · intro a w9 hb h
        have e6 := (sw h 6 (by kernel_rfl) (by kernel_rfl)).eq
        exact .val (want0 rfl) rfl (by simp [Act.eval, e6, go_sem]) (Keeps.is rfl)
      · intro a w9 hb h
        have eg := (sw h 7 (by kernel_rfl) (by kernel_rfl)).eq
        have e1 : a.tmps.getD 1 undef = .pointer (some ⟨w.heap.size, 0, none⟩) := sb h 1 (by kernel_rfl) (by kernel_rfl) rfl
        exact .val (wantg rfl (by kernel_rfl) eg) rfl (by simp [Act.eval, e1, go_sem]) (Keeps.is rfl)
      · intro a w9 hb h
        have eg := (sw h 7 (by kernel_rfl) (by kernel_rfl)).eq
        have e8 := (sw h 8 (by kernel_rfl) (by kernel_rfl)).eq
        exact .val (wantg rfl (by kernel_rfl) eg) rfl (by simp [Act.eval, e8, cell_fl (RR.out w9 hb), go_sem]) (Keeps.is rfl)
      · intro a w9 hb h
        have eg := (sw h 7 (by kernel_rfl) (by kernel_rfl)).eq
        have e9 := (sw h 9 (by kernel_rfl) (by kernel_rfl)).eq
        exact .val (wantg rfl (by kernel_rfl) eg) rfl (by simp [Act.eval, e9, HA.out, go_sem]) (Keeps.is rfl)
      · intro a w9 hb h
        have eg := (sw h 7 (by kernel_rfl) (by kernel_rfl)).eq
        have e10 := (sw h 10 (by kernel_rfl) (by kernel_rfl)).eq
        exact .val (wantg rfl (by kernel_rfl) eg) rfl (by simp [Act.eval, e10, HE.out, go_sem]) (Keeps.is rfl)
      · intro a w9 hb h
        have e7 := (sw h 7 (by kernel_rfl) (by kernel_rfl)).eq
        have e11 := (sw h 11 (by kernel_rfl) (by kernel_rfl)).eq
        exact .val (want0 rfl) rfl (by simp [Act.eval, e7, e11, go_sem]) (Keeps.is rfl)
      · intro a w9 hb h
        have e12 := (sw h 12 (by kernel_rfl) (by kernel_rfl)).eq
        exact .val (want0 rfl) rfl (by simp [Act.eval, e12, go_sem]) (Keeps.is rfl)
    · intro a w2 hd hb hv
      have er := hv.eq
      clear hv
      simp only [Exit.then]
      go_wp2
      exact ⟨hd, _, results_tmp rfl _ _ _, by rw [er], Hb1.out.trans (hb.mono Hb1.out.size)⟩

end Go.Proofs.Ytlbgcbekjjkokaa
