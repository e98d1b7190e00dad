/-
  CONTRACTS of package primary: placed, owned.
-/
import Derived.Test.YtlbgcbekjjkokaaPrim
import Derived.Deep.RegionWith
import Derived.Deep.DeepCutAuto
namespace Go.Proofs.Ytlbgcbekjjkokaa
open Go.RowKit

theorem exec_load_mid {P : Program} {o : Oper} {a : Act} {w : World} (ty : TypeId) (x : Operand) (ho : o.op = .load ty x) (b k : Nat) (hx : a.eval x = .pointer (some ⟨b, k, none⟩)) (cs : List Value) (d : TypeDesc) (hc : w.rangeAt b k cs)
    (hu : P.underlying ty = some d) (hd : d.isRow = true) {n : Nat} (hi : (P.info? ty).map (·.size) = some n) (hn : cs.length = n := by rfl) : (execOp a.eval o).run P w = .ok (.value (.agg cs.toArray)) w := by
  unfold execOp
  simp only [ho, hx, Instr.loadAt, Instr.sureAddr, Sem.run_bind, Sem.run_pure, Result.andThen_ok, run_loadVar_mid w b k ty cs d hc hu hd (by rw [hi, hn])]

/-- A struct out of the midst of a block. -/
theorem wpl_load_mid {P : Program} {ops : Array Oper} {rest : List Oper} {op : Oper} {a : Act} {w : World} {Q : Exit → Act → World → Prop} (hgd : op.guard = none) (ty : TypeId) (x : Operand) (ho : op.op = .load ty x) (b k : Nat) (cs : List Value) (hc : w.rangeAt b k cs)
    (hx : a.eval x = .pointer (some ⟨b, k, none⟩)) (d : TypeDesc) (hu : P.underlying ty = some d) (hd : d.isRow = true) (n : Nat) (hi : (P.info? ty).map (·.size) = some n) (hn : cs.length = n)
    (h : wpList P ops Q rest (a.put op.dst (.agg cs.toArray)) w) : wpList P ops Q (op :: rest) a w :=
  wpList_load_mid hgd ty x ho b k hx cs d hc hu hd (by rw [hi, hn]) h

def Pr.whole (p : Pr) : Pr := { p with fl := p.fl - p.fl % 2, off := 0, tot := 0 }
def Pr.placed (p : Pr) : Bool := if p.fl % 2 = 1 then decide (p.fl / 4 % 2 = 0 ∧ p.off < p.tot) else decide (p.off = 0 ∧ p.tot = 0)
theorem eqB_whole {p : Pr} (h : ¬ p.fl % 2 = 1) : p.eqB (Pr.whole p) = decide (p.off = 0 ∧ p.tot = 0) := by
  have := Pr.eqB_iff p (Pr.whole p)
  have e : p = Pr.whole p ↔ p.off = 0 ∧ p.tot = 0 := by
    unfold Pr.whole
    rcases p with ⟨fl, crc, d, s, r, time, seq, life, off, tot⟩
    simp only [Pr.mk.injEq, true_and]
    simp only at h
    omega
  rw [e] at this
  cases hb : p.eqB (Pr.whole p) with
  | true => rw [decide_eq_true (this.1 hb)]
  | false => rw [decide_eq_false (fun h => by rw [this.2 h] at hb; cases hb)]

set_option maxHeartbeats 1000000 in
theorem placed_any (p : Pr) (w : World) (hf : p.fl < 18446744073709551616) : Calls Try.prog 44 #[p.val] w fun e w' => e = .returned (.bool p.placed) ∧ Below w.heap.size w w' := by
  have F1 := hide (fun W => fragment_any p W hf)
  have FW := hide (fun W => whole_any p W hf)
  have R := range_new w p.cells 28 (0, 0)
  have hlt : w.heap.size < (w.alloc (.cells p.cells.toArray 28)).heap.size := by simp
  change Hid (∀ W, Calls Try.prog 40 #[p.val] W fun e w' => e = .returned (Pr.whole p).val ∧ Below W.heap.size W w') at FW
  have Q := hide (fun W => eq28 p (Pr.whole p) W)
  have hm : Try.prog.eqGuardType Try.prog.depth 28 = false := by kernel_rfl
  have G9 := hide (fun W => run_eqGuard_agg (P := Try.prog) W .eql 28 (.tmp 6) (.tmp 8) p.cells.toArray (Pr.whole p).cells.toArray hm)
  have hld : (w.alloc (.cells p.cells.toArray 28)).rangeAt w.heap.size 0 p.cells := R
  simp only [Pr.val] at F1 FW Q ⊢
  by_cases hp : p.fl % 2 = 1
  · rw [decide_eq_true hp] at F1
    have hb4 := and_four p.fl hf
    have hpl : p.placed = decide (p.fl / 4 % 2 = 0 ∧ p.off < p.tot) := if_pos hp
    rw [hpl]
    go_enter Try.func44, Try.ntmps44
    go_wp2_with (with_reducible refine wpl_load_mid rfl 28 (.tmp 1) rfl w.heap.size 0 _ R rfl _ Try.underlying28 rfl 19 info28 (by with_unfolding_all rfl) ?_)
    (with_reducible refine (F1.out _).mono ?_)
    rintro e w1 ⟨rfl, hb⟩
    have R1 := range_below R hb hlt
    have c0 : w1.cell? ⟨w.heap.size, 0, none⟩ = some (.int .u64 (p.fl : Int)) := R1 0 _ rfl
    have c17 : w1.cell? ⟨w.heap.size, 17, none⟩ = some (.int .u64 (p.off : Int)) := R1 17 _ rfl
    have c18 : w1.cell? ⟨w.heap.size, 18, none⟩ = some (.int .u64 (p.tot : Int)) := R1 18 _ rfl
    obtain ⟨hb1, hz1⟩ := below_size _ hb
    have Hb1 := hide hb1
    clear hb hb1 R R1 F1 FW Q G9 hld hlt
    by_cases h4 : p.fl / 4 % 2 = 0
    · rw [h4, Nat.zero_mul] at hb4
      by_cases ho : p.off < p.tot
      · have Hd := hide (decide_eq_true (show p.fl / 4 % 2 = 0 ∧ p.off < p.tot from ⟨h4, ho⟩))
        have ho' : (p.off : Int) < (p.tot : Int) := by omega
        clear h4 hp hpl
        go_wp2
        go_ret
        exact ⟨ret_bool Hd.out.symm, Hb1.out⟩
      · have Hd := hide (decide_eq_false (show ¬ (p.fl / 4 % 2 = 0 ∧ p.off < p.tot) from fun h => ho h.2))
        have ho' : ¬ (p.off : Int) < (p.tot : Int) := by omega
        clear h4 hp hpl
        go_wp2
        go_ret
        exact ⟨ret_bool Hd.out.symm, Hb1.out⟩
    · rw [show p.fl / 4 % 2 = 1 by omega, Nat.one_mul] at hb4
      have Hd := hide (decide_eq_false (show ¬ (p.fl / 4 % 2 = 0 ∧ p.off < p.tot) from fun h => h4 h.1))
      clear h4 hp hpl
      go_wp2
      go_ret
      exact ⟨ret_bool Hd.out.symm, Hb1.out⟩
  · rw [decide_eq_false hp] at F1
    have hpl : p.placed = p.eqB (Pr.whole p) := by rw [eqB_whole hp]; exact if_neg hp
    rw [hpl]
    clear hp hpl
    go_enter Try.func44, Try.ntmps44
    go_wp2_with (with_reducible refine wpl_load_mid rfl 28 (.tmp 1) rfl w.heap.size 0 _ R rfl _ Try.underlying28 rfl 19 info28 (by with_unfolding_all rfl) ?_)
    (with_reducible refine (F1.out _).mono ?_)
    rintro e w1 ⟨rfl, hb⟩
    have R1 := range_below R hb hlt
    obtain ⟨hb1, hz1⟩ := below_size _ hb
    have Hb1 := hide hb1
    have RR := hide (fun W (hb : Below w1.heap.size w1 W) => range_below R1 hb hz1)
    clear hb hb1 R R1 hld hlt F1
    go_upto_region 2 with fail
    refine wp_region_flow (by kernel_rfl) (fun d => if d = 2 then is (.bool (p.eqB (Pr.whole p))) else List.getD [is (.agg p.cells.toArray), is (.agg p.cells.toArray), is (.agg (Pr.whole p).cells.toArray), is (.bool (p.eqB (Pr.whole p)))] (d - 6) (fun _ _ => True)) 2 (by kernel_rfl) (by kernel_rfl) ?_ ?_
    · refine And.intro ?_ (And.intro ?_ (And.intro ?_ (And.intro ?_ (And.intro ?_ trivial))))
      · intro a w9 hb h
        have e1 : a.tmps.getD 1 undef = .pointer (some ⟨w.heap.size, 0, none⟩) := sb h 1 (by kernel_rfl) (by kernel_rfl) rfl
        exact .val (want0 rfl) rfl (exec_load_mid 28 (.tmp 1) rfl w.heap.size 0 (by simp [Act.eval, e1]) _ _ (RR.out w9 hb) Try.underlying28 rfl info28) (Keeps.is rfl)
      · intro a w9 hb h
        have e1 : a.tmps.getD 1 undef = .pointer (some ⟨w.heap.size, 0, none⟩) := sb h 1 (by kernel_rfl) (by kernel_rfl) rfl
        exact .val (want0 rfl) rfl (exec_load_mid 28 (.tmp 1) rfl w.heap.size 0 (by simp [Act.eval, e1]) _ _ (RR.out w9 hb) Try.underlying28 rfl info28) (Keeps.is rfl)
      · intro a w9 hb h
        have e7 := (sw h 7 (by kernel_rfl) (by kernel_rfl)).eq
        exact .called (want0 rfl) rfl (by simp [Act.eval, e7, go_sem]) (belowF (FW.out w9))
      · intro a w9 hb h
        have e6 := (sw h 6 (by kernel_rfl) (by kernel_rfl)).eq
        have e8 := (sw h 8 (by kernel_rfl) (by kernel_rfl)).eq
        exact .val (want0 rfl) rfl (by simp [Act.eval, e6, e8, Q.out, G9.out, go_sem]) (Keeps.is rfl)
      · intro a w9 hb h
        have e9 := (sw h 9 (by kernel_rfl) (by kernel_rfl)).eq
        exact .val (want0 rfl) rfl (by simp [Act.eval, e9, go_sem]) (Keeps.is rfl)
    · intro a w2 hd hb hv
      have er := hv.eq
      clear hv
      simp only [Exit.then]
      go_wp2
      exact ⟨hd, _, results_tmp rfl _ _ _, by rw [er], Hb1.out.trans (hb.mono Hb1.out.size)⟩

end Go.Proofs.Ytlbgcbekjjkokaa
