/-
  LAYER 20, THE REFERENCE: Can, Places.
-/
import Derived.Test.YtofokljhlcdebaaPkN
import Derived.Test.YtofokljhlcdebaaPkF
import Derived.BigFrame
namespace Go.Proofs.Ytofokljhlcdebaa
open Go.RowKit Go.Sort
set_option maxRecDepth 8000

theorem wpl_load_addr_wantP {P : Program} {ops : Array Oper} {rest : List Oper} {op : Oper} {a : Act} {w : World} {Q : Exit → Act → World → Prop} (hw : Region.wanted op (yielded ops a.tmps) = true) (ty : TypeId) (x : Operand) (ho : op.op = .load ty x) (p : Addr) (cs : List Value) (hc : ∀ j v, cs[j]? = some v → w.cell? (p.add j) = some v)
    (hx : a.eval x = .pointer (some p)) (d : TypeDesc) (hu : P.underlying ty = some d) (hd : d.isRow = true) (n : Nat) (hi : (P.info? ty).map (·.size) = some n) (hn : cs.length = n)
    (h : wpList P ops Q rest (a.put op.dst (.agg cs.toArray)) w) : wpList P ops Q (op :: rest) a w := by
  have hl : (loadCells p cs.length).run P w = .ok cs.toArray w := run_loadCells_list (P := P) w p cs hc
  have hrun : (loadVar ty p).run P w = .ok (.agg cs.toArray) w := by
    cases hq : P.info? ty with
    | none => simp [hq] at hi
    | some i =>
      have hs : i.size = cs.length := by simp [hq] at hi; omega
      have hagg : (isAgg ty).run P w = .ok true w := by
        unfold isAgg
        rw [Sem.run_bind, run_underlying hu w]
        cases d <;> simp_all
      simp [loadVar, Sem.run_bind, hagg, sizeOf, typeInfo, hq, hs, hl]
  refine BigFrame.wpList_want hw fun K hK => ?_
  unfold Oper.wp execOp
  simp only [ho, hx, Instr.loadAt, Instr.sureAddr, Sem.run_bind, Sem.run_pure, Result.andThen_ok, hrun]
  exact hK _ _ h
theorem canP_iff {vs : List (List Pl2)} {bad : List Int} {L : List Pl2} (hl : L.length = vs.length) (b : Int) : canP vs bad L b = true ↔ ¬ b ∈ bad ∧ ∀ (i : Nat) (hi : i < L.length), L[i].1 = b → (vs.getD i []).any (okP bad L b) = true := by
  constructor
  · intro hc
    refine ⟨fun hb => ?_, fun i hi e => by have := canP_at hc hl i hi e; simpa [List.getD, show i < vs.length by omega] using this⟩
    unfold canP at hc
    simp [hb] at hc
  · rintro ⟨h1, h2⟩
    unfold canP
    rw [Bool.and_eq_true, List.all_eq_true]
    refine ⟨by simpa using h1, fun q hq => ?_⟩
    obtain ⟨i, hi, rfl⟩ := List.getElem_of_mem hq
    have hi' : i < L.length := by rw [List.length_zip, ← hl, Nat.min_self] at hi; exact hi
    rw [List.getElem_zip]
    by_cases e : L[i].1 = b
    · have h3 : (vs[i]'(by omega)).any (okP bad L b) = true := by have := h2 i hi' e; simpa [List.getD, show i < vs.length by omega] using this
      simp [h3]
    · simp [e]
def canR (vs : List (List Pl2)) (bad : List Int) (L : List Pl2) (b : Int) : Bool := decide (b ∈ L.map Prod.fst) && canP vs bad L b
set_option maxHeartbeats 4000000 in
theorem can20_any (A A2 A3 : Option Addr) (n c n2 c2 n3 c3 : Nat) (l : List Cq) (L : List Pl2) (bad : List Int) (b : Int) (w : World) (hq : Vq w w.heap.size A l) (hL : Lies w w.heap.size A2 (rowQ L)) (hb : Lies w w.heap.size A3 (nums .i64 bad)) (hn : n = l.length) (hn2 : n2 = L.length) (hn3 : n3 = bad.length) (hl : L.length = l.length) (h2 : n2 ≤ 1000) (h3 : n3 ≤ 1000) (hps : ∀ q ∈ l, q.ps.length ≤ 1000) :
    Calls Try.prog 20 #[.slice A n c, .slice A2 n2 c2, .slice A3 n3 c3, .int .i64 b] w fun e w' => e = .returned (.bool (canR (plsC l) bad L b)) ∧ Below w.heap.size w w' := by
  have F1 := hide (hasQ_any A3 n3 c3 w.heap.size bad b w hb hn3 (by omega))
  have F2 := hide (in20_any A2 n2 c2 w.heap.size L b w hL hn2 h2)
  have FO := hide (fun (q : Cq) (hm : q ∈ l) W (h : Below w.heap.size w W) => other20_any q A2 A3 n2 c2 n3 c3 L bad b W (((hq.each q hm).below h).up h.size) ((hL.below h).up h.size) ((hb.below h).up h.size) hn2 hn3 (hps q hm) h2 h3)
  have HQ := hide hq
  have HL := hide hL
  have Hn := hide hn
  have Hn2 := hide hn2
  have Hl := hide hl
  have H2 := hide h2
  have hci := canP_iff (vs := plsC l) (bad := bad) (L := L) (by unfold plsC; rw [List.length_map]; exact hl) b
  have HCI := hide hci
  obtain ⟨R, hR⟩ : ∃ R, canR (plsC l) bad L b = R := ⟨_, rfl⟩
  rw [hR]
  have HR : Hid ((decide (b ∈ L.map Prod.fst) && canP (plsC l) bad L b) = R) := hide hR
  obtain ⟨r, hr⟩ : ∃ r, decide (b ∈ bad) = r := ⟨_, rfl⟩
  obtain ⟨s, hs⟩ : ∃ s, decide (b ∈ L.map Prod.fst) = s := ⟨_, rfl⟩
  rw [hr] at F1
  rw [hs] at F2 HR
  have Hr := hide hr
  clear hq hL hb hn hn2 hn3 hl h2 h3 hps hR hci hr hs
  go_enter Try.func20, Try.ntmps20
  cases r with
  | true =>
    have hr : R = false := by
      rw [← HR.out]
      cases hcp : canP (plsC l) bad L b with
      | false => simp
      | true => exact absurd (of_decide_eq_true Hr.out) (HCI.out.1 hcp).1
    subst hr
    clear HR
    go_wp2_with (go_at_call 21; (with_reducible refine F1.out.mono ?_); rintro e w1 ⟨rfl, rfl⟩)
    go_ret
    exact ⟨rfl, Below.refl _ _⟩
  | false =>
    cases s with
    | false =>
      have hr : R = false := by rw [← HR.out]; rfl
      subst hr
      clear HR
      go_wp2_with (first
        | (go_at_call 21; (with_reducible refine F1.out.mono ?_); rintro e w1 ⟨rfl, rfl⟩)
        | (go_at_call 19; (with_reducible refine F2.out.mono ?_); rintro e w1 ⟨rfl, rfl⟩))
      go_ret
      exact ⟨rfl, Below.refl _ _⟩
    | true =>
      have HR2 : Hid (canP (plsC l) bad L b = R) := hide (by rw [← HR.out]; rfl)
      clear HR
      go_wp2_with (first
        | (go_at_call 21; (with_reducible refine F1.out.mono ?_); rintro e w1 ⟨rfl, hw1⟩; subst hw1)
        | (go_at_call 19; (with_reducible refine F2.out.mono ?_); rintro e w1 ⟨rfl, hw1⟩; subst hw1))
      clear F1 F2
      go_loopw [9] (fun i wr => ∃ k : Nat, k ≤ n2 ∧ i = .int .i64 (k : Int) ∧ Hid (Below w.heap.size w wr) ∧ Hid (∀ (j : Nat) (hj : j < L.length), j < k → L[j].1 = b → ((plsC l).getD j []).any (okP bad L b) = true)) (fun i _ => n2 - (intOf i).toNat)
      case atStart => exact ⟨0, Nat.zero_le _, rfl, hide (Below.refl _ _), hide (fun j hj h => by omega)⟩
      case round =>
        obtain ⟨k, hk, rfl, HW, HF⟩ := hrel
        by_cases hlt : k < n2
        · have hlt' : (k : Int) < (n2 : Int) := by omega
          have e7 : wrap64 ((k : Int) + 1) = ((k + 1 : Nat) : Int) := by have := H2.out; unfold wrap64; omega
          have hkL : k < L.length := by rw [← Hn2.out]; exact hlt
          have hkl : k < l.length := by rw [← Hl.out]; exact hkL
          have hkn : (k : Int) < (n : Int) := by rw [Hn.out]; omega
          obtain ⟨a, rfl, _, hca⟩ := (HL.out.below HW.out).elem (f := plc) (m := 2) plc_len hkL (by omega)
          have Hcall := hide (FO.out l[k] (List.getElem_mem hkl))
          obtain ⟨av, eav, _, hcv⟩ := (HQ.out.row.below HW.out).elem Cq.cells_len hkl (by decide)
          cases eav
          have Hpl : Hid ((plsC l).getD k [] = l[k].ps) := hide (by unfold plsC; simp [List.getD, hkl])
          have Hlt := hide hlt
          by_cases h1 : L[k].1 = b
          · have hL1 : wr.cell? (a.add (k * 2)) = some (.int .i64 b) := by rw [← h1]; exact hca 0 _ rfl
            have hbb : (b == b) = true := beq_self_eq_true b
            obtain ⟨an, han⟩ : ∃ an, (l[k].ps).any (okP bad L b) = an := ⟨_, rfl⟩
            have Hcall2 := hide (Hcall.out wr HW.out)
            cases an with
            | false =>
              have hr : R = false := by
                rw [← HR2.out]
                cases hcp : canP (plsC l) bad L b with
                | false => rfl
                | true =>
                  have := (HCI.out.1 hcp).2 k hkL h1
                  rw [Hpl.out, han] at this
                  cases this
              have hoth : othP bad L b l[k].ps = -1 := by unfold othP; rw [if_neg (by rw [han]; decide)]
              have Hc9 := Hcall2.out
              rw [hoth] at Hc9
              have Hc := hide Hc9
              have Hcv := hide hcv
              generalize l[k] = f at *
              rcases f with ⟨flp, fkd, ffa, ffc, fps⟩
              unfold Cq.cells at Hcv Hc
              subst hr
              clear hca hcv Hcall Hcall2 Hc9 HF hkL hkl hlt hk hoth han Hpl h1
              dsimp only at *
              go_wp2_with (first
                | (refine wpl_load_addr_wantP (by simp [Region.wanted, yielded]) 42 (.tmp 35) rfl (av.add (k * 3)) _ Hcv.out rfl _ Try.underlying42 rfl 3 infoCq rfl ?_)
                | (go_at_call 46; (with_reducible refine Hc.out.mono ?_); rintro e w2 ⟨rfl, hb2⟩))
              go_ret
              exact ⟨rfl, HW.out.trans (hb2.mono HW.out.size)⟩
            | true =>
              have hoth : othP bad L b l[k].ps = (((l[k].ps).findIdx (okP bad L b) : Nat) : Int) := by unfold othP; rw [if_pos han]
              have Hc9 := Hcall2.out
              rw [hoth] at Hc9
              have Hc := hide Hc9
              have Hcv := hide hcv
              have HF2 : Hid (∀ (j : Nat) (hj : j < L.length), j < k + 1 → L[j].1 = b → ((plsC l).getD j []).any (okP bad L b) = true) := hide (fun j hj h8 h9 => by
                by_cases e : j = k
                · subst e; rw [Hpl.out]; exact han
                · exact HF.out j hj (by omega) h9)
              generalize l[k] = f at *
              rcases f with ⟨flp, fkd, ffa, ffc, fps⟩
              unfold Cq.cells at Hcv Hc
              dsimp only at *
              generalize List.findIdx (okP bad L b) fps = fi at *
              have gf : decide ((fi : Int) < 0) = false := decide_eq_false (by omega)
              clear hca hcv Hcall Hcall2 Hc9 HF hkL hkl hlt hk hoth han Hpl h1
              go_wp2_with (first
                | (refine wpl_load_addr_wantP (by simp [Region.wanted, yielded]) 42 (.tmp 35) rfl (av.add (k * 3)) _ Hcv.out rfl _ Try.underlying42 rfl 3 infoCq rfl ?_)
                | (go_at_call 46; (with_reducible refine Hc.out.mono ?_); rintro e w2 ⟨rfl, hb2⟩; have HW2 := hide (HW.out.trans (hb2.mono HW.out.size)); clear hb2))
              go_roundw
              case rel => exact ⟨k + 1, Hlt.out, congrArg (Value.int .i64) e7, HW2, HF2⟩
              case measure => first | exact measT Hlt.out | exact measT2 e7 Hlt.out
          · have hcx : wr.cell? (a.add (k * 2)) = some (.int .i64 L[k].1) := hca 0 _ rfl
            have hbb : (L[k].1 == b) = false := beq_eq_false_iff_ne.2 h1
            have HF2 : Hid (∀ (j : Nat) (hj : j < L.length), j < k + 1 → L[j].1 = b → ((plsC l).getD j []).any (okP bad L b) = true) := hide (fun j hj h8 h9 => by
              by_cases e : j = k
              · subst e; exact absurd h9 h1
              · exact HF.out j hj (by omega) h9)
            generalize L[k].1 = x at *
            clear hca hcv Hcall HF hkL hkl hlt hk Hpl h1
            go_wp2
            go_roundw
            case rel => exact ⟨k + 1, Hlt.out, congrArg (Value.int .i64) e7, HW, HF2⟩
            case measure => first | exact measT Hlt.out | exact measT2 e7 Hlt.out
        · obtain rfl : k = n2 := by omega
          have hr : canP (plsC l) bad L b = true := HCI.out.2 ⟨of_decide_eq_false Hr.out, fun i hi e => HF.out i hi (by rw [Hn2.out]; exact hi) e⟩
          rw [HR2.out] at hr
          subst hr
          clear HF
          go_wp2
          go_ret
          exact ⟨rfl, HW.out⟩
end Go.Proofs.Ytofokljhlcdebaa
