/-
  CONTRACTS: frag.Join.
-/
import Derived.Test.YtlbgcbekjjkokaaJoinM
import Derived.Test.YtlbgcbekjjkokaaTog
import Derived.Test.YtlbgcbekjjkokaaFwh
namespace Go.Proofs.Ytlbgcbekjjkokaa
open Go.RowKit

theorem zBn_cells : zBn.cells.toArray = #[.int .u64 0, .int .i64 0, .int .i64 0, .string ⟨#[]⟩, .int .u64 0, .int .u64 0, .int .i64 0, .string ⟨#[]⟩, .int .u64 0, .int .u64 0, .int .i64 0, .string ⟨#[]⟩, .int .u64 0, .int .u64 0, .int .u64 0, .int .u64 0, .int .u64 0, .int .u64 0, .int .u64 0, .slice none 0 0, .int .u64 0, .int .u64 0, .int .u64 0, .int .i64 0, .string ⟨#[]⟩] := rfl
theorem zBn_ok (w : World) (B : Nat) : zBn.Ok w B := ⟨.inl rfl, rfl, Nat.le_refl _, Nat.zero_le _, Nat.zero_le _, by decide, by decide, by decide, by decide, by decide, by decide, by decide⟩
def JoinPost (l : List Bn) (w : World) (e : Ending) (w' : World) : Prop := ∃ X er, e = .returned (.tuple #[X.val, .int .i64 er]) ∧ X.Ok w' w'.heap.size ∧ JoinIs l X er ∧ Below w.heap.size w w'

theorem results_cell_tmp {P : Program} {fn : Func} {p q : Tmp} {ty : TypeId} (h : fn.results = #[.cell p ty, .tmp q]) (tmps : Array Value) (w : World) (g : Nat) (t : TypeId) (cs : Array Value) (fr : Nat × Nat) (d : TypeDesc)
    (hp : tmps.getD p undef = .pointer (some ⟨g, 0, none⟩)) (hg : w.heap[g]? = some (.cells cs t fr))
    (hu : P.underlying ty = some d) (hd : (match d with | .struct _ | .array _ _ => true | _ => false) = true) (hi : (P.info? ty).map (·.size) = some cs.size) :
    (results fn tmps).run P w = .ok (.tuple #[.agg cs, tmps.getD q undef]) w := by
  have hp' : tmps[p]?.getD undef = .pointer (some ⟨g, 0, none⟩) := by simpa using hp
  simp [results, h, hp', asAddr, run_loadVar_row w g t ty cs fr d hg hu hd hi]
/-- A call's end: its first result lies in a variable of its own, the second one not. -/
theorem end_cell_tmp {P : Program} {fn : Func} {p q : Tmp} {ty : TypeId} {post : Ending → World → Prop} {tmps : Array Value} {w : World} (h : fn.results = #[.cell p ty, .tmp q]) (g : Nat) (t : TypeId) (cs : Array Value) (d : TypeDesc) (hg : w.heap[g]? = some (.cells cs t (0, 0)))
    (hp : tmps.getD p undef = .pointer (some ⟨g, 0, none⟩)) (hu : P.underlying ty = some d) (hd : d.isRow = true) (n : Nat) (hi : (P.info? ty).map (·.size) = some n) (hn : cs.size = n) (v : Value) (hv : tmps.getD q undef = v) (hq : post (.returned (.tuple #[.agg cs, v])) w) :
    bodyPost P fn post .ret ⟨tmps, []⟩ w :=
  bodyPost_ret (v := .tuple #[.agg cs, v]) (by rw [← hv]; exact results_cell_tmp h tmps w g t cs (0, 0) d hp hg hu (by cases d <;> simp_all) (by rw [hi, hn])) rfl hq

set_option maxRecDepth 100000 in
set_option maxHeartbeats 4000000 in
theorem join_nil (A : Option Addr) (c : Nat) (w : World) : Calls Try.prog 12 #[.slice A 0 c] w (JoinPost [] w) := by
  have HB := hide (fun o => (Below.refl w.heap.size w).alloc (Nat.le_refl _) o)
  have Hz := hide zBn_cells
  go_enter Try.func12, Try.ntmps12
  go_upto_region 1 with fail
  rw [← Hz.out]
  generalize hw1 : w.alloc (.cells zBn.cells.toArray 33) = w1
  have Hr1 := hide (show w1.heap[w.heap.size]? = some (.cells zBn.cells.toArray 33 (0, 0)) by rw [← hw1]; exact heap_alloc_last w _)
  have Hb1 := hide (show Below w.heap.size w w1 by rw [← hw1]; exact HB.out _)
  clear hw1 HB
  go_wp2_with (with_reducible refine wpl_store_at rfl 33 (.tmp 2) (.tmp 12) rfl w.heap.size 33 _ _ Hr1.out rfl rfl 25 info33 rfl (by with_unfolding_all rfl) rfl ?_; rw [← Hz.out]; have Hr2 := hide (setRow_heap w1 w.heap.size _ zBn.cells.toArray _ _ Hr1.out); have Hb2 := hide (below_setRow Hb1.out (Nat.le_refl _) zBn.cells.toArray); clear Hr1 Hb1; generalize w1.setRow w.heap.size zBn.cells.toArray = w2 at *)
  refine end_cell_tmp rfl w.heap.size _ zBn.cells.toArray _ Hr2.out rfl Try.underlying33 rfl 25 info33 (cells_size _) (.int .i64 8) rfl ?_
  exact ⟨zBn, 8, rfl, zBn_ok _ _, .inl ⟨rfl, rfl, rfl⟩, Hb2.out⟩

theorem wpl_load_addr_want {P : Program} {ops : Array Oper} {rest : List Oper} {op : Oper} {a : Act} {w : World} {Q : Exit → Act → World → Prop} (hw : Region.wanted op (yielded ops a.tmps) = true) (ty : TypeId) (x : Operand) (ho : op.op = .load ty x) (p : Addr) (cs : List Value) (hc : ∀ j v, cs[j]? = some v → w.cell? (p.add j) = some v)
    (hx : a.eval x = .pointer (some p)) (d : TypeDesc) (hu : P.underlying ty = some d) (hd : d.isRow = true) (n : Nat) (hi : (P.info? ty).map (·.size) = some n) (hn : cs.length = n)
    (h : wpList P ops Q rest (a.put op.dst (.agg cs.toArray)) w) : wpList P ops Q (op :: rest) a w := by
  have hl : (loadCells p cs.length).run P w = .ok cs.toArray w := run_loadCells_list (P := P) w p cs hc
  have hrun : (loadVar ty p).run P w = .ok (.agg cs.toArray) w := by
    cases hq : P.info? ty with
    | none => simp [hq] at hi
    | some i =>
      have hs : i.size = cs.length := by simp [hq] at hi; omega
      have hagg : (isAgg ty).run P w = .ok true w := by
        unfold isAgg
        rw [Sem.run_bind, run_underlying hu w]
        cases d <;> simp_all
      simp [loadVar, Sem.run_bind, hagg, sizeOf, typeInfo, hq, hs, hl]
  refine BigFrame.wpList_want hw fun K hK => ?_
  unfold Oper.wp execOp
  simp only [ho, hx, Instr.loadAt, Instr.sureAddr, Sem.run_bind, Sem.run_pure, Result.andThen_ok, hrun]
  exact hK _ _ h
theorem first_cells {w : World} {B : Nat} {a : Addr} {f : Bn} {r l : List Bn} (hl : l = f :: r) (h : Lies w B (some a) (l.flatMap Bn.cells)) : ∀ j v, f.cells[j]? = some v → w.cell? (a.add j) = some v := by
  intro j v hv
  obtain ⟨a', ha', _, hca⟩ := h.elem (f := Bn.cells) (m := 25) Bn.cells_len (k := 0) (by rw [hl]; simp) (by omega)
  cases ha'
  have e : l[0]'(by rw [hl]; simp) = f := by subst hl; rfl
  rw [e] at hca
  have := hca j v hv
  rwa [Addr.add_add', show 0 * 25 + j = j by omega] at this
theorem cells_p {b : Bn} {j : Nat} {v : Value} (hv : b.p.cells[j]? = some v) : b.cells[j]? = some v := by
  have hj : j < 19 := by have := (List.getElem?_eq_some_iff.1 hv).1; simpa [Pr.cells] using this
  rw [show b.cells = b.p.cells ++ (b.cells.drop 19) from rfl, List.getElem?_append_left (by show j < 19; exact hj)]
  exact hv

set_option maxRecDepth 100000 in
set_option maxHeartbeats 4000000 in
theorem join_any (a : Addr) (n c B : Nat) (f : Bn) (r l : List Bn) (w : World) (hfr : l = f :: r) (h : Lies w B (some a) (l.flatMap Bn.cells)) (hok : ∀ b ∈ l, b.Ok w B) (hn : n = l.length) (hB : B ≤ w.heap.size) (hbig : n ≤ 1000000) :
    Calls Try.prog 12 #[.slice (some a) n c] w (JoinPost l w) := by
  have HB := hide (fun o => (Below.refl w.heap.size w).alloc (Nat.le_refl _) o)
  have Hz := hide zBn_cells
  have Hl := hide h
  have Hok := hide hok
  have Hn := hide hn
  have Hf := hide hfr
  have hn0 : ¬ n = 0 := by rw [hn, hfr]; simp
  have hn0' : ¬ (n : Int) = 0 := by omega
  have hnp : (0 : Int) < (n : Int) := by omega
  have hnb : ((n : Int) == 0) = false := beq_eq_false_iff_ne.2 hn0'
  clear h hok hn hfr
  go_enter Try.func12, Try.ntmps12
  go_upto_region 1 with fail
  rw [← Hz.out]
  generalize hw1 : w.alloc (.cells zBn.cells.toArray 33) = w1
  have Hr1 := hide (show w1.heap[w.heap.size]? = some (.cells zBn.cells.toArray 33 (0, 0)) by rw [← hw1]; exact heap_alloc_last w _)
  have Hb1 := hide (show Below w.heap.size w w1 by rw [← hw1]; exact HB.out _)
  have hz1 : w.heap.size < w1.heap.size := by rw [← hw1]; simp
  clear hw1 HB
  go_wp2_with fail
  go_loopw [5, 6, 15] (fun s5 s6 s15 wr => ∃ k : Nat, k ≤ n ∧ s15 = .int .i64 (k : Int) ∧ Below w1.heap.size w1 wr ∧ Hid (fErr l = fErr (l.drop k))) (fun s5 s6 s15 wr => n - (intOf s15).toNat)
  case atStart => exact ⟨0, Nat.zero_le _, rfl, Below.refl _ _, hide rfl⟩
  case round =>
    obtain ⟨k, hk, rfl, hb, HF⟩ := hrel
    have Hb := hide hb
    have hzw := hb.size
    clear hb
    have HR := hide ((Hb.out.block w.heap.size hz1).trans Hr1.out)
    have Hbw := hide (Hb1.out.trans (Hb.out.mono (Nat.le_of_lt hz1)))
    by_cases hlt : k < n
    · have hlt' : (k : Int) < (n : Int) := by omega
      have hkl : k < l.length := by rw [← Hn.out]; exact hlt
      obtain ⟨a', ha', hab, hca⟩ := (Hl.out.below (Hbw.out.mono hB)).elem (f := Bn.cells) (m := 25) Bn.cells_len hkl (by omega)
      cases ha'
      have HF2 := hide (show fErr l = if l[k].check = 0 then fErr (l.drop (k + 1)) else l[k].check by rw [HF.out, fErr_drop hkl])
      have hokb := (Hok.out l[k] (List.getElem_mem hkl)).below (Hbw.out.mono hB)
      have Hca := hide hca
      clear hca HF
      generalize l[k] = b at *
      have FC := hide (bundleCheck_any b B (wr.alloc (.cells b.cells.toArray 33)) (hokb.below ((Below.refl B wr).alloc (by omega) _)) (by simp; omega))
      have HBa := hide ((Below.refl wr.heap.size wr).alloc (Nat.le_refl _) (.cells b.cells.toArray 33))
      clear hokb
      go_wp2_with (first
        | (with_reducible refine wpl_load_addr rfl 33 (.tmp 17) rfl (a.add (k * 25)) b.cells Hca.out rfl _ Try.underlying33 rfl 25 info33 (by with_unfolding_all rfl) ?_)
        | (with_reducible refine wpl_store_last wr rfl 33 (.tmp 5) (.tmp 18) rfl 33 _ b.cells.toArray rfl rfl 25 info33 (cells_size b) (by with_unfolding_all rfl) (cells_one b) ?_)
        | (with_reducible refine wpl_load_last wr rfl 33 (.tmp 5) rfl 33 b.cells.toArray _ rfl Try.underlying33 rfl (by rw [cells_size]; exact info33) ?_))
      refine FC.out.mono ?_
      rintro e w3 ⟨rfl, hb3⟩
      have Hb3 := hide (HBa.out.trans (hb3.mono (by simp)))
      have hz3 := Hb3.out.size
      have HR3 := hide ((Hb3.out.block w.heap.size (by omega)).trans HR.out)
      have Hbw3 := hide (Hbw.out.trans (Hb3.out.mono (by omega)))
      have Hbn3 := hide (Hb.out.trans (Hb3.out.mono hzw))
      clear hb3 FC HBa Hca HR Hbw Hb3
      by_cases hc0 : b.check = 0
      · have HF3 := hide (show fErr l = fErr (l.drop (k + 1)) by rw [HF2.out, if_pos hc0])
        clear HF2
        go_wp2
        go_roundw
        case rel => exact ⟨k + 1, by omega, by go_num, Hbn3.out, HF3⟩
        case measure => simp [intOf]; omega
      · have HF3 := hide (show fErr l = b.check by rw [HF2.out, if_neg hc0])
        have Hc0 := hide hc0
        generalize b.check = z at *
        clear HF2
        have HR := HR3
        go_wp2_with (with_reducible refine wpl_store_at rfl 33 (.tmp 2) (.tmp 23) rfl w.heap.size 33 _ _ HR3.out rfl rfl 25 info33 rfl (by with_unfolding_all rfl) rfl ?_; rw [← Hz.out]; have HrZ := hide (setRow_heap w3 w.heap.size _ zBn.cells.toArray _ _ HR3.out); have HbZ := hide (below_setRow Hbw3.out (Nat.le_refl _) zBn.cells.toArray); clear HR; generalize w3.setRow w.heap.size zBn.cells.toArray = wZ at *)
        refine end_cell_tmp rfl w.heap.size _ zBn.cells.toArray _ HrZ.out rfl Try.underlying33 rfl 25 info33 (cells_size _) (.int .i64 z) rfl ?_
        exact ⟨zBn, z, rfl, zBn_ok _ _, .inr (.inl ⟨by rw [HF3.out]; exact Hc0.out, rfl, HF3.out.symm⟩), HbZ.out⟩
    · have hlt' : ¬ (k : Int) < (n : Int) := by omega
      have HF0 := hide (show fErr l = 0 by rw [HF.out, List.drop_of_length_le (by rw [← Hn.out]; omega)]; rfl)
      have HC := hide (fun W (hb : Below w.heap.size w W) => first_cells Hf.out (Hl.out.below (hb.mono hB)))
      have hokf := hide (Hok.out f (by rw [Hf.out]; exact List.mem_cons_self))
      clear HF Hb Hb1 Hr1 hz1 hk hlt
      generalize wr = w3 at *
      by_cases h1 : n = 1
      · have h1b : ((n : Int) == 1) = true := by rw [h1]; rfl
        have H1 := hide h1
        have hlf : l = [f] := by
          have := Hn.out
          rw [h1, Hf.out, List.length_cons] at this
          rw [Hf.out, List.eq_nil_of_length_eq_zero (l := r) (by omega)]
        clear h1
        have FF := hide (fragment_any f.p w3 hokf.out.fl)
        have hca3 := HC.out w3 Hbw.out
        have Hp3 := hide (fun j v (hv : f.p.cells[j]? = some v) => hca3 j v (cells_p hv))
        clear hca3
        go_wp2_with (with_reducible refine wpl_load_addr_want ?_ 28 (.tmp 32) rfl a f.p.cells Hp3.out rfl _ Try.underlying28 rfl 19 info28 (by with_unfolding_all rfl) ?_)
        refine FF.out.mono ?_
        rintro e w4 ⟨rfl, hb4⟩
        by_cases hfl : f.p.fl % 2 = 1
        · rw [decide_eq_true hfl]
          simp only []
          have Hb := hide (Hbw.out.trans (hb4.mono Hbw.out.size))
          have HR4 := hide ((hb4.block w.heap.size (Array.getElem?_eq_some_iff.1 HR.out).1).trans HR.out)
          have HB := hide (show Base f r from ⟨by rw [← Hf.out]; exact HF0.out, fun ⟨b, hb, hb2⟩ => by rw [← Hf.out, hlf] at hb; injection hb with hb; rw [← hb] at hb2; exact hb2 hfl⟩)
          clear hb4 FF Hp3 hfl Hbw HR hlf
          have HR := HR4
          clear HR4
          generalize w4 = w3 at *
          have hsz3 := Hb.out.size
          have HC3 := hide (HC.out w3 Hb.out)
          have FCN := hide (containsN_any 37 #[.pointer (some ⟨w3.heap.size, 0, none⟩)] (fun args w => by rfl) (some a) n c B l (strangeB f) (w3.alloc (.cells f.cells.toArray 33)) ((Hl.out.below (Hb.out.mono hB)).alloc (by omega) _) Hn.out (by simp; omega) (by omega) (fun W hbW k hk => strange1_any l[k] f w3.heap.size W (Hok.out _ (List.getElem_mem hk)).fl hokf.out.fl (Hok.out _ (List.getElem_mem hk)).tot (Hok.out _ (List.getElem_mem hk)).data (fun hfl => Nat.le_of_lt (check_off (fErr_zero HF0.out _ (List.getElem_mem hk)) hfl)) (by have := hbW.size; simp at this; omega) (range_below (range_new w3 f.cells 33 (0, 0)) hbW (by simp))))
          have HBa := hide ((Below.refl w3.heap.size w3).alloc (Nat.le_refl _) (.cells f.cells.toArray 33))
          go_wp2_with (with_reducible refine wpl_load_addr rfl 33 (.tmp 43) rfl a f.cells HC3.out rfl _ Try.underlying33 rfl 25 info33 (by with_unfolding_all rfl) ?_)
          refine (strange_any f w3).mono ?_
          rintro e w4 ⟨rfl, hw4⟩
          subst hw4
          go_wp2_with fail
          refine FCN.out.mono ?_
          rintro e w5 ⟨rfl, hb5⟩
          have Hb5 := hide (Hb.out.trans ((HBa.out.trans (hb5.mono (by simp))).mono hsz3))
          have HR5 := hide (((HBa.out.trans (hb5.mono (by simp))).block w.heap.size (Array.getElem?_eq_some_iff.1 HR.out).1).trans HR.out)
          clear hb5 FCN HBa HC3 HR Hb
          cases hany : l.any (strangeB f) with
          | true =>
            have Hany := hide hany
            clear hany
            go_wp2_with (with_reducible refine wpl_store_at rfl 33 (.tmp 2) (.tmp 47) rfl w.heap.size 33 _ _ HR5.out rfl rfl 25 info33 rfl (by with_unfolding_all rfl) rfl ?_; rw [← Hz.out]; have HrZ := hide (setRow_heap w5 w.heap.size _ zBn.cells.toArray _ _ HR5.out); have HbZ := hide (below_setRow Hb5.out (Nat.le_refl _) zBn.cells.toArray); clear HR5; generalize w5.setRow w.heap.size zBn.cells.toArray = wZ at *)
            refine end_cell_tmp rfl w.heap.size _ zBn.cells.toArray _ HrZ.out rfl Try.underlying33 rfl 25 info33 (cells_size _) (.int .i64 6) rfl ?_
            exact ⟨zBn, 6, rfl, zBn_ok _ _, .inr (.inr (.inr ⟨f, r, Hf.out, HB.out, .inl ⟨Hany.out, rfl, rfl⟩⟩)), HbZ.out⟩
          | false =>
            have HFit := hide (none_strange hany HF0.out)
            have Hany := hide hany
            have FT := hide (together_any f.p.tot a n c B l w5 (Hl.out.below (Hb5.out.mono hB)) Hn.out (Nat.le_trans hB Hb5.out.size) hbig (by omega) (HFit.out f (by rw [Hf.out]; exact List.mem_cons_self)).most (fun b hb => by rw [Hf.out] at hb; injection hb with hb; rw [hb]) (fun b hb => ⟨(HFit.out b hb).off, (HFit.out b hb).end_⟩))
            clear hany
            go_wp2_with fail
            refine FT.out.mono ?_
            intro e w6 hT
            unfold TogPost at hT
            rcases hT with ⟨rfl, hcl, hb6⟩ | ⟨data, rfl, hdl, hD, hnc, hat, hb6⟩
            · have Hcl := hide hcl
              have Hb6 := hide (Hb5.out.trans (hb6.mono Hb5.out.size))
              have HR6 := hide ((hb6.block w.heap.size (Array.getElem?_eq_some_iff.1 HR5.out).1).trans HR5.out)
              clear hcl hb6 HR5 Hb5 FT
              go_wp2_with (with_reducible refine wpl_store_at rfl 33 (.tmp 2) (.tmp 56) rfl w.heap.size 33 _ _ HR6.out rfl rfl 25 info33 rfl (by with_unfolding_all rfl) rfl ?_; rw [← Hz.out]; have HrZ := hide (setRow_heap w6 w.heap.size _ zBn.cells.toArray _ _ HR6.out); have HbZ := hide (below_setRow Hb6.out (Nat.le_refl _) zBn.cells.toArray); clear HR6; generalize w6.setRow w.heap.size zBn.cells.toArray = wZ at *)
              refine end_cell_tmp rfl w.heap.size _ zBn.cells.toArray _ HrZ.out rfl Try.underlying33 rfl 25 info33 (cells_size _) (.int .i64 6) rfl ?_
              exact ⟨zBn, 6, rfl, zBn_ok _ _, .inr (.inr (.inr ⟨f, r, Hf.out, HB.out, .inr ⟨Hany.out, .inl ⟨Hcl.out, rfl, rfl⟩⟩⟩)), HbZ.out⟩
            · have Hb6 := hide (Hb5.out.trans (hb6.mono Hb5.out.size))
              have HR6 := hide ((hb6.block w.heap.size (Array.getElem?_eq_some_iff.1 HR5.out).1).trans HR5.out)
              have HD := hide hD
              have Hnc := hide hnc
              have Hat := hide hat
              have Hdl := hide hdl
              have FH := hide (holes_any f.p.tot a n c B l w6 (Hl.out.below (Hb6.out.mono hB)) Hn.out (Nat.le_trans hB Hb6.out.size) hbig (by omega) hokf.out.tot (fun b hb => ⟨(Hok.out b hb).off, (Hok.out b hb).data⟩))
              have c18 : w6.cell? ⟨a.block, a.off + 18, none⟩ = some (.int .u64 (f.p.tot : Int)) := HC.out w6 Hb6.out 18 _ rfl
              generalize w5.heap.size = g5 at *
              clear hb6 HR5 Hb5 FT hD hnc hat hdl
              go_wp2_with fail
              refine FH.out.mono ?_
              intro e w7 hH
              unfold HolePost at hH
              obtain ⟨σ, s, A2, m2, c2, hR, hsl, hsk, rfl, hm, _, hb7⟩ := hH
              have Hb7 := hide (Hb6.out.trans (hb7.mono Hb6.out.size))
              have HR7 := hide ((hb7.block w.heap.size (Array.getElem?_eq_some_iff.1 HR6.out).1).trans HR6.out)
              have HD7 := hide (HD.out.below hb7)
              have Hgap := hide (holes_nil (t := f.p.tot) (hR.sorted hsl hsk))
              have hsz6 := Hb6.out.size
              have hsz7 := hb7.size
              clear hR hsl hsk hb7 HR6 HD FH c18
              by_cases hm0 : m2 = 0
              · have HnG := hide (Hgap.out.1 (List.eq_nil_of_length_eq_zero (hm.symm.trans hm0)))
                have hm0' : ¬ (0 : Int) < (m2 : Int) := by omega
                obtain ⟨b, hbl, hb0⟩ : ∃ b ∈ l, b.p.off = 0 := by
                  apply Classical.byContradiction
                  intro hno
                  refine HnG.out ⟨0, Nat.lt_of_le_of_lt (Nat.zero_le _) (HFit.out f (by rw [Hf.out]; exact List.mem_cons_self)).off, fun b hb => (has_false b 0).2 fun hx => hno ⟨b, hb, by omega⟩⟩
                have hany0 : l.any (fun b => decide (b.p.off = 0)) = true := List.any_eq_true.2 ⟨b, hbl, decide_eq_true hb0⟩
                have hjl : l.findIdx (fun b => decide (b.p.off = 0)) < l.length := List.findIdx_lt_length_of_exists ⟨b, hbl, decide_eq_true hb0⟩
                have hj0 := List.findIdx_getElem (w := hjl)
                obtain ⟨j, hj⟩ : ∃ j, j = l.findIdx (fun b => decide (b.p.off = 0)) := ⟨_, rfl⟩
                simp only [← hj, decide_eq_true_iff] at hjl hj0
                clear hbl hb0 b
                obtain ⟨b, hb⟩ : ∃ b, l[j] = b := ⟨_, rfl⟩
                rw [hb] at hj0
                have Hbl := hide (show b ∈ l by rw [← hb]; exact List.getElem_mem _)
                have Hb0 := hide hj0
                have FW := hide (fwhole_any a n c B l w7 (Hl.out.below (Hb7.out.mono hB)) Hn.out (Nat.le_trans hB Hb7.out.size) hbig j hjl hany0 hj.symm b hb ((Hok.out b Hbl.out).below (Hb7.out.mono hB)) (some ⟨g5, 0, none⟩) f.p.tot f.p.tot w6.heap.size data HD7.out Hdl.out.symm hsz7 (by rw [Hdl.out]; have := (HFit.out f (by rw [Hf.out]; exact List.mem_cons_self)).most; omega))
                clear hm hm0 Hgap hany0 hjl hj0 hj hb
                go_wp2_with fail
                refine FW.out.mono ?_
                rintro e w8 ⟨A1, c1, rfl, hok8, hb8, hab8⟩
                have hlt4 : w.heap.size < w7.heap.size := (Array.getElem?_eq_some_iff.1 HR7.out).1
                have Hab5 := hide hab8
                have Hok8 := hide hok8
                have Hb8 := hide (Hb7.out.trans (hb8.mono Hb7.out.size))
                have HR8 := hide ((hb8.block w.heap.size (Array.getElem?_eq_some_iff.1 HR7.out).1).trans HR7.out)
                clear hok8 hb8 hab8 FW HD7 HR7 Hb7
                obtain ⟨X, hX⟩ : ∃ X, X = ({ b with p := b.p.whole, A := A1, c := c1, pay := { b.pay with data := str data } } : Bn) := ⟨_, rfl⟩
                rw [← hX] at Hok8
                have HX := hide hX
                have Habv := hide (show ∀ a, X.A = some a → a.block ≠ w.heap.size by rw [hX]; intro a ha; have := Hab5.out a ha; omega)
                rw [show Bn.val ({ b with p := b.p.whole, A := A1, c := c1, pay := { b.pay with data := str data } } : Bn) = .agg X.cells.toArray by rw [hX]; rfl]
                simp only []
                go_wp2_with (with_reducible refine wpl_store_at rfl 33 (.tmp 2) (.tmp 70) rfl w.heap.size 33 _ X.cells.toArray HR8.out rfl rfl 25 info33 (cells_size X) (by with_unfolding_all rfl) (cells_one X) ?_; have HrZ := hide (setRow_heap w8 w.heap.size _ X.cells.toArray _ _ HR8.out); have HbZ := hide (below_setRow Hb8.out (Nat.le_refl _) X.cells.toArray); have HokZ := hide (show X.Ok (w8.setRow w.heap.size X.cells.toArray) (w8.setRow w.heap.size X.cells.toArray).heap.size from { Hok8.out with lies := Lies.up (Lies.setRow Hok8.out.lies (fun a ha => Habv.out a ha) X.cells.toArray) (by simp) }); clear HR8 Hb8 Hok8; generalize w8.setRow w.heap.size X.cells.toArray = wZ at *)
                refine end_cell_tmp rfl w.heap.size _ X.cells.toArray _ HrZ.out rfl Try.underlying33 rfl 25 info33 (cells_size _) (.int .i64 0) rfl ?_
                refine ⟨X, 0, rfl, HokZ.out, ?_, HbZ.out⟩
                rw [HX.out]
                exact .inr (.inr (.inr ⟨f, r, Hf.out, HB.out, .inr ⟨Hany.out, .inr (.inr ⟨Hnc.out, HnG.out, rfl, b, A1, c1, data, Hbl.out, Hb0.out, rfl, Hdl.out, Hat.out⟩)⟩⟩))
          
              · have HG := hide (show Gap f.p.tot l from Classical.byContradiction fun h => hm0 (by rw [hm, Hgap.out.2 h]; rfl))
                have hm0' : (0 : Int) < (m2 : Int) := by omega
                clear hm hm0 Hgap
                go_wp2_with (with_reducible refine wpl_store_at rfl 33 (.tmp 2) (.tmp 67) rfl w.heap.size 33 _ _ HR7.out rfl rfl 25 info33 rfl (by with_unfolding_all rfl) rfl ?_; rw [← Hz.out]; have HrZ := hide (setRow_heap w7 w.heap.size _ zBn.cells.toArray _ _ HR7.out); have HbZ := hide (below_setRow Hb7.out (Nat.le_refl _) zBn.cells.toArray); clear HR7; generalize w7.setRow w.heap.size zBn.cells.toArray = wZ at *)
                refine end_cell_tmp rfl w.heap.size _ zBn.cells.toArray _ HrZ.out rfl Try.underlying33 rfl 25 info33 (cells_size _) (.int .i64 8) rfl ?_
                exact ⟨zBn, 8, rfl, zBn_ok _ _, .inr (.inr (.inr ⟨f, r, Hf.out, HB.out, .inr ⟨Hany.out, .inr (.inl ⟨Hnc.out, HG.out, rfl, rfl⟩)⟩⟩)), HbZ.out⟩
        · rw [decide_eq_false hfl]
          simp only []
          have Hb4 := hide (Hbw.out.trans (hb4.mono Hbw.out.size))
          have HR4 := hide ((hb4.block w.heap.size (Array.getElem?_eq_some_iff.1 HR.out).1).trans HR.out)
          have HC4 := hide (HC.out w4 Hb4.out)
          have FC := hide (clone_any f B w4 (hokf.out.below (Hb4.out.mono hB)) (Nat.le_trans hB Hb4.out.size))
          have Hlf := hide hlf
          have Hfl := hide hfl
          clear hb4 FF Hp3 hfl Hbw HR hlf HC
          go_wp2_with (with_reducible refine wpl_load_addr rfl 33 (.tmp 38) rfl a f.cells HC4.out rfl _ Try.underlying33 rfl 25 info33 (by with_unfolding_all rfl) ?_)
          refine FC.out.mono ?_
          rintro e w5 ⟨A1, c1, rfl, hok5, hb5, hab5⟩
          have Hok5 := hide hok5
          have hlt4 : w.heap.size < w4.heap.size := (Array.getElem?_eq_some_iff.1 HR4.out).1
          have Hab5 := hide hab5
          clear hab5
          have Hb5 := hide (Hb4.out.trans (hb5.mono Hb4.out.size))
          have HR5 := hide ((hb5.block w.heap.size (Array.getElem?_eq_some_iff.1 HR4.out).1).trans HR4.out)
          clear hok5 hb5 HR4 Hb4 HC4 FC
          obtain ⟨X, hX⟩ : ∃ X, X = ({ f with A := A1, c := c1 } : Bn) := ⟨_, rfl⟩
          rw [← hX] at Hok5
          have HX := hide hX
          have Habv := hide (show ∀ a, X.A = some a → a.block ≠ w.heap.size by rw [hX]; intro a ha; have := Hab5.out a ha; omega)
          rw [show Bn.val ({ f with A := A1, c := c1 } : Bn) = .agg X.cells.toArray by rw [hX]; rfl]
          simp only []
          go_wp2_with (with_reducible refine wpl_store_at rfl 33 (.tmp 2) (.tmp 40) rfl w.heap.size 33 _ X.cells.toArray HR5.out rfl rfl 25 info33 (cells_size X) (by with_unfolding_all rfl) (cells_one X) ?_; have HrZ := hide (setRow_heap w5 w.heap.size _ X.cells.toArray _ _ HR5.out); have HbZ := hide (below_setRow Hb5.out (Nat.le_refl _) X.cells.toArray); have HokZ := hide (show X.Ok (w5.setRow w.heap.size X.cells.toArray) (w5.setRow w.heap.size X.cells.toArray).heap.size from { Hok5.out with lies := Lies.up (Lies.setRow Hok5.out.lies (fun a ha => Habv.out a ha) X.cells.toArray) (by simp) }); clear HR5 Hb5 Hok5; generalize w5.setRow w.heap.size X.cells.toArray = wZ at *)
          refine end_cell_tmp rfl w.heap.size _ X.cells.toArray _ HrZ.out rfl Try.underlying33 rfl 25 info33 (cells_size _) (.int .i64 0) rfl ?_
          refine ⟨X, 0, rfl, HokZ.out, ?_, HbZ.out⟩
          rw [HX.out]
          exact .inr (.inr (.inl ⟨f, A1, c1, Hlf.out, HF0.out, Hfl.out, rfl, rfl⟩))
      · have h1' : ¬ (n : Int) = 1 := by omega
        have h1b : ((n : Int) == 1) = false := beq_eq_false_iff_ne.2 h1'
        have HB := hide (show Base f r from ⟨by rw [← Hf.out]; exact HF0.out, fun ⟨b, hb, hb2⟩ => by rw [← Hf.out] at hb; have := Hn.out; rw [hb] at this; exact h1 this⟩)
        have Hb := Hbw
        clear Hbw h1
        have hsz3 := Hb.out.size
        have HC3 := hide (HC.out w3 Hb.out)
        have FCN := hide (containsN_any 37 #[.pointer (some ⟨w3.heap.size, 0, none⟩)] (fun args w => by rfl) (some a) n c B l (strangeB f) (w3.alloc (.cells f.cells.toArray 33)) ((Hl.out.below (Hb.out.mono hB)).alloc (by omega) _) Hn.out (by simp; omega) (by omega) (fun W hbW k hk => strange1_any l[k] f w3.heap.size W (Hok.out _ (List.getElem_mem hk)).fl hokf.out.fl (Hok.out _ (List.getElem_mem hk)).tot (Hok.out _ (List.getElem_mem hk)).data (fun hfl => Nat.le_of_lt (check_off (fErr_zero HF0.out _ (List.getElem_mem hk)) hfl)) (by have := hbW.size; simp at this; omega) (range_below (range_new w3 f.cells 33 (0, 0)) hbW (by simp))))
        have HBa := hide ((Below.refl w3.heap.size w3).alloc (Nat.le_refl _) (.cells f.cells.toArray 33))
        go_wp2_with (with_reducible refine wpl_load_addr rfl 33 (.tmp 43) rfl a f.cells HC3.out rfl _ Try.underlying33 rfl 25 info33 (by with_unfolding_all rfl) ?_)
        refine (strange_any f w3).mono ?_
        rintro e w4 ⟨rfl, hw4⟩
        subst hw4
        go_wp2_with fail
        refine FCN.out.mono ?_
        rintro e w5 ⟨rfl, hb5⟩
        have Hb5 := hide (Hb.out.trans ((HBa.out.trans (hb5.mono (by simp))).mono hsz3))
        have HR5 := hide (((HBa.out.trans (hb5.mono (by simp))).block w.heap.size (Array.getElem?_eq_some_iff.1 HR.out).1).trans HR.out)
        clear hb5 FCN HBa HC3 HR Hb
        cases hany : l.any (strangeB f) with
        | true =>
          have Hany := hide hany
          clear hany
          go_wp2_with (with_reducible refine wpl_store_at rfl 33 (.tmp 2) (.tmp 47) rfl w.heap.size 33 _ _ HR5.out rfl rfl 25 info33 rfl (by with_unfolding_all rfl) rfl ?_; rw [← Hz.out]; have HrZ := hide (setRow_heap w5 w.heap.size _ zBn.cells.toArray _ _ HR5.out); have HbZ := hide (below_setRow Hb5.out (Nat.le_refl _) zBn.cells.toArray); clear HR5; generalize w5.setRow w.heap.size zBn.cells.toArray = wZ at *)
          refine end_cell_tmp rfl w.heap.size _ zBn.cells.toArray _ HrZ.out rfl Try.underlying33 rfl 25 info33 (cells_size _) (.int .i64 6) rfl ?_
          exact ⟨zBn, 6, rfl, zBn_ok _ _, .inr (.inr (.inr ⟨f, r, Hf.out, HB.out, .inl ⟨Hany.out, rfl, rfl⟩⟩)), HbZ.out⟩
        | false =>
          have HFit := hide (none_strange hany HF0.out)
          have Hany := hide hany
          have FT := hide (together_any f.p.tot a n c B l w5 (Hl.out.below (Hb5.out.mono hB)) Hn.out (Nat.le_trans hB Hb5.out.size) hbig (by omega) (HFit.out f (by rw [Hf.out]; exact List.mem_cons_self)).most (fun b hb => by rw [Hf.out] at hb; injection hb with hb; rw [hb]) (fun b hb => ⟨(HFit.out b hb).off, (HFit.out b hb).end_⟩))
          clear hany
          go_wp2_with fail
          refine FT.out.mono ?_
          intro e w6 hT
          unfold TogPost at hT
          rcases hT with ⟨rfl, hcl, hb6⟩ | ⟨data, rfl, hdl, hD, hnc, hat, hb6⟩
          · have Hcl := hide hcl
            have Hb6 := hide (Hb5.out.trans (hb6.mono Hb5.out.size))
            have HR6 := hide ((hb6.block w.heap.size (Array.getElem?_eq_some_iff.1 HR5.out).1).trans HR5.out)
            clear hcl hb6 HR5 Hb5 FT
            go_wp2_with (with_reducible refine wpl_store_at rfl 33 (.tmp 2) (.tmp 56) rfl w.heap.size 33 _ _ HR6.out rfl rfl 25 info33 rfl (by with_unfolding_all rfl) rfl ?_; rw [← Hz.out]; have HrZ := hide (setRow_heap w6 w.heap.size _ zBn.cells.toArray _ _ HR6.out); have HbZ := hide (below_setRow Hb6.out (Nat.le_refl _) zBn.cells.toArray); clear HR6; generalize w6.setRow w.heap.size zBn.cells.toArray = wZ at *)
            refine end_cell_tmp rfl w.heap.size _ zBn.cells.toArray _ HrZ.out rfl Try.underlying33 rfl 25 info33 (cells_size _) (.int .i64 6) rfl ?_
            exact ⟨zBn, 6, rfl, zBn_ok _ _, .inr (.inr (.inr ⟨f, r, Hf.out, HB.out, .inr ⟨Hany.out, .inl ⟨Hcl.out, rfl, rfl⟩⟩⟩)), HbZ.out⟩
          · have Hb6 := hide (Hb5.out.trans (hb6.mono Hb5.out.size))
            have HR6 := hide ((hb6.block w.heap.size (Array.getElem?_eq_some_iff.1 HR5.out).1).trans HR5.out)
            have HD := hide hD
            have Hnc := hide hnc
            have Hat := hide hat
            have Hdl := hide hdl
            have FH := hide (holes_any f.p.tot a n c B l w6 (Hl.out.below (Hb6.out.mono hB)) Hn.out (Nat.le_trans hB Hb6.out.size) hbig (by omega) hokf.out.tot (fun b hb => ⟨(Hok.out b hb).off, (Hok.out b hb).data⟩))
            have c18 : w6.cell? ⟨a.block, a.off + 18, none⟩ = some (.int .u64 (f.p.tot : Int)) := HC.out w6 Hb6.out 18 _ rfl
            generalize w5.heap.size = g5 at *
            clear hb6 HR5 Hb5 FT hD hnc hat hdl
            go_wp2_with fail
            refine FH.out.mono ?_
            intro e w7 hH
            unfold HolePost at hH
            obtain ⟨σ, s, A2, m2, c2, hR, hsl, hsk, rfl, hm, _, hb7⟩ := hH
            have Hb7 := hide (Hb6.out.trans (hb7.mono Hb6.out.size))
            have HR7 := hide ((hb7.block w.heap.size (Array.getElem?_eq_some_iff.1 HR6.out).1).trans HR6.out)
            have HD7 := hide (HD.out.below hb7)
            have Hgap := hide (holes_nil (t := f.p.tot) (hR.sorted hsl hsk))
            have hsz6 := Hb6.out.size
            have hsz7 := hb7.size
            clear hR hsl hsk hb7 HR6 HD FH c18
            by_cases hm0 : m2 = 0
            · have HnG := hide (Hgap.out.1 (List.eq_nil_of_length_eq_zero (hm.symm.trans hm0)))
              have hm0' : ¬ (0 : Int) < (m2 : Int) := by omega
              obtain ⟨b, hbl, hb0⟩ : ∃ b ∈ l, b.p.off = 0 := by
                apply Classical.byContradiction
                intro hno
                refine HnG.out ⟨0, Nat.lt_of_le_of_lt (Nat.zero_le _) (HFit.out f (by rw [Hf.out]; exact List.mem_cons_self)).off, fun b hb => (has_false b 0).2 fun hx => hno ⟨b, hb, by omega⟩⟩
              have hany0 : l.any (fun b => decide (b.p.off = 0)) = true := List.any_eq_true.2 ⟨b, hbl, decide_eq_true hb0⟩
              have hjl : l.findIdx (fun b => decide (b.p.off = 0)) < l.length := List.findIdx_lt_length_of_exists ⟨b, hbl, decide_eq_true hb0⟩
              have hj0 := List.findIdx_getElem (w := hjl)
              obtain ⟨j, hj⟩ : ∃ j, j = l.findIdx (fun b => decide (b.p.off = 0)) := ⟨_, rfl⟩
              simp only [← hj, decide_eq_true_iff] at hjl hj0
              clear hbl hb0 b
              obtain ⟨b, hb⟩ : ∃ b, l[j] = b := ⟨_, rfl⟩
              rw [hb] at hj0
              have Hbl := hide (show b ∈ l by rw [← hb]; exact List.getElem_mem _)
              have Hb0 := hide hj0
              have FW := hide (fwhole_any a n c B l w7 (Hl.out.below (Hb7.out.mono hB)) Hn.out (Nat.le_trans hB Hb7.out.size) hbig j hjl hany0 hj.symm b hb ((Hok.out b Hbl.out).below (Hb7.out.mono hB)) (some ⟨g5, 0, none⟩) f.p.tot f.p.tot w6.heap.size data HD7.out Hdl.out.symm hsz7 (by rw [Hdl.out]; have := (HFit.out f (by rw [Hf.out]; exact List.mem_cons_self)).most; omega))
              clear hm hm0 Hgap hany0 hjl hj0 hj hb
              go_wp2_with fail
              refine FW.out.mono ?_
              rintro e w8 ⟨A1, c1, rfl, hok8, hb8, hab8⟩
              have hlt4 : w.heap.size < w7.heap.size := (Array.getElem?_eq_some_iff.1 HR7.out).1
              have Hab5 := hide hab8
              have Hok8 := hide hok8
              have Hb8 := hide (Hb7.out.trans (hb8.mono Hb7.out.size))
              have HR8 := hide ((hb8.block w.heap.size (Array.getElem?_eq_some_iff.1 HR7.out).1).trans HR7.out)
              clear hok8 hb8 hab8 FW HD7 HR7 Hb7
              obtain ⟨X, hX⟩ : ∃ X, X = ({ b with p := b.p.whole, A := A1, c := c1, pay := { b.pay with data := str data } } : Bn) := ⟨_, rfl⟩
              rw [← hX] at Hok8
              have HX := hide hX
              have Habv := hide (show ∀ a, X.A = some a → a.block ≠ w.heap.size by rw [hX]; intro a ha; have := Hab5.out a ha; omega)
              rw [show Bn.val ({ b with p := b.p.whole, A := A1, c := c1, pay := { b.pay with data := str data } } : Bn) = .agg X.cells.toArray by rw [hX]; rfl]
              simp only []
              go_wp2_with (with_reducible refine wpl_store_at rfl 33 (.tmp 2) (.tmp 70) rfl w.heap.size 33 _ X.cells.toArray HR8.out rfl rfl 25 info33 (cells_size X) (by with_unfolding_all rfl) (cells_one X) ?_; have HrZ := hide (setRow_heap w8 w.heap.size _ X.cells.toArray _ _ HR8.out); have HbZ := hide (below_setRow Hb8.out (Nat.le_refl _) X.cells.toArray); have HokZ := hide (show X.Ok (w8.setRow w.heap.size X.cells.toArray) (w8.setRow w.heap.size X.cells.toArray).heap.size from { Hok8.out with lies := Lies.up (Lies.setRow Hok8.out.lies (fun a ha => Habv.out a ha) X.cells.toArray) (by simp) }); clear HR8 Hb8 Hok8; generalize w8.setRow w.heap.size X.cells.toArray = wZ at *)
              refine end_cell_tmp rfl w.heap.size _ X.cells.toArray _ HrZ.out rfl Try.underlying33 rfl 25 info33 (cells_size _) (.int .i64 0) rfl ?_
              refine ⟨X, 0, rfl, HokZ.out, ?_, HbZ.out⟩
              rw [HX.out]
              exact .inr (.inr (.inr ⟨f, r, Hf.out, HB.out, .inr ⟨Hany.out, .inr (.inr ⟨Hnc.out, HnG.out, rfl, b, A1, c1, data, Hbl.out, Hb0.out, rfl, Hdl.out, Hat.out⟩)⟩⟩))
        
            · have HG := hide (show Gap f.p.tot l from Classical.byContradiction fun h => hm0 (by rw [hm, Hgap.out.2 h]; rfl))
              have hm0' : (0 : Int) < (m2 : Int) := by omega
              clear hm hm0 Hgap
              go_wp2_with (with_reducible refine wpl_store_at rfl 33 (.tmp 2) (.tmp 67) rfl w.heap.size 33 _ _ HR7.out rfl rfl 25 info33 rfl (by with_unfolding_all rfl) rfl ?_; rw [← Hz.out]; have HrZ := hide (setRow_heap w7 w.heap.size _ zBn.cells.toArray _ _ HR7.out); have HbZ := hide (below_setRow Hb7.out (Nat.le_refl _) zBn.cells.toArray); clear HR7; generalize w7.setRow w.heap.size zBn.cells.toArray = wZ at *)
              refine end_cell_tmp rfl w.heap.size _ zBn.cells.toArray _ HrZ.out rfl Try.underlying33 rfl 25 info33 (cells_size _) (.int .i64 8) rfl ?_
              exact ⟨zBn, 8, rfl, zBn_ok _ _, .inr (.inr (.inr ⟨f, r, Hf.out, HB.out, .inr ⟨Hany.out, .inr (.inl ⟨Hnc.out, HG.out, rfl, rfl⟩)⟩⟩)), HbZ.out⟩

end Go.Proofs.Ytlbgcbekjjkokaa
