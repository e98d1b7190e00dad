/-
  CONTRACTS of package nand: begin, and the functions that program and erase make.
  ROWS OF STRUCTS as cells; loads of a whole element. Nothing here speaks of one function.
-/
import Derived.Test.YtahipfmokbiklaaDev2
import Derived.Deep.RegionLaw
import Derived.Test.YtahipfmokbiklaaBits
import Derived.Deep.WholeRow
import Derived.Deep.MidRow
namespace Go.Proofs.Ytahipfmokbiklaa
section
open Go.RowKit

theorem noFaultZ (W : World) : (zeroValue 122).run Try.prog W = .ok noFault W := by kernel_rfl

section
variable {w : World} {B0 B : Nat} {D : Dv} {k kb kp km : Nat}

/-- A fault looked for: what the map holds of it. -/
theorem FaultsAt.look {F : Int → Int × List UInt8} (h : FaultsAt w B km F) (a : Int) (ha : i64s_ok a) : ∃ A m c, m = (F a).2.length ∧ LiesT w B A (F a).2 ∧
    ∀ W, W.heap[km]? = w.heap[km]? → (Instr.lookup 92 (.map (some km)) (.int .i64 a) false).run Try.prog W = .ok (.agg #[.int .i64 (F a).1, .slice A m c]) W := by
  obtain ⟨_, n, M, ⟨es, clock, hb, r⟩, hF⟩ := h
  obtain ⟨A, m, c, h1, h2, h3⟩ := hF a ha
  refine ⟨A, m, c, h2, h3, fun W hW => ?_⟩
  have hown : W.ownsMap Try.prog 3 anyV km n M := ⟨es, clock, hW.trans hb, r⟩
  obtain ⟨v, ps, hr, hv⟩ := hown.lookup intKeyed Try.underlying92 (noFaultZ W) (zd := .held noFault) (zp := []) rfl (keyN ha)
  rw [hr]
  unfold anyV at hv
  rw [h1] at hv
  simp only [Option.some.injEq, Prod.mk.injEq, DataW.held.injEq] at hv
  rw [hv.1]

theorem DevAt.tch_cell {w' : World} (ht : Tch [k, kb, kp] w w') {p : Addr} {v : Value} (hp : p.block ∉ [k, kb, kp]) (h : w.cell? p = some v) : w'.cell? p = some v := by
  have := World.block_lt_of_cell? w p h
  exact (World.cell?_of_block (ht.block _ this hp)).trans h
theorem DevAt.mask_tch (h : DevAt w B0 B D k kb kp km) (hB : B ≤ w.heap.size) {w' : World} {A : Option Addr} {l : List UInt8} (hl : LiesT w B A l) (ht : Tch [k, kb, kp] w w') : LiesT w' w'.heap.size A l := by
  obtain ⟨cb, h1, _⟩ := h.blocks
  obtain ⟨cp, h2, _⟩ := h.pages
  have h0 := h.box
  refine (hl.kept (fun b hb ⟨cs, fr, hc⟩ => ht.block b (by omega) ?_)).up (Nat.le_trans hB ht.size)
  simp only [List.mem_cons, List.not_mem_nil, or_false, not_or]
  refine ⟨?_, ?_, ?_⟩ <;> rintro rfl
  · rw [h0] at hc; simp at hc
  · rw [h1] at hc; simp at hc
  · rw [h2] at hc; simp at hc
theorem DevAt.alloc (h : DevAt w B0 B D k kb kp km) (hB : B ≤ w.heap.size) (o : Obj) : DevAt (w.alloc o) B0 B D k kb kp km := h.below ((Below.refl B w).alloc hB o)
theorem DevAt.drew (h : DevAt w B0 B D k kb kp km) : DevAt w.drew B0 B D k kb kp km := h.below (Below.refl B w).drew
theorem Tch.alloc {S : List Nat} {a b : World} (h : Tch S a b) (o : Obj) : Tch S a (b.alloc o) :=
  h.trans ⟨rfl, rfl, rfl, by simp, fun k hk _ => Below.heap_alloc _ _ _ hk⟩

set_option maxRecDepth 4000 in
set_option maxHeartbeats 1000000 in
theorem begin_any (h : DevAt w B0 B D k kb kp km) (hB : B ≤ w.heap.size) (hops : D.ops < 1000000) :
    Calls Try.prog 47 #[.pointer (some ⟨k, 0, none⟩)] w fun e w' => ∃ A m c, e = .returned (.tuple #[.slice A m c, .int .i64 D.err]) ∧ m = D.mask.length ∧ LiesT w' w'.heap.size A D.mask ∧
      DevAt w' B0 B D.begun k kb kp km ∧ Tch [k, kb, kp] w w' := by
  obtain ⟨A, m, c, hm, hl, hlook⟩ := h.faults.look (D.ops : Int) (by unfold i64s_ok; omega)
  have hkm := h.faults.1
  have hk := h.hi.1
  have hk0 : k < w.heap.size := by omega
  have l0 := hlook w.drew rfl
  have l1 := hlook (w.alloc (.cells #[.int .i64 0, .slice none 0 0] 122)).drew (Below.heap_alloc _ _ _ (by show km < w.heap.size; omega))
  have c5 := h.c5
  have c6 := h.c6
  have f6 := h.f 6
  have f7 := h.f 7
  have c7 := h.c7
  have e1 : wrap64 ((D.ops : Int) + 1) = ((D.ops + 1 : Nat) : Int) := by rw [i64w (by omega)]; rfl
  have d1 := h.set_ops hB (D.ops + 1) (by omega)
  rw [show ((D.ops + 1 : Nat) : Int) = (D.ops : Int) + 1 by omega] at d1
  have Hd2 := hide (d1.set_down (by simpa [World.setCell] using hB) true)
  have Hd := hide d1
  have ht1 : Tch [k, kb, kp] w (w.setCell ⟨k, 6, none⟩ (.int .i64 ((D.ops : Int) + 1))) := Tch.set (by simp) _
  have Ht2 := hide (ht1.trans (Tch.set (p := ⟨k, 7, none⟩) (by simp) (.bool true)))
  have Ht := hide ht1
  clear d1 ht1
  have Hm := hide hm
  have Hl := hide (fun W (ht : Tch [k, kb, kp] w W) => h.mask_tch hB hl ht)
  have HB := hide hB
  have Hk := hide (show D.kind = (D.ft (D.ops : Int)).1 from rfl)
  rw [← Hk.out] at l0 l1
  clear hlook h hm hl hkm hk hB
  go_enter Try.func47, Try.ntmps47
  go_wp2
  go_region
  all_goals go_wp2
  all_goals first
    | (rename_i h1
       have h1 : D.kind = 1 := by simpa using h1
       refine bodyPost_ret (results_tmp2 rfl _ _ _) rfl ⟨A, m, c, ?_, ?_, ?_, ?_, ?_⟩
       · rw [show D.err = 10 from if_pos h1]; rfl
       · rw [show D.mask = (D.ft (D.ops : Int)).2 from if_pos (.inl h1)]; exact Hm.out
       · rw [show D.mask = (D.ft (D.ops : Int)).2 from if_pos (.inl h1)]
         exact Hl.out _ (Ht.out.alloc _).drew
       · rw [show D.begun = { D with ops := D.ops + 1 } by unfold Dv.begun; rw [if_pos h1]]
         exact (Hd.out.alloc (by simpa [World.setCell] using HB.out) _).drew
       · exact (Ht.out.alloc _).drew)
    | (rename_i h1 h2
       have h1 : ¬ D.kind = 1 := by simpa using h1
       have h2 : D.kind = 2 := by simpa using h2
       refine bodyPost_ret (results_tmp2 rfl _ _ _) rfl ⟨A, m, c, ?_, ?_, ?_, ?_, ?_⟩
       · rw [show D.err = 9 by unfold Dv.err; rw [if_neg h1, if_pos h2]]; rfl
       · rw [show D.mask = (D.ft (D.ops : Int)).2 from if_pos (.inr h2)]; exact Hm.out
       · rw [show D.mask = (D.ft (D.ops : Int)).2 from if_pos (.inr h2)]
         exact Hl.out _ (Ht2.out.alloc _).drew
       · rw [show D.begun = { D with ops := D.ops + 1, dn := true } by unfold Dv.begun; rw [if_neg h1, if_pos h2]]
         exact (Hd2.out.alloc (by simpa [World.setCell] using HB.out) _).drew
       · exact (Ht2.out.alloc _).drew)
    | (rename_i h1 h2
       have h1 : ¬ D.kind = 1 := by simpa using h1
       have h2 : ¬ D.kind = 2 := by simpa using h2
       refine bodyPost_ret (results_tmp2 rfl _ _ _) rfl ⟨some ⟨w.heap.size + 1, 0, none⟩, 1, 1, ?_, ?_, ?_, ?_, ?_⟩
       · rw [show D.err = 0 by unfold Dv.err; rw [if_neg h1, if_neg h2]]; rfl
       · rw [show D.mask = [255] from if_neg (fun h => h.elim h1 h2)]; rfl
       · rw [show D.mask = [255] from if_neg (fun h => h.elim h1 h2)]
         exact (LiesT.new _ [255] _ rfl _ _ (by simp [World.setCell]) (by simp [World.setCell, World.drew])).drew
       · rw [show D.begun = { D with ops := D.ops + 1 } by unfold Dv.begun; rw [if_neg h1, if_neg h2]]
         exact ((Hd.out.alloc (by simpa [World.setCell] using HB.out) _).alloc (by simp [World.setCell]; have := HB.out; omega) _).drew
       · exact ((Ht.out.alloc _).alloc _).drew)
end
end
section
open Go.RowKit

/-- A struct out of wherever it lies. -/
theorem wpl_load_addr {P : Program} {ops : Array Oper} {rest : List Oper} {op : Oper} {a : Act} {w : World} {Q : Exit → Act → World → Prop} (hgd : op.guard = none) (ty : TypeId) (x : Operand) (ho : op.op = .load ty x) (p : Addr) (cs : List Value) (hc : ∀ j v, cs[j]? = some v → w.cell? (p.add j) = some v)
    (hx : a.eval x = .pointer (some p)) (d : TypeDesc) (hu : P.underlying ty = some d) (hd : d.isRow = true) (n : Nat) (hi : (P.info? ty).map (·.size) = some n) (hn : cs.length = n)
    (h : wpList P ops Q rest (a.put op.dst (.agg cs.toArray)) w) : wpList P ops Q (op :: rest) a w := by
  have hl : (loadCells p cs.length).run P w = .ok cs.toArray w := run_loadCells_list (P := P) w p cs hc
  have hrun : (loadVar ty p).run P w = .ok (.agg cs.toArray) w := by
    cases hq : P.info? ty with
    | none => simp [hq] at hi
    | some i =>
      have hs : i.size = cs.length := by simp [hq] at hi; omega
      have hagg : (isAgg ty).run P w = .ok true w := by
        unfold isAgg
        rw [Sem.run_bind, run_underlying hu w]
        cases d <;> simp_all
      simp [loadVar, Sem.run_bind, hagg, sizeOf, typeInfo, hq, hs, hl]
  refine wpList_plain hgd fun K hK => ?_
  unfold Oper.wp execOp
  simp only [ho, hx, Instr.loadAt, Instr.sureAddr, Sem.run_bind, Sem.run_pure, Result.andThen_ok, hrun]
  exact hK _ _ h

theorem flat_at {α : Type} (f : α → List Value) (m : Nat) (hm : ∀ x, (f x).length = m) : ∀ (l : List α) (k : Nat) (hk : k < l.length) (j : Nat), j < m → (l.flatMap f)[k * m + j]? = (f l[k])[j]?
  | [], k, hk, j, hj => by simp at hk
  | x :: l, 0, hk, j, hj => by
    rw [List.flatMap_cons, Nat.zero_mul, Nat.zero_add, List.getElem?_append_left (by rw [hm]; exact hj)]
    rfl
  | x :: l, k + 1, hk, j, hj => by
    rw [List.flatMap_cons, List.getElem?_append_right (by rw [hm, Nat.add_mul]; omega), hm, show (k + 1) * m + j - m = k * m + j by rw [Nat.add_mul]; omega]
    exact flat_at f m hm l k (by simpa using hk) j hj
theorem flat_len {α : Type} (f : α → List Value) (m : Nat) (hm : ∀ x, (f x).length = m) : ∀ l : List α, (l.flatMap f).length = l.length * m
  | [] => by simp
  | x :: l => by rw [List.flatMap_cons, List.length_append, hm, flat_len f m hm l, List.length_cons, Nat.add_mul]; omega
theorem Addr.add_add' (a : Addr) (i j : Nat) : (a.add i).add j = a.add (i + j) := by
  unfold Addr.add
  by_cases h1 : i = 0 <;> by_cases h2 : j = 0 <;> simp [h1, h2, Nat.add_assoc]
theorem Addr.add_block (a : Addr) (i : Nat) : (a.add i).block = a.block := by unfold Addr.add; split <;> rfl
theorem Lies.elem {w : World} {B : Nat} {A : Option Addr} {α : Type} {f : α → List Value} {m : Nat} (hm : ∀ x, (f x).length = m) {l : List α} (h : Lies w B A (l.flatMap f)) {k : Nat} (hk : k < l.length) (hm0 : 0 < m) :
    ∃ a, A = some a ∧ a.block < B ∧ ∀ j v, (f l[k])[j]? = some v → w.cell? ((a.add (k * m)).add j) = some v := by
  have hlen := flat_len f m hm l
  have hpos : 0 < (l.flatMap f).length := by rw [hlen]; exact Nat.mul_pos (by omega) hm0
  rcases h with h | ⟨a, hA, hb, hc⟩
  · rw [h] at hpos; simp at hpos
  · refine ⟨a, hA, hb, fun j v hv => ?_⟩
    have hj : j < m := by rw [← hm l[k]]; exact (List.getElem?_eq_some_iff.1 hv).1
    rw [Addr.add_add']
    exact hc _ _ (by rw [flat_at f m hm l k hk j hj]; exact hv)
end
end Go.Proofs.Ytahipfmokbiklaa
