/-
  BUNDLES AS MATHEMATICS, and as cells: names, first blocks, other blocks, bundles. Nothing here speaks of one function.
-/
import Derived.Test.YtlbgcbekjjkokaaBytes
import Derived.Laws.StructEq
import Derived.Laws.Bits64
import Derived.Deep.QuietTactic
import Derived.BigQuiet
import Derived.Laws.BitsAllLaws
import Derived.Deep.MidRow
import Derived.Laws.CopyOwn
import Derived.Deep.WholeRow
namespace Go.Proofs.Ytlbgcbekjjkokaa
open Go.RowKit

/-- A name of an end. -/
structure Nm where
  sch : Int
  name : ByteArray
  node : Nat
  svc : Nat
/-- A first block. -/
structure Pr where
  fl : Nat
  crc : Int
  dst : Nm
  src : Nm
  rep : Nm
  time : Nat
  seq : Nat
  life : Nat
  off : Nat
  tot : Nat
/-- Another block. -/
structure Bk where
  ty : Nat
  num : Nat
  fl : Nat
  crc : Int
  data : ByteArray
/-- A bundle; its other blocks lie at A. -/
structure Bn where
  p : Pr
  A : Option Addr
  n : Nat
  c : Nat
  bs : List Bk
  pay : Bk

def Nm.cells (e : Nm) : List Value := [.int .i64 e.sch, .string e.name, .int .u64 (e.node : Int), .int .u64 (e.svc : Int)]
def Pr.cells (p : Pr) : List Value :=
  [.int .u64 (p.fl : Int), .int .i64 p.crc, .int .i64 p.dst.sch, .string p.dst.name, .int .u64 (p.dst.node : Int), .int .u64 (p.dst.svc : Int), .int .i64 p.src.sch, .string p.src.name, .int .u64 (p.src.node : Int), .int .u64 (p.src.svc : Int),
    .int .i64 p.rep.sch, .string p.rep.name, .int .u64 (p.rep.node : Int), .int .u64 (p.rep.svc : Int), .int .u64 (p.time : Int), .int .u64 (p.seq : Int), .int .u64 (p.life : Int), .int .u64 (p.off : Int), .int .u64 (p.tot : Int)]
def Bk.cells (b : Bk) : List Value := [.int .u64 (b.ty : Int), .int .u64 (b.num : Int), .int .u64 (b.fl : Int), .int .i64 b.crc, .string b.data]
def Bn.cells (b : Bn) : List Value :=
  [.int .u64 (b.p.fl : Int), .int .i64 b.p.crc, .int .i64 b.p.dst.sch, .string b.p.dst.name, .int .u64 (b.p.dst.node : Int), .int .u64 (b.p.dst.svc : Int), .int .i64 b.p.src.sch, .string b.p.src.name, .int .u64 (b.p.src.node : Int), .int .u64 (b.p.src.svc : Int),
    .int .i64 b.p.rep.sch, .string b.p.rep.name, .int .u64 (b.p.rep.node : Int), .int .u64 (b.p.rep.svc : Int), .int .u64 (b.p.time : Int), .int .u64 (b.p.seq : Int), .int .u64 (b.p.life : Int), .int .u64 (b.p.off : Int), .int .u64 (b.p.tot : Int),
    .slice b.A b.n b.c, .int .u64 (b.pay.ty : Int), .int .u64 (b.pay.num : Int), .int .u64 (b.pay.fl : Int), .int .i64 b.pay.crc, .string b.pay.data]
def Nm.val (e : Nm) : Value := .agg e.cells.toArray
def Pr.val (p : Pr) : Value := .agg p.cells.toArray
def Bk.val (b : Bk) : Value := .agg b.cells.toArray
def Bn.val (b : Bn) : Value := .agg b.cells.toArray


/-! ### bits of Flags -/
theorem and_one (n : Nat) (h : n < 18446744073709551616) : bits .and .u64 (n : Int) 1 = ((n % 2 : Nat) : Int) := by
  have := u64_and_nat n 1 h (by omega)
  rw [Nat.and_one_is_mod] at this
  exact this
theorem and_four (n : Nat) (h : n < 18446744073709551616) : bits .and .u64 (n : Int) 4 = ((n / 4 % 2 * 4 : Nat) : Int) := by
  have := u64_and_nat n 4 h (by omega)
  refine Eq.trans this ?_
  congr 1
  apply Nat.eq_of_testBit_eq
  intro i
  rw [Nat.testBit_and, show n / 4 % 2 * 4 = (n / 2 ^ 2 % 2 ^ 1) * 2 ^ 2 from rfl, Nat.testBit_mul_two_pow, Nat.testBit_mod_two_pow, show (4 : Nat) = 2 ^ 2 from rfl, Nat.testBit_two_pow, Nat.testBit_div_two_pow]
  by_cases hi : 2 = i
  · subst hi; simp
  · by_cases h2 : 2 ≤ i
    · have h3 : ¬ (i - 2 < 1) := by omega
      simp [hi, h3]
    · simp [hi, h2]
theorem or_one (n : Nat) (h : n < 18446744073709551616) : bits .or .u64 (n : Int) 1 = ((n - n % 2 + 1 : Nat) : Int) := by
  have := u64_or_nat n 1 h (by omega)
  refine Eq.trans this ?_
  congr 1
  apply Nat.eq_of_testBit_eq
  intro i
  rw [Nat.testBit_or]
  cases i with
  | zero => simp; omega
  | succ i =>
    rw [Nat.testBit_succ, Nat.testBit_succ, Nat.testBit_succ]
    have : (n - n % 2 + 1) / 2 = n / 2 := by omega
    rw [this]; simp
theorem andNot_one (n : Nat) (h : n < 18446744073709551616) : bits .andNot .u64 (n : Int) 1 = ((n - n % 2 : Nat) : Int) := by
  have := u64_andNot_nat n 1 h (by omega)
  refine Eq.trans this ?_
  congr 1
  apply Nat.eq_of_testBit_eq
  intro i
  rw [Nat.testBit_and]
  cases i with
  | zero => simp; omega
  | succ i =>
    rw [Nat.testBit_succ, Nat.testBit_succ, Nat.testBit_succ]
    have : (n - n % 2) / 2 = n / 2 := by omega
    rw [this, show (18446744073709551615 - 1) / 2 = 2 ^ 63 - 1 from rfl, Nat.testBit_two_pow_sub_one]
    by_cases hi : i < 63
    · simp [hi]
    · have : (n / 2).testBit i = false := Nat.testBit_lt_two_pow (by
        have : 2 ^ 63 ≤ 2 ^ i := Nat.pow_le_pow_right (by omega) (by omega)
        omega)
      simp [this]

/-! ### structs in memory -/
theorem range_new (w : World) (cs : List Value) (t : TypeId) (fr : Nat × Nat) : (w.alloc (.cells cs.toArray t fr)).rangeAt w.heap.size 0 cs := by
  intro j v hv
  rw [cell_of_row _ _ _ cs.toArray t fr (heap_alloc_last w _)]
  simpa using hv
theorem range_below {w w' : World} {b o B : Nat} {cs : List Value} (h : w.rangeAt b o cs) (hb : Below B w w') (hlt : b < B) : w'.rangeAt b o cs :=
  fun j v hv => (hb.cell (p := ⟨b, o + j, none⟩) hlt).trans (h j v hv)
theorem range_sub {w : World} {b o : Nat} {cs : List Value} (h : w.rangeAt b o cs) (k n : Nat) : w.rangeAt b (o + k) ((cs.drop k).take n) := by
  intro j v hv
  rw [List.getElem?_take] at hv
  split at hv
  · rw [Nat.add_assoc]; exact h (k + j) v (by rw [← hv, List.getElem?_drop])
  · cases hv
theorem range_alloc {w : World} {b o : Nat} {cs : List Value} (h : w.rangeAt b o cs) (hlt : b < w.heap.size) (x : Obj) : (w.alloc x).rangeAt b o cs :=
  range_below h ((Below.refl w.heap.size w).alloc (Nat.le_refl _) x) hlt

theorem info24 : (Try.prog.info? 24).map (·.size) = some 4 := by kernel_rfl
theorem info28 : (Try.prog.info? 28).map (·.size) = some 19 := by kernel_rfl
theorem info31 : (Try.prog.info? 31).map (·.size) = some 5 := by kernel_rfl
theorem info33 : (Try.prog.info? 33).map (·.size) = some 25 := by kernel_rfl

section
variable {P : Program} {ops : Array Oper} {rest : List Oper} {op : Oper} {a : Act} {Q : Exit → Act → World → Prop}
/-- A struct out of the block that was made last. -/
theorem wpl_load_last (w : World) (hgd : op.guard = none) (ty : TypeId) (x : Operand) (ho : op.op = .load ty x) (t : TypeId) (cs : Array Value) (d : TypeDesc)
    (hx : a.eval x = .pointer (some ⟨w.heap.size, 0, none⟩)) (hu : P.underlying ty = some d) (hd : d.isRow = true) (hi : (P.info? ty).map (·.size) = some cs.size)
    (h : wpList P ops Q rest (a.put op.dst (.agg cs)) (w.alloc (.cells cs t))) : wpList P ops Q (op :: rest) a (w.alloc (.cells cs t)) :=
  wpList_load_row hgd ty x ho w.heap.size hx t cs (0, 0) d (heap_alloc_last w _) hu (by cases d <;> simp_all) hi h
/-- A whole struct into the block that was made last. -/
theorem wpl_store_last (w : World) (hgd : op.guard = none) (ty : TypeId) (x y : Operand) (ho : op.op = .store ty x y) (t : TypeId) (old cells : Array Value)
    (hx : a.eval x = .pointer (some ⟨w.heap.size, 0, none⟩)) (hy : a.eval y = .agg cells) (n : Nat) (hi : (P.info? ty).map (·.size) = some n) (hnew : cells.size = n) (hold : old.size = n) (h1 : cells.toList.all (·.oneCell') = true)
    (h : wpList P ops Q rest (a.put op.dst undef) (w.alloc (.cells cells t))) : wpList P ops Q (op :: rest) a (w.alloc (.cells old t)) :=
  wpList_store_row hgd ty x y ho w.heap.size cells hx hy t old (heap_alloc_last w _) (by rw [hi, hnew]) (by rw [hold, hnew]) (by rw [← Array.all_toList]; exact h1) (by rw [World.setRow_alloc_new]; exact h)
end
/-- A whole struct into a block that lies somewhere. -/
theorem wpl_store_at {P : Program} {ops : Array Oper} {rest : List Oper} {op : Oper} {a : Act} {Q : Exit → Act → World → Prop} {w : World} (hgd : op.guard = none) (ty : TypeId) (x y : Operand) (ho : op.op = .store ty x y) (g : Nat) (t : TypeId) (old cells : Array Value)
    (hg : w.heap[g]? = some (.cells old t (0, 0))) (hx : a.eval x = .pointer (some ⟨g, 0, none⟩)) (hy : a.eval y = .agg cells) (n : Nat) (hi : (P.info? ty).map (·.size) = some n) (hnew : cells.size = n) (hold : old.size = n) (h1 : cells.toList.all (·.oneCell') = true)
    (h : wpList P ops Q rest (a.put op.dst undef) (w.setRow g cells)) : wpList P ops Q (op :: rest) a w :=
  wpList_store_row hgd ty x y ho g cells hx hy t old hg (by rw [hi, hnew]) (by rw [hold, hnew]) (by rw [← Array.all_toList]; exact h1) h
/-- A whole struct out of a block that lies somewhere. -/
theorem wpl_load_at {P : Program} {ops : Array Oper} {rest : List Oper} {op : Oper} {a : Act} {Q : Exit → Act → World → Prop} {w : World} (hgd : op.guard = none) (ty : TypeId) (x : Operand) (ho : op.op = .load ty x) (g : Nat) (t : TypeId) (cs : Array Value) (d : TypeDesc)
    (hg : w.heap[g]? = some (.cells cs t (0, 0))) (hx : a.eval x = .pointer (some ⟨g, 0, none⟩)) (hu : P.underlying ty = some d) (hd : d.isRow = true) (n : Nat) (hi : (P.info? ty).map (·.size) = some n) (hn : cs.size = n)
    (h : wpList P ops Q rest (a.put op.dst (.agg cs)) w) : wpList P ops Q (op :: rest) a w :=
  wpList_load_row hgd ty x ho g hx t cs (0, 0) d hg hu (by cases d <;> simp_all) (by rw [hi, hn]) h
theorem wpl_store_field {P : Program} {ops : Array Oper} {rest : List Oper} {op : Oper} {a : Act} {Q : Exit → Act → World → Prop} {w : World} (hgd : op.guard = none) (ty : TypeId) (x y : Operand) (ho : op.op = .store ty x y) (g i : Nat)
    (hx : a.eval x = .pointer (some ⟨g, i, none⟩)) (v : Value) (hy : a.eval y = v) (t : TypeId) (cs : Array Value) (hg : w.heap[g]? = some (.cells cs t (0, 0))) (hi : i < cs.size) (hvc : v.cells = #[v]) (hv : v.oneCell' = true) (hty : (P.info? ty).map (·.size) = some 1)
    (h : wpList P ops Q rest (a.put op.dst undef) (w.setRow g (cs.setIfInBounds i v))) : wpList P ops Q (op :: rest) a w := by
  have hadd : (⟨g, i, none⟩ : Addr).add 0 = ⟨g, i, none⟩ := by unfold Addr.add; split <;> simp_all
  have hcell : w.cell? ⟨g, i, none⟩ = some cs[i] := by simp [World.cell?, hg, hi]
  have hfro : w.frozen? ⟨g, i, none⟩ = false := by simp [World.frozen?, hg]
  have hst : (store (⟨g, i, none⟩ : Addr) v).run P w = .ok () (w.setRow g (cs.setIfInBounds i v)) := by
    rw [run_store P w _ v _ hv, hcell]
    simp [hfro, setCell_eq_setRow w g i cs t (0, 0) v hg]
  refine wpList_plain hgd fun K hK => ?_
  have hsz : (sizeOf ty).run P w = .ok 1 w := by
    cases hq : P.info? ty with
    | none => simp [hq] at hty
    | some inf =>
      have hs : inf.size = 1 := by simpa [hq] using hty
      simp [sizeOf, typeInfo, hq, hs]
  have hrun : (storeVar ty ⟨g, i, none⟩ v).run P w = .ok () (w.setRow g (cs.setIfInBounds i v)) := by
    unfold storeVar
    simp only [Sem.run_bind, hsz, Result.andThen_ok, hvc]
    simp [storeCells, hadd, hst]
  unfold Oper.wp execOp
  simp only [ho, hx, hy, Instr.storeAt, Instr.sureAddr, Sem.run_bind, Sem.run_pure, Result.andThen_ok, hrun]
  exact hK _ _ h
theorem info_u64 : (Try.prog.info? 22).map (·.size) = some 1 := by kernel_rfl
theorem info_str : (Try.prog.info? 9).map (·.size) = some 1 := by kernel_rfl
theorem info_blks : (Try.prog.info? 29).map (·.size) = some 1 := by kernel_rfl
theorem results_cell_last {P : Program} {fn : Func} {p : Tmp} {ty : TypeId} (h : fn.results = #[.cell p ty]) (tmps : Array Value) (w : World) (t : TypeId) (cs : Array Value) (d : TypeDesc)
    (hp : tmps.getD p undef = .pointer (some ⟨w.heap.size, 0, none⟩)) (hu : P.underlying ty = some d) (hd : d.isRow = true) (hi : (P.info? ty).map (·.size) = some cs.size) :
    (results fn tmps).run P (w.alloc (.cells cs t)) = .ok (.agg cs) (w.alloc (.cells cs t)) :=
  results_cell_row h tmps _ w.heap.size t cs (0, 0) d hp (heap_alloc_last w _) hu (by cases d <;> simp_all) hi

/-- A call's end: its one result lies in a variable of its own. -/
theorem end_cell {P : Program} {fn : Func} {p : Tmp} {ty : TypeId} {post : Ending → World → Prop} {tmps : Array Value} {w : World} (h : fn.results = #[.cell p ty]) (g : Nat) (t : TypeId) (cs : Array Value) (d : TypeDesc) (hg : w.heap[g]? = some (.cells cs t (0, 0)))
    (hp : tmps.getD p undef = .pointer (some ⟨g, 0, none⟩)) (hu : P.underlying ty = some d) (hd : d.isRow = true) (n : Nat) (hi : (P.info? ty).map (·.size) = some n) (hn : cs.size = n) (hq : post (.returned (.agg cs)) w) :
    bodyPost P fn post .ret ⟨tmps, []⟩ w :=
  bodyPost_ret (v := .agg cs) (results_cell_row h tmps w g t cs (0, 0) d hp hg hu (by cases d <;> simp_all) (by rw [hi, hn])) rfl hq

end Go.Proofs.Ytlbgcbekjjkokaa
