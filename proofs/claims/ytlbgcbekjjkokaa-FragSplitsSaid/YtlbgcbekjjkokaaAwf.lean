/-
  'awake' of layer 12: a bundle of five bytes in pieces of two, and back.
-/
import Derived.Test.YtlbgcbekjjkokaaJM2
import Derived.Test.YtlbgcbekjjkokaaBsl
import Derived.Test.YtlbgcbekjjkokaaRsam
import Derived.Test.YtlbgcbekjjkokaaFlo2
import Derived.ChangeKeysEq
namespace Go.Proofs.Ytlbgcbekjjkokaa
open Go.RowKit

def meN : Nm := ⟨2, ⟨#[]⟩, 1, 0⟩
def hello : Bn := ⟨⟨0, 0, meN, meN, meN, 0, 0, 0, 0, 0⟩, none, 0, 0, [], ⟨1, 1, 0, 0, ⟨#[104, 101, 108, 108, 111]⟩⟩⟩
theorem hello_check : hello.check = 0 := by decide +kernel
theorem hello_cuts : Cuts hello 2 3 := ⟨hello_check, rfl, by decide, by decide, by decide, by decide, by decide⟩
theorem hello_ok (w : World) (B : Nat) : hello.Ok w B := ⟨.inl rfl, rfl, Nat.le_refl _, Nat.zero_le _, Nat.zero_le _, by decide, by decide, by decide, by decide, by decide, by decide, by decide⟩
theorem hello_cells : hello.cells.toArray = #[.int .u64 0, .int .i64 0, .int .i64 2, .string ⟨#[]⟩, .int .u64 1, .int .u64 0, .int .i64 2, .string ⟨#[]⟩, .int .u64 1, .int .u64 0, .int .i64 2, .string ⟨#[]⟩, .int .u64 1, .int .u64 0, .int .u64 0, .int .u64 0, .int .u64 0, .int .u64 0, .int .u64 0, .slice none 0 0, .int .u64 1, .int .u64 1, .int .u64 0, .int .i64 0, .string ⟨#[104, 101, 108, 108, 111]⟩] := rfl

theorem hello_many : manyN 5 2 = 3 := rfl
theorem addrN (g o j : Nat) : (⟨g, o, none⟩ : Addr).add j = ⟨g, o + j, none⟩ := by unfold Addr.add; split <;> simp_all
theorem split_hello {w : World} {v : Value} {e : Int} (h : SplitIs hello 2 w v e) : ∃ A c g, v = .slice (some ⟨g, 0, none⟩) 3 3 ∧ e = 0 ∧ Bn.Ok w w.heap.size { hello with A := A, c := c } ∧ Lies w w.heap.size (some ⟨g, 0, none⟩) (((List.range 3).map (pieceOf hello A c 2)).flatMap Bn.cells) := by
  rcases h with ⟨h, _⟩ | ⟨_, h, _⟩ | ⟨_, s, hs, _, h⟩
  · exact absurd hello_check h
  · omega
  · obtain rfl : s = 2 := by omega
    have hm : manyN hello.pay.data.size 2 = 3 := rfl
    rw [hm] at h
    rcases h with ⟨h, _⟩ | ⟨h, _⟩ | ⟨_, _, ⟨h, _⟩ | ⟨_, h, _⟩ | ⟨_, _, he, A, c, g, hv, ho, hl⟩⟩
    · omega
    · omega
    · exact absurd h (by decide)
    · exact absurd h (by decide)
    · exact ⟨A, c, g, hv, he, ho, hl⟩
theorem piece_cells {w : World} {B g s m : Nat} {b : Bn} {A : Option Addr} {c : Nat} (h : Lies w B (some ⟨g, 0, none⟩) (((List.range m).map (pieceOf b A c s)).flatMap Bn.cells)) {i : Nat} (hi : i < m) :
    ∀ j v, (pieceOf b A c s i).cells[j]? = some v → w.cell? ((⟨g, i * 25, none⟩ : Addr).add j) = some v := by
  intro j v hv
  obtain ⟨a', ha', _, hca⟩ := h.elem (f := Bn.cells) (m := 25) Bn.cells_len (k := i) (by simpa using hi) (by omega)
  cases ha'
  have e : ((List.range m).map (pieceOf b A c s))[i]'(by simpa using hi) = pieceOf b A c s i := by simp
  rw [e] at hca
  have := hca j v hv
  rwa [addr0] at this
theorem piece_ok {w : World} {B s i : Nat} {b : Bn} {A : Option Addr} {c : Nat} (h : Bn.Ok w B { b with A := A, c := c }) (h0 : b.p.off + i * s < 18446744073709551616) (ht : b.pay.data.size ≤ 1000000) : (pieceOf b A c s i).Ok w B := by
  have hfl : b.p.fl < 18446744073709551616 := h.fl
  have htot : b.p.tot < 18446744073709551616 := h.tot
  have hd : (pieceOf b A c s i).pay.data.size ≤ 1000000 := by rw [← bytes_len, piece_len, bytes_len]; omega
  by_cases hi : i = 0
  · subst hi
    exact ⟨h.lies, h.len, h.cap, h.few, h.big, by show b.p.fl - b.p.fl % 2 + 1 < _; omega, h0, by show (if b.p.fl % 2 = 1 then b.p.tot else b.pay.data.size) < _; split <;> omega, h.dst, h.src, h.rep, hd⟩
  · have hA : (pieceOf b A c s i).A = none := if_neg hi
    have hn : (pieceOf b A c s i).n = 0 := if_neg hi
    have hc : (pieceOf b A c s i).c = 0 := if_neg hi
    have hb : (pieceOf b A c s i).bs = [] := if_neg hi
    exact ⟨by rw [hb]; exact .inl rfl, by rw [hn, hb]; rfl, by rw [hn, hc]; exact Nat.le_refl _, by rw [hn]; omega, by rw [hc]; exact Nat.zero_le _, by show b.p.fl - b.p.fl % 2 + 1 < _; omega, h0, by show (if b.p.fl % 2 = 1 then b.p.tot else b.pay.data.size) < _; split <;> omega, h.dst, h.src, h.rep, hd⟩

theorem holes_hello {A : Option Addr} {c : Nat} {s : List Bn} (h : Sorted [pieceOf hello A c 2 0, pieceOf hello A c 2 2] s) (hl : s.length = 2) : holesL 5 s = [(2, 4)] := by
  have e0 : (pieceOf hello A c 2 0).p.off = 0 := rfl
  have e2 : (pieceOf hello A c 2 2).p.off = 4 := rfl
  match s, hl with
  | [x, y], _ =>
    have hx := (h.mem x).1 (by simp)
    have hy := (h.mem y).1 (by simp)
    have h0 := (h.mem (pieceOf hello A c 2 0)).2 (by simp)
    have h2 := (h.mem (pieceOf hello A c 2 2)).2 (by simp)
    have hu : x.p.off ≤ y.p.off := by have := h.up; simpa using this
    simp only [List.mem_cons, List.not_mem_nil, or_false] at hx hy h0 h2
    have hx0 : x = pieceOf hello A c 2 0 := by
      rcases hx with hx | hx
      · exact hx
      · exfalso
        rcases h0 with h0 | h0
        · have h3 := congrArg (fun b : Bn => b.p.off) (h0.trans hx)
          rw [e0, e2] at h3
          omega
        · rw [hx, ← h0, e2, e0] at hu; omega
    have hy2 : y = pieceOf hello A c 2 2 := by
      rcases h2 with h2 | h2
      · rw [hx0] at h2
        have h3 := congrArg (fun b : Bn => b.p.off) h2
        rw [e0, e2] at h3
        omega
      · exact h2.symm
    rw [hx0, hy2]
    rfl
theorem eq51 (d : Nat) (W : World) : (Op.equalIn (d + 2) 51 (.agg #[.int .u64 2, .int .u64 4]) (.agg #[.int .u64 2, .int .u64 4])).run Try.prog W = .ok true W := by
  obtain ⟨i0, hi0, _, _, _⟩ := info_parts (show (Try.prog.info? 22).map (fun i => (i.zero, i.size, i.bytes)) = some (some (.int .u64 0), 1, 8) by kernel_rfl)
  have hc : Try.prog.cellsOf 22 = 1 := by kernel_rfl
  have e1 := fun W => eqI d 2 2 W
  have e2 := fun W => eqI d 4 4 W
  rw [run_equalIn_array W (d + 1) _ _ Try.underlying51 hi0, hc]
  simp only [List.range, List.range.loop, Op.eqItems, Sem.run_bind]
  go_simp
theorem sameAll_self : ∀ l : List Bk, sameAll l l = true
  | [] => rfl
  | x :: l => by
    show (x.eqB x && sameAll l l) = true
    rw [(Bk.eqB_iff _ _).2 rfl, sameAll_self l]
    rfl
theorem sameN_self (b : Bn) (A : Option Addr) (c : Nat) : b.sameN { b with A := A, c := c } = true := by
  unfold Bn.sameN
  show (b.p.eqB b.p && (b.pay.eqB b.pay && (decide (b.n = b.n) && sameAll b.bs b.bs))) = true
  rw [(Pr.eqB_iff _ _).2 rfl, (Bk.eqB_iff _ _).2 rfl, sameAll_self, decide_eq_true rfl]
  rfl
theorem writes_not (ops : Array Oper) (ws : List (Nat × Value)) (h : (ops.toList.all fun o => match o.dst with | none => true | some d => (ws.map (·.1)).contains d) = true) {t : Nat} (ht : ∀ x ∈ ws, x.1 ≠ t) : writesB ops t = false := by
  cases hw : writesB ops t with
  | false => rfl
  | true =>
    obtain ⟨o, ho, hd⟩ := Array.any_eq_true'.1 hw
    have h1 := List.all_eq_true.1 h o (by simpa using ho)
    have hd' : o.dst = some t := by simpa using hd
    rw [hd'] at h1
    have h2 : t ∈ ws.map (·.1) := by simpa using h1
    obtain ⟨x, hx, e⟩ := List.mem_map.1 h2
    exact absurd e (ht x hx)
theorem act_ext {a : Act} {r : Array Value} {d : List Deferred} (h : a.tmps = r) (h2 : a.defers = d) : a = ⟨r, d⟩ := by cases a; subst h h2; rfl
theorem exec_load_addr {P : Program} {o : Oper} {a : Act} {w : World} (ty : TypeId) (x : Operand) (ho : o.op = .load ty x) (p : Addr) (cs : List Value) (hc : ∀ j v, cs[j]? = some v → w.cell? (p.add j) = some v)
    (hx : a.eval x = .pointer (some p)) {d : TypeDesc} (hu : P.underlying ty = some d) (hd : d.isRow = true) {n : Nat} (hi : (P.info? ty).map (·.size) = some n) (hn : cs.length = n) : (execOp a.eval o).run P w = .ok (.value (.agg cs.toArray)) w := by
  have hl : (loadCells p cs.length).run P w = .ok cs.toArray w := run_loadCells_list (P := P) w p cs hc
  have hrun : (loadVar ty p).run P w = .ok (.agg cs.toArray) w := by
    cases hq : P.info? ty with
    | none => simp [hq] at hi
    | some i =>
      have hs : i.size = cs.length := by simp [hq] at hi; omega
      have hagg : (isAgg ty).run P w = .ok true w := by
        unfold isAgg
        rw [Sem.run_bind, run_underlying hu w]
        cases d <;> simp_all
      simp [loadVar, Sem.run_bind, hagg, sizeOf, typeInfo, hq, hs, hl]
  unfold execOp
  simp only [ho, hx, Instr.loadAt, Instr.sureAddr, Sem.run_bind, Sem.run_pure, Result.andThen_ok, hrun]
/-- A block that holds one bundle. -/
def BoxAt (w : World) (k : Nat) : Prop := ∃ cs : Array Value, cs.size = 25 ∧ w.heap[k]? = some (.cells cs 33 (0, 0))
/-- Nothing turns but new blocks that hold one bundle. -/
structure Boxes (w0 w W : World) : Prop where
  os : W.os = w.os
  tape : W.tape = w.tape
  output : W.output = w.output
  size : w.heap.size ≤ W.heap.size
  block : ∀ k, k < w.heap.size → W.heap[k]? = w.heap[k]? ∨ (w0.heap.size ≤ k ∧ BoxAt w k ∧ BoxAt W k)
theorem Boxes.of {w0 w W : World} (h : Below w.heap.size w W) : Boxes w0 w W := ⟨h.os, h.tape, h.output, h.size, fun k hk => .inl (h.block k hk)⟩
theorem Boxes.trans {w0 w w1 w2 : World} (h : Boxes w0 w w1) (h2 : Boxes w0 w1 w2) : Boxes w0 w w2 := by
  refine ⟨h2.os.trans h.os, h2.tape.trans h.tape, h2.output.trans h.output, Nat.le_trans h.size h2.size, fun k hk => ?_⟩
  rcases h2.block k (Nat.lt_of_lt_of_le hk h.size) with e2 | ⟨hk2, b2, b3⟩
  · rcases h.block k hk with e1 | ⟨hk1, b1, b1'⟩
    · exact .inl (e2.trans e1)
    · refine .inr ⟨hk1, b1, ?_⟩
      obtain ⟨cs, h1, h3⟩ := b1'
      exact ⟨cs, h1, e2.trans h3⟩
  · rcases h.block k hk with e1 | ⟨hk1, b1, _⟩
    · refine .inr ⟨hk2, ?_, b3⟩
      obtain ⟨cs, h1, h3⟩ := b2
      exact ⟨cs, h1, e1.symm.trans h3⟩
    · exact .inr ⟨hk1, b1, b3⟩
theorem Boxes.below {w0 w W : World} (h : Boxes w0 w W) (hs : w0.heap.size ≤ w.heap.size) : Below w0.heap.size w W :=
  ⟨h.os, h.tape, h.output, h.size, fun k hk => by
    rcases h.block k (Nat.lt_of_lt_of_le hk hs) with e | ⟨hk2, _⟩
    · exact e
    · omega⟩
theorem boxes_goes (w0 : World) : Flo2.Goes w0 (Boxes w0) (fun w W => Below w.heap.size w W) :=
  { refl := fun w => Boxes.of (Below.refl _ _), trans := fun h h2 => h.trans h2, below := fun h hs => h.below hs, drew := fun w => Boxes.of (bel_drewN (Below.refl _ _) 1),
    srefl := fun w => Below.refl _ _, strans := fun h h2 => h.trans (h2.mono h.size) }
theorem Boxes.row {w0 w W : World} (h : Boxes w0 w W) {g : Nat} {cs : Array Value} {t : TypeId} (hg : w.heap[g]? = some (.cells cs t (0, 0))) (hn : cs.size ≠ 25) : W.heap[g]? = some (.cells cs t (0, 0)) := by
  rcases h.block g (Array.getElem?_eq_some_iff.1 hg).1 with e | ⟨_, ⟨cs', h1, h2⟩, _⟩
  · rw [e]; exact hg
  · rw [hg] at h2
    injection h2 with h2
    injection h2 with h2
    rw [← h2] at h1
    exact absurd h1 hn
theorem Boxes.box {w0 w W : World} (h : Boxes w0 w W) {g : Nat} (hg : BoxAt w g) : BoxAt W g := by
  obtain ⟨cs, h1, h2⟩ := hg
  rcases h.block g (Array.getElem?_eq_some_iff.1 h2).1 with e | ⟨_, _, b⟩
  · exact ⟨cs, h1, by rw [e]; exact h2⟩
  · exact b
theorem Boxes.store {w0 w : World} {g : Nat} {cs : Array Value} (hg : BoxAt w g) (h0 : w0.heap.size ≤ g) (hs : cs.size = 25) : Boxes w0 w (w.setRow g cs) := by
  refine ⟨rfl, rfl, rfl, by simp, fun k hk => ?_⟩
  by_cases hkg : k = g
  · subst hkg
    obtain ⟨cs', h1, h2⟩ := hg
    exact .inr ⟨h0, ⟨cs', h1, h2⟩, ⟨cs, hs, setRow_heap w k _ cs _ _ h2⟩⟩
  · exact .inl (setRow_other w g k cs hkg)
def aw (A : Option Addr) (c : Nat) : List Bn := [pieceOf hello A c 2 2, pieceOf hello A c 2 0, pieceOf hello A c 2 1]
theorem aw_all (A : Option Addr) (c : Nat) : AllOf hello A c 2 3 (aw A c) := by
  refine ⟨fun p => ⟨fun hp => ?_, fun ⟨i, hi, hp⟩ => ?_⟩, by show 2 ≤ 3; omega⟩
  · simp only [aw, List.mem_cons, List.not_mem_nil, or_false] at hp
    rcases hp with h | h | h
    · exact ⟨2, by omega, h⟩
    · exact ⟨0, by omega, h⟩
    · exact ⟨1, by omega, h⟩
  · have : i = 0 ∨ i = 1 ∨ i = 2 := by omega
    simp only [aw, List.mem_cons, List.not_mem_nil, or_false]
    rcases this with h | h | h <;> subst h
    · exact .inr (.inl hp)
    · exact .inr (.inr hp)
    · exact .inl hp
theorem helloA_ok {A : Option Addr} {c : Nat} (hc : c ≤ maxLen) (w : World) (B : Nat) : Bn.Ok w B { hello with A := A, c := c } := ⟨.inl rfl, rfl, Nat.zero_le _, Nat.zero_le _, hc, (hello_ok w B).fl, (hello_ok w B).off, (hello_ok w B).tot, (hello_ok w B).dst, (hello_ok w B).src, (hello_ok w B).rep, (hello_ok w B).data⟩
theorem aw_ok {A : Option Addr} {c : Nat} (hc : c ≤ maxLen) (w : World) (B : Nat) : ∀ b ∈ aw A c, b.Ok w B := by
  intro b hb
  obtain ⟨i, hi, rfl⟩ := ((aw_all A c).mem b).1 hb
  exact piece_ok (helloA_ok hc w B) (by show 0 + i * 2 < _; omega) (by decide)

set_option maxRecDepth 100000 in
set_option maxHeartbeats 4000000 in
theorem awake12_any (w : World) : Calls Try.prog 6 #[] w fun e w' => e = .returned (.bool true) ∧ Below w.heap.size w w' := by
  have Hc := hide hello_cells
  go_enter Try.func6, Try.ntmps6
  go_upto_region 2 with fail
  generalize hw1 : World.alloc w _ = w1
  have Hb1 := hide (show Below w.heap.size w w1 by rw [← hw1]; exact (Below.refl w.heap.size w).alloc (Nat.le_refl _) _)
  have c0 : w1.cell? ⟨w.heap.size, 0, none⟩ = some (.int .i64 2) := by rw [← hw1]; exact cell_of_row _ _ _ _ _ _ (heap_alloc_last w _)
  have c1 : w1.cell? ⟨w.heap.size, 1, none⟩ = some (.string ⟨#[]⟩) := by rw [← hw1]; exact cell_of_row _ _ _ _ _ _ (heap_alloc_last w _)
  have c2 : w1.cell? ⟨w.heap.size, 2, none⟩ = some (.int .u64 1) := by rw [← hw1]; exact cell_of_row _ _ _ _ _ _ (heap_alloc_last w _)
  have c3 : w1.cell? ⟨w.heap.size, 3, none⟩ = some (.int .u64 0) := by rw [← hw1]; exact cell_of_row _ _ _ _ _ _ (heap_alloc_last w _)
  clear hw1
  obtain ⟨g2, hg2⟩ : ∃ g2, g2 = w1.heap.size := ⟨_, rfl⟩
  have Hg2 := hide hg2
  clear hg2
  go_upto_region 3 with (with_reducible refine wpl_store_last w1 rfl 33 (.tmp 2) (.tmp 14) rfl 33 _ _ rfl rfl 25 info33 rfl (by with_unfolding_all rfl) rfl ?_; rw [← Hc.out])
  try simp only [Act.put]
  rw [← Hg2.out]
  generalize hw2 : World.alloc w1 _ = w2
  have Hb2 := hide (show Below w.heap.size w w2 by rw [← hw2]; exact Hb1.out.alloc Hb1.out.size _)
  have Hx2 := hide (show w2.heap[g2]? = some (.cells hello.cells.toArray 33 (0, 0)) by rw [← hw2, Hg2.out]; exact heap_alloc_last w1 _)
  clear hw2 c0 c1 c2 c3
  have FS := hide (split_any hello w2.heap.size 2 w2 (hello_ok _ _) (Nat.le_refl _) (by decide))
  go_wp2_with (with_reducible refine wpl_load_at rfl 33 (.tmp 2) rfl g2 33 hello.cells.toArray _ Hx2.out rfl Try.underlying33 rfl 25 info33 (cells_size hello) ?_)
  refine FS.out.mono ?_
  rintro e w3 ⟨v, er, rfl, hS, hb3⟩
  obtain ⟨A, c, g, rfl, rfl, hok3, hl3⟩ := split_hello hS
  have Hb3 := hide (Hb2.out.trans (hb3.mono Hb2.out.size))
  have hz2 : g2 < w2.heap.size := (Array.getElem?_eq_some_iff.1 Hx2.out).1
  have Hx3 := hide ((hb3.block g2 hz2).trans Hx2.out)
  have HP := hide (fun i (hi : i < 3) W (hb : Below w3.heap.size w3 W) => piece_cells (hl3.below hb) hi)
  have HO := hide (fun i (hi : i < 3) W (hb : Below w3.heap.size w3 W) => (piece_ok (i := i) (s := 2) ((hok3.below hb).up hb.size) (by show 0 + i * 2 < _; omega) (by decide)))
  have c67 : w3.cell? ⟨g, 2 * 25 + 17, none⟩ = some (.int .u64 4) := (by have h := HP.out 2 (by omega) w3 (Below.refl _ _) 17 _ rfl; rwa [addrN] at h)
  have c68 : w3.cell? ⟨g, 2 * 25 + 18, none⟩ = some (.int .u64 5) := (by have h := HP.out 2 (by omega) w3 (Below.refl _ _) 18 _ rfl; rwa [addrN] at h)
  have Hcm := hide hok3.big
  clear hS hb3 hok3 hl3 FS Hx2 Hb2 hz2
  go_upto_region 6 with fail
  have hbd : Below w3.heap.size w3 w3.drew := bel_drewN (Below.refl _ _) 1
  refine Flo2.wp_region_flow (by kernel_rfl) (Boxes w3) (fun w W => Below w.heap.size w W) (boxes_goes w3) (fun d => match d with
    | 44 => is (.slice (some ⟨g, 0, none⟩) 3 3)
    | 47 => is (.slice (some ⟨g, 0, none⟩) 3 3)
    | 50 => is (.slice (some ⟨g, 0, none⟩) 3 3)
    | 45 => is (.pointer (some ⟨g, 50, none⟩))
    | 48 => is (.pointer (some ⟨g, 0, none⟩))
    | 51 => is (.pointer (some ⟨g, 25, none⟩))
    | 46 => is (.agg (pieceOf hello A c 2 2).cells.toArray)
    | 49 => is (.agg (pieceOf hello A c 2 0).cells.toArray)
    | 52 => is (.agg (pieceOf hello A c 2 1).cells.toArray)
    | 53 => fun v w => ∃ q, v = .slice (some ⟨q, 0, none⟩) 3 3 ∧ w.heap[q]? = some (.cells (rowN (aw A c)).toArray 33 (0, 0))
    | 54 => fun v _ => ∃ A' c', v = .tuple #[Bn.val { hello with A := A', c := c' }, .int .i64 0]
    | 43 => fun v _ => ∃ A' c', v = .tuple #[Bn.val { hello with A := A', c := c' }, .int .i64 0]
    | 55 => fun v _ => ∃ A' c', v = Bn.val { hello with A := A', c := c' }
    | 56 => is (.int .i64 0)
    | 6 => is (.int .i64 0)
    | 5 => fun v w => ∃ q, v = .pointer (some ⟨q, 0, none⟩) ∧ w3.heap.size ≤ q ∧ BoxAt w q
    | _ => fun _ _ => True) (fun u v w => ∃ q, u = .pointer (some ⟨q, 0, none⟩) ∧ ∃ A' c', v = Bn.val { hello with A := A', c := c' } ∧ w.heap[q]? = some (.cells (Bn.cells { hello with A := A', c := c' }).toArray 33 (0, 0))) 15 5 55 (by kernel_rfl) (by kernel_rfl) ⟨?_, ?_, ?_, ?_, ?_, ?_, ?_, ?_, ?_, ?_, ?_, ?_, ?_, ?_, ?_, ?_, ?_, trivial⟩ ?_
  · intro a w hb h
    have e := Flo2.sb h 3 (by kernel_rfl) (by kernel_rfl) rfl
    exact .val (boxes_goes w3) (by kernel_rfl) (want0 rfl) rfl (by simp [Act.eval, e, go_sem]) (Flo2.Keeps.is rfl)
  · intro a w hb h
    have e := (Flo2.sw h 44 (by kernel_rfl) (by kernel_rfl)).eq (boxes_goes w3)
    exact .val (boxes_goes w3) (by kernel_rfl) (want0 rfl) rfl (by simp [Act.eval, e, go_sem]) (Flo2.Keeps.is rfl)
  · intro a w hb h
    have e := (Flo2.sw h 45 (by kernel_rfl) (by kernel_rfl)).eq (boxes_goes w3)
    exact .val (boxes_goes w3) (by kernel_rfl) (want0 rfl) rfl (exec_load_addr 33 (.tmp 45) rfl ⟨g, 50, none⟩ (pieceOf hello A c 2 2).cells (HP.out 2 (by omega) w (hb.below (Nat.le_refl _))) e Try.underlying33 rfl info33 (Bn.cells_len _)) (Flo2.Keeps.is rfl)
  · intro a w hb h
    have e := Flo2.sb h 3 (by kernel_rfl) (by kernel_rfl) rfl
    exact .val (boxes_goes w3) (by kernel_rfl) (want0 rfl) rfl (by simp [Act.eval, e, go_sem]) (Flo2.Keeps.is rfl)
  · intro a w hb h
    have e := (Flo2.sw h 47 (by kernel_rfl) (by kernel_rfl)).eq (boxes_goes w3)
    exact .val (boxes_goes w3) (by kernel_rfl) (want0 rfl) rfl (by simp [Act.eval, e, go_sem]) (Flo2.Keeps.is rfl)
  · intro a w hb h
    have e := (Flo2.sw h 48 (by kernel_rfl) (by kernel_rfl)).eq (boxes_goes w3)
    exact .val (boxes_goes w3) (by kernel_rfl) (want0 rfl) rfl (exec_load_addr 33 (.tmp 48) rfl ⟨g, 0, none⟩ (pieceOf hello A c 2 0).cells (HP.out 0 (by omega) w (hb.below (Nat.le_refl _))) e Try.underlying33 rfl info33 (Bn.cells_len _)) (Flo2.Keeps.is rfl)
  · intro a w hb h
    have e := Flo2.sb h 3 (by kernel_rfl) (by kernel_rfl) rfl
    exact .val (boxes_goes w3) (by kernel_rfl) (want0 rfl) rfl (by simp [Act.eval, e, go_sem]) (Flo2.Keeps.is rfl)
  · intro a w hb h
    have e := (Flo2.sw h 50 (by kernel_rfl) (by kernel_rfl)).eq (boxes_goes w3)
    exact .val (boxes_goes w3) (by kernel_rfl) (want0 rfl) rfl (by simp [Act.eval, e, go_sem]) (Flo2.Keeps.is rfl)
  · intro a w hb h
    have e := (Flo2.sw h 51 (by kernel_rfl) (by kernel_rfl)).eq (boxes_goes w3)
    exact .val (boxes_goes w3) (by kernel_rfl) (want0 rfl) rfl (exec_load_addr 33 (.tmp 51) rfl ⟨g, 25, none⟩ (pieceOf hello A c 2 1).cells (HP.out 1 (by omega) w (hb.below (Nat.le_refl _))) e Try.underlying33 rfl info33 (Bn.cells_len _)) (Flo2.Keeps.is rfl)
  · intro a w hb h
    have e46 := (Flo2.sw h 46 (by kernel_rfl) (by kernel_rfl)).eq (boxes_goes w3)
    have e49 := (Flo2.sw h 49 (by kernel_rfl) (by kernel_rfl)).eq (boxes_goes w3)
    have e52 := (Flo2.sw h 52 (by kernel_rfl) (by kernel_rfl)).eq (boxes_goes w3)
    have hbl := (Below.refl w.heap.size w).alloc (Nat.le_refl _) (.cells (rowN (aw A c)).toArray 33)
    exact .made (d := 53) (by kernel_rfl) (want0 rfl) rfl (fun K Q hK => wp_build_bns 3 _ rfl (aw A c) rfl (by omega) (by omega) (by simp only [List.toArray, Array.toList_map, List.map_cons, List.map_nil, Act.eval, e46, e49, e52]; rfl) hK) (Boxes.of hbl) hbl (fun W hW => ⟨w.heap.size, rfl, hW.row (heap_alloc_last w _) (by show (rowN (aw A c)).toArray.size ≠ 25; rw [List.size_toArray, rowN_len, show (aw A c).length = 3 from rfl]; decide)⟩)
  · intro a w hb h
    obtain ⟨q, e, hq⟩ := (Flo2.sw h 53 (by kernel_rfl) (by kernel_rfl)).now (boxes_goes w3)
    have hL : Lies w w.heap.size (some ⟨q, 0, none⟩) ((aw A c).flatMap Bn.cells) := .inr ⟨_, rfl, (Array.getElem?_eq_some_iff.1 hq).1, fun j u hu => by
      rw [addr0, cell_of_row _ _ _ _ _ _ hq]
      simpa [rowN] using hu⟩
    refine .called (d := 54) (by kernel_rfl) (want0 rfl) rfl (by simp [Act.eval, e, go_sem]) ((join_any ⟨q, 0, none⟩ 3 3 w.heap.size _ _ (aw A c) w rfl hL (aw_ok Hcm.out w w.heap.size) rfl (Nat.le_refl _) (by omega)).mono ?_)
    rintro e w' ⟨X, er, rfl, _, hJ, hbj⟩
    obtain ⟨he, A', c', hX⟩ := join_pieces hello_cuts (aw_all A c) rfl hJ
    exact ⟨_, rfl, Boxes.of hbj, hbj, fun W hW => ⟨A', c', by rw [hX, he]⟩⟩
  · intro a w hb h
    obtain ⟨A', c', e⟩ := (Flo2.sw h 54 (by kernel_rfl) (by kernel_rfl)).now (boxes_goes w3)
    exact .val (boxes_goes w3) (d := 43) (by kernel_rfl) (want0 rfl) rfl (by simp [Act.eval, e, go_sem]) (fun W hW => ⟨A', c', rfl⟩)
  · intro a w hb h
    obtain ⟨A', c', e⟩ := (Flo2.sw h 43 (by kernel_rfl) (by kernel_rfl)).now (boxes_goes w3)
    exact .val (boxes_goes w3) (d := 55) (by kernel_rfl) (want0 rfl) rfl (by simp [Act.eval, e, go_sem]) (fun W hW => ⟨A', c', rfl⟩)
  · intro a w hb h
    obtain ⟨A', c', e⟩ := (Flo2.sw h 43 (by kernel_rfl) (by kernel_rfl)).now (boxes_goes w3)
    exact .val (boxes_goes w3) (d := 56) (by kernel_rfl) (want0 rfl) rfl (by simp [Act.eval, e, go_sem]) (Flo2.Keeps.is rfl)
  · intro a w hb h
    have hbl := (Below.refl w.heap.size w).alloc (Nat.le_refl _) (.cells zBn.cells.toArray 33)
    have hr : (execOp a.eval { dst := some 5, op := .alloc 33, type := 0, pos := "law.go:20", after := #[], guard := none }).run Try.prog w = .ok (.value (.pointer (some ⟨w.heap.size, 0, none⟩))) (w.alloc (.cells zBn.cells.toArray 33)) := by
      rw [zBn_cells]
      simp [go_sem]
    exact .made (d := 5) (by kernel_rfl) (want0 rfl) rfl (fun K Q hK => by unfold Oper.wp; rw [hr]; exact hK) (Boxes.of hbl) hbl (fun W hW => ⟨w.heap.size, rfl, hb.size, hW.box ⟨_, rfl, heap_alloc_last w _⟩⟩)
  · intro a w hb h
    obtain ⟨q, e5, h0, hq⟩ := (Flo2.sw h 5 (by kernel_rfl) (by kernel_rfl)).now (boxes_goes w3)
    obtain ⟨A', c', e⟩ := (Flo2.sw h 55 (by kernel_rfl) (by kernel_rfl)).now (boxes_goes w3)
    obtain ⟨cs, hcs, hq2⟩ := hq
    exact .writes (want0 rfl) rfl rfl (fun K Q hK => wp_store_row 33 (.tmp 5) (.tmp 55) rfl q (Bn.cells { hello with A := A', c := c' }).toArray e5 e 33 cs hq2 (by rw [info33, cells_size]) (by rw [hcs, cells_size]) (by rw [← Array.all_toList]; exact cells_one _) hK) (Boxes.store ⟨cs, hcs, hq2⟩ h0 (cells_size _)) (fun W hW => ⟨q, e5, A', c', e, (hW.block q (by simpa using (Array.getElem?_eq_some_iff.1 hq2).1)).trans (setRow_heap w q _ _ _ _ hq2)⟩)
  · intro a w hb h
    have e := (Flo2.sw h 56 (by kernel_rfl) (by kernel_rfl)).eq (boxes_goes w3)
    exact .val (boxes_goes w3) (by kernel_rfl) (want0 rfl) rfl (by simp [Act.eval, e, go_sem]) (Flo2.Keeps.is rfl)
  · intro a w4 hdf hsz hR hwr hkp hψ
    obtain ⟨q5, e5, A', c', e55, hx4⟩ := hψ
    obtain ⟨q53, e53, _⟩ := hwr 53 (by kernel_rfl)
    obtain ⟨A1, c1, e54⟩ := hwr 54 (by kernel_rfl)
    obtain ⟨A2, c2, e43⟩ := hwr 43 (by kernel_rfl)
    have hfr := Flo2.frame_eq [(44, .slice (some ⟨g, 0, none⟩) 3 3), (45, .pointer (some ⟨g, 50, none⟩)), (46, .agg (pieceOf hello A c 2 2).cells.toArray), (47, .slice (some ⟨g, 0, none⟩) 3 3), (48, .pointer (some ⟨g, 0, none⟩)), (49, .agg (pieceOf hello A c 2 0).cells.toArray), (50, .slice (some ⟨g, 0, none⟩) 3 3), (51, .pointer (some ⟨g, 25, none⟩)), (52, .agg (pieceOf hello A c 2 1).cells.toArray), (53, .slice (some ⟨q53, 0, none⟩) 3 3), (54, .tuple #[Bn.val { hello with A := A1, c := c1 }, .int .i64 0]), (43, .tuple #[Bn.val { hello with A := A2, c := c2 }, .int .i64 0]), (55, Bn.val { hello with A := A', c := c' }), (56, .int .i64 0), (6, .int .i64 0), (5, .pointer (some ⟨q5, 0, none⟩))] a.tmps _ hsz (by
      intro x hx
      simp only [List.mem_cons, List.not_mem_nil, or_false] at hx
      rcases hx with h | h | h | h | h | h | h | h | h | h | h | h | h | h | h | h <;> subst h
      · exact hwr 44 (by kernel_rfl)
      · exact hwr 45 (by kernel_rfl)
      · exact hwr 46 (by kernel_rfl)
      · exact hwr 47 (by kernel_rfl)
      · exact hwr 48 (by kernel_rfl)
      · exact hwr 49 (by kernel_rfl)
      · exact hwr 50 (by kernel_rfl)
      · exact hwr 51 (by kernel_rfl)
      · exact hwr 52 (by kernel_rfl)
      · exact e53
      · exact e54
      · exact e43
      · exact e55
      · exact hwr 56 (by kernel_rfl)
      · exact hwr 6 (by kernel_rfl)
      · exact e5) (by
      intro t ht
      refine hkp t ?_
      clear hwr hkp
      exact writes_not _ _ (by kernel_rfl) ht)
    have Hb4 := hide (Hb3.out.trans ((hR.below (Nat.le_refl _)).mono Hb3.out.size))
    have Hx4 := hide hx4
    have hg3 : g2 < w3.heap.size := (Array.getElem?_eq_some_iff.1 Hx3.out).1
    have Hx2 := hide (((hR.below (Nat.le_refl _)).block g2 hg3).trans Hx3.out)
    have HP4 := hide (fun i hi W (hb : Below w4.heap.size w4 W) => HP.out i hi W ((hR.below (Nat.le_refl _)).trans (hb.mono hR.size)))
    have ha := act_ext hfr hdf
    clear hwr hkp hsz e5 e55 e53 e54 e43 hx4 HP Hx3 HO Hb3 hg3 hfr hdf
    subst ha
    simp only [Flo2.puts, List.foldl_cons, List.foldl_nil, List.setIfInBounds_toArray, List.set]
    go_upto_region 7 with fail
    have hbd : Below w4.heap.size w4 w4.drew := bel_drewN (Below.refl _ _) 1
    refine wp_region_still_tail 6 (by kernel_rfl) (by kernel_rfl) ?_
    simp only [List.take_succ_cons, List.take_zero, List.drop_succ_cons, List.drop_zero]
    still_step
    still_step
    refine still_load_addr rfl 33 (.tmp 58) rfl ⟨g, 0, none⟩ (pieceOf hello A c 2 0).cells (HP4.out 0 (by omega) w4.drew hbd) rfl _ Try.underlying33 rfl 25 info33 (Bn.cells_len _) ?_
    still_step
    still_step
    refine still_load_addr rfl 33 (.tmp 61) rfl ⟨g, 50, none⟩ (pieceOf hello A c 2 2).cells (HP4.out 2 (by omega) w4.drew hbd) rfl _ Try.underlying33 rfl 25 info33 (Bn.cells_len _) ?_
    refine wpStill_nil ?_
    change wpList _ _ _ _ _ w4.drew
    have Hb5 := hide (Hb4.out.trans (hbd.mono Hb4.out.size))
    have Hx5 := hide (show w4.drew.heap[q5]? = _ from Hx4.out)
    have Hx25 := hide (show w4.drew.heap[g2]? = _ from Hx2.out)
    clear hbd HP4 Hb4 Hx4 Hx2
    generalize w4.drew = w5 at *
    obtain ⟨g6, hg6⟩ : ∃ g6, g6 = w5.heap.size := ⟨_, rfl⟩
    have hbl := (Below.refl w5.heap.size w5).alloc (Nat.le_refl _) (.cells (rowN [pieceOf hello A c 2 0, pieceOf hello A c 2 2]).toArray 33)
    have hlies := Lies.new w5 (rowN [pieceOf hello A c 2 0, pieceOf hello A c 2 2]).toArray 33 (0, 0) (w5.heap.size + 1) (by omega)
    have hok5 := aw_ok (A := A) Hcm.out w5 0
    have FH := hide (holes_any 5 ⟨w5.heap.size, 0, none⟩ 2 2 (w5.heap.size + 1) [pieceOf hello A c 2 0, pieceOf hello A c 2 2] _ hlies rfl (by simp) (by omega) (by omega) (by omega) (by
      intro b hb
      have hb2 : b ∈ aw A c := by simp only [aw, List.mem_cons, List.not_mem_nil, or_false] at hb ⊢; rcases hb with h | h <;> simp [h]
      exact ⟨(hok5 b hb2).off, (hok5 b hb2).data⟩))
    have Hbl := hide hbl
    clear hlies hok5 hbl hg6
    go_wp2_with (with_reducible refine wpl_build_bns rfl 2 _ rfl [pieceOf hello A c 2 0, pieceOf hello A c 2 2] rfl (by omega) (by omega) (by with_unfolding_all rfl) ?_)
    refine FH.out.mono ?_
    intro e w6 hH
    unfold HolePost at hH
    obtain ⟨σ, s, A6, m6, c6, hR6, hsl, hsk, rfl, hm, hL6, hb6⟩ := hH
    have hh := holes_hello (hR6.sorted hsl hsk) hsl
    rw [hh] at hm hL6
    obtain rfl : m6 = 1 := hm
    have Hb6 := hide (Hb5.out.trans ((Hbl.out.trans (hb6.mono (by simp))).mono Hb5.out.size))
    have hb56 := Hbl.out.trans (hb6.mono (by simp))
    have hq5 : q5 < w5.heap.size := (Array.getElem?_eq_some_iff.1 Hx5.out).1
    have hq2 : g2 < w5.heap.size := (Array.getElem?_eq_some_iff.1 Hx25.out).1
    have R5 := hide (range_of_row ((hb56.block q5 hq5).trans Hx5.out))
    have R2 := hide (range_of_row ((hb56.block g2 hq2).trans Hx25.out))
    obtain ⟨a6, hA6, _, hc6⟩ : ∃ a6, A6 = some a6 ∧ a6.block < w6.heap.size ∧ ∀ j v, (hcells [(2, 4)])[j]? = some v → w6.cell? (a6.add j) = some v := by
      rcases hL6 with h | ⟨a6, h1, h2, h3⟩
      · simp [hcells] at h
      · exact ⟨a6, h1, h2, h3⟩
    subst hA6
    have k0 := hc6 0 _ rfl
    have k1 := hc6 1 _ rfl
    have FR := hide (fun W => rsame_any hello { hello with A := A', c := c' } W.heap.size W (.inl rfl) (.inl rfl) rfl rfl (Nat.le_refl _) (by decide))
    have hsame : hello.sameN { hello with A := A', c := c' } = true := sameN_self hello A' c'
    rw [hsame] at FR
    clear hR6 hsl hsk hL6 hb6 hh hc6 FH hsame hq5 hq2 hb56 Hx5 Hx25 Hbl Hb5
    go_wp2_with (first
      | (with_reducible refine wpl_load_want ?_ 33 (.tmp 2) rfl g2 0 hello.cells R2.out rfl _ Try.underlying33 rfl 25 info33 (Bn.cells_len _) ?_)
      | (with_reducible refine wpl_load_want ?_ 33 (.tmp 5) rfl q5 0 (Bn.cells { hello with A := A', c := c' }) R5.out rfl _ Try.underlying33 rfl 25 info33 (Bn.cells_len _) ?_))
    refine (FR.out _).mono ?_
    rintro e w7 ⟨rfl, hb7⟩
    have Hb7 := hide (Hb6.out.trans (hb7.mono Hb6.out.size))
    have hba : a6.block < w6.heap.size := by assumption
    have k0' : w7.cell? a6 = some (.int .u64 2) := (hb7.cell (p := a6.add 0) (by rw [Addr.add_block]; exact hba)).trans k0
    have k1' : w7.cell? ⟨a6.block, a6.off + 1, none⟩ = some (.int .u64 4) := (hb7.cell (p := a6.add 1) (by rw [Addr.add_block]; exact hba)).trans k1
    clear hb7 k0 k1 R5 R2 FR
    go_wp2_with fail
    refine (many_any 7 3 w7 (by omega) (by omega) (by omega)).mono ?_
    rintro e w8 ⟨rfl, rfl⟩
    rw [show manyN 7 3 = 3 from rfl]
    have qa : ∀ W, (Op.equalIn 10000 51 (.agg #[.int .u64 2, .int .u64 4]) (.agg #[.int .u64 2, .int .u64 4])).run Try.prog W = .ok true W := fun W => eq51 9998 W
    go_wp2
    go_ret
    exact ⟨rfl, Hb7.out⟩

end Go.Proofs.Ytlbgcbekjjkokaa
