/-
  CONTRACTS of package mirror: up, asker, what it makes.
-/
import Derived.Test.YtigpplckddnghaaMrI
import Derived.Test.YtigpplckddnghaaGet
import Derived.Test.YtigpplckddnghaaTbV
import Derived.Test.YtigpplckddnghaaFlow
import Derived.Test.YtigpplckddnghaaElem
import Derived.Test.YtigpplckddnghaaTbF
namespace Go.Proofs.Ytigpplckddnghaa
open Go.RowKit
set_option maxRecDepth 8000

section
variable {w : World} {B0 B : Nat} {D : Dv} {k kb kp km : Nat}
theorem up_any (h : DevAt w B0 B D k kb kp km) : Calls Try.prog 20 #[.pointer (some ⟨k, 0, none⟩)] w fun e w' => e = .returned (.int .i64 (if D.dn = true then 9 else 0)) ∧ w = w' := by
  have F := hide (down_any h)
  clear h
  generalize D.dn = dn at *
  cases dn with
  | true =>
    rw [if_pos rfl]
    go_enter Try.func20, Try.ntmps20
    go_wp2_with fail
    (with_reducible refine F.out.mono ?_)
    rintro e w1 ⟨rfl, rfl⟩
    go_wp2
    go_ret
    exact ⟨rfl, rfl⟩
  | false =>
    rw [if_neg (by decide)]
    go_enter Try.func20, Try.ntmps20
    go_wp2_with fail
    (with_reducible refine F.out.mono ?_)
    rintro e w1 ⟨rfl, rfl⟩
    go_wp2
    go_ret
    exact ⟨rfl, rfl⟩
end
theorem asker_any (p : Option Addr) (w : World) : Calls Try.prog 29 #[.pointer p] w fun e w' => e = .returned (.func (.func 42) #[] #[.pointer (some ⟨w.heap.size, 0, none⟩)]) ∧ w' = w.alloc (.cells #[.pointer p] 32) := by
  go_enter Try.func29, Try.ntmps29
  go_wp2
  go_ret
  exact ⟨rfl, rfl⟩
section
variable {w : World} {B0 B : Nat} {D : Dv} {k kb kp km : Nat}
theorem ask_any (h : DevAt w B0 B D k kb kp km) (hB : B ≤ w.heap.size) (hd : D.dn = false) (r j g : Nat) (hr : r < D.nb) (hj : j < D.np) (hg : w.heap[g]? = some (.cells #[.pointer (some ⟨k, 0, none⟩)] 32 (0, 0))) :
    Calls Try.prog 42 #[.agg #[.int .i64 (r : Int), .int .i64 (j : Int)], .pointer (some ⟨g, 0, none⟩)] w (GetEnd w (D.pg (r * D.np + j))) := by
  have hpl := h.plen _ (lt_mul hr hj)
  have hb1 := (Below.refl w.heap.size w).alloc (Nat.le_refl _) (.cells #[.int .i64 (r : Int), .int .i64 (j : Int)] 74)
  have hb2 := hb1.alloc hb1.size (.cells #[.int .u64 0, .slice none 0 0, .slice none 0 0, .slice none 0 0] 39)
  have hgl : g < w.heap.size := (Array.getElem?_eq_some_iff.1 hg).1
  have hg2 := (hb2.block g hgl).trans hg
  have hz2 := BoxT.new zeroTl (w.alloc (.cells #[.int .i64 (r : Int), .int .i64 (j : Int)] 74))
  rw [show (w.alloc (.cells #[.int .i64 (r : Int), .int .i64 (j : Int)] 74)).heap.size = w.heap.size + 1 by simp] at hz2
  have c0 := cell_of_one hg2
  have F := hide (read_ok (h.below (hb2.mono hB)) (Nat.le_trans hB hb2.size) r j hd hr hj)
  have HB := hide hb2
  have HZ : Hid (BoxT zeroTl (w.heap.size + 1) ((w.alloc (.cells #[.int .i64 (r : Int), .int .i64 (j : Int)] 74)).alloc (.cells #[.int .u64 0, .slice none 0 0, .slice none 0 0, .slice none 0 0] 39))) := hide hz2
  have Hpl := hide hpl
  generalize D.pg (r * D.np + j) = pg at *
  clear h hB hd hr hj hg hb1 hb2 hgl hg2 hz2 hpl
  go_enter Try.func42, Try.ntmps42
  go_wp2_with fail
  (with_reducible refine F.out.mono ?_)
  rintro e w2 ⟨A, c, rfl, ho, hb⟩
  obtain ⟨A9, c9, e9, hk9, _⟩ := own_form ho
  have hk5 : 256 ≤ c := by injection e9 with _ _ h; omega
  have HB2 := hide (HB.out.trans (hb.mono HB.out.size))
  have Hs2 := hide HB2.out.size
  have HZ2 := hide (HZ.out.below hb HZ.out.lt)
  have Fg := hide (tget_any A 256 c w2.heap.size pg w2 (Lies.of_own ho) Hpl.out.symm hk5 (Nat.le_refl _) (by omega))
  clear ho hb e9 hk9 hk5 F HB HZ c0
  unfold GetEnd at Fg
  go_wp2_with fail
  (with_reducible refine Fg.out.mono ?_)
  rintro e w3 ⟨x, q, rfl, hxt, hq, hok, hfew, hb, hhi⟩
  have HB3 := hide (HB2.out.trans (hb.mono HB2.out.size))
  have HZ3 := hide (HZ2.out.below hb HZ2.out.lt)
  have Hlt := hide HZ2.out.lt
  have Hxt := hide hxt
  have Hq := hide hq
  have Hok := hide hok
  have Hfew := hide hfew
  have Hhi := hide hhi
  have e0 : x.val = .agg #[.int .u64 (x.t.seq : Int), .slice x.A1 x.t.bad.length x.c1, .slice x.A2 x.t.wear.length x.c2, .slice x.A3 x.t.void.length x.c3] := rfl
  rw [e0]
  clear hxt hq hok hfew hhi hb Fg HB2 HZ2
  have z0 := HZ3.out.c 0 _ rfl
  have z1 := HZ3.out.c 1 _ rfl
  have z2 := HZ3.out.c 2 _ rfl
  have z3 := HZ3.out.c 3 _ rfl
  have y0 := HZ3.out.free 0
  have y1 := HZ3.out.free 1
  have y2 := HZ3.out.free 2
  have y3 := HZ3.out.free 3
  go_wp2
  refine bodyPost_ret (results_tb1 rfl _ _ x (w.heap.size + 1) rfl (boxT4 HZ3.out)) rfl ⟨x, q, rfl, Hxt.out, Hq.out, ?_, Hfew.out, below4 HB3.out (Nat.le_succ _) _ _ _ _, Hhi.out.mono Hs2.out⟩
  · exact ((((Hok.out.set Hhi.out Hlt.out).set Hhi.out Hlt.out).set Hhi.out Hlt.out).set Hhi.out Hlt.out).up (by simp [World.setCell])
end
theorem field_blocks (b n r : Int) (W : World) : (Instr.field 23 (.agg #[.int .i64 b, .int .i64 n, .int .i64 r]) 0).run Try.prog W = .ok (.int .i64 b) W := by kernel_rfl
theorem field_pages (b n r : Int) (W : World) : (Instr.field 23 (.agg #[.int .i64 b, .int .i64 n, .int .i64 r]) 1).run Try.prog W = .ok (.int .i64 n) W := by kernel_rfl
theorem telems : Elems Try.prog 28 39 4 80 := by
  obtain ⟨i0, hi, hz0, hz1, hz2⟩ := info_parts (show (Try.prog.info? 39).map (fun i => (i.zero, i.size, i.bytes)) = some (some (.agg #[.int .u64 0, .slice none 0 0, .slice none 0 0, .slice none 0 0]), 4, 80) by kernel_rfl)
  exact ⟨Try.underlying28, ⟨i0, _, hi, hz0, hz1, hz2, rfl⟩, by decide⟩
def rowT (l : List Tl) : List Value := l.flatMap Tl.cells
theorem Tl.cells_len (x : Tl) : x.cells.length = 4 := rfl
theorem rowT_len (l : List Tl) : (rowT l).length = l.length * 4 := flat_len _ 4 Tl.cells_len l
theorem rowT_app (l : List Tl) (x : Tl) : rowT (l ++ [x]) = rowT l ++ x.cells := by simp [rowT]
/-- Tables one behind the other. -/
structure Tls (l : List Tl) (T : List Tb) (W : World) : Prop where
  same : l.map (·.t) = T
  ok : ∀ x ∈ l, x.Ok W W.heap.size
  few : ∀ x ∈ l, x.Few
theorem Tls.below {l : List Tl} {T : List Tb} {W W' : World} (h : Tls l T W) (hb : Below W.heap.size W W') : Tls l T W' :=
  ⟨h.same, fun x hx => ((h.ok x hx).below hb).up hb.size, h.few⟩
theorem Tls.len {l : List Tl} {T : List Tb} {W : World} (h : Tls l T W) : l.length = T.length := by rw [← h.same, List.length_map]
theorem tabsF_few (pg : Nat → List UInt8) (z : Nat) : ∀ n, (tabsF pg z n).length ≤ n
  | 0 => Nat.le_refl _
  | n + 1 => by
    unfold tabsF
    rw [List.length_append]
    have := tabsF_few pg z n
    cases tabOf (pg (z + n)) <;> simp <;> omega
/-- What Tables' loop keeps behind n pages. -/
structure TabS (w : World) (D : Dv) (r n g : Nat) (k B0 B kb kp km : Nat) (l : List Tl) (v : Value) (W : World) : Prop where
  dev : DevAt W B0 B D k kb kp km
  box : W.heap[g]? = some (.cells #[.pointer (some ⟨k, 0, none⟩)] 32 (0, 0))
  tls : Tls l (tabsF D.pg (r * D.np) n) W
  own : W.ownsRow (w.heap.size + 1) 39 4 v l.length (rowT l)
  off : ∀ x ∈ l, ∀ g, v.ownBlock = some g → x.Off g
  hi : ∀ x ∈ l, x.Hi w.heap.size
  below : Below w.heap.size w W
theorem TabS.later {w : World} {D : Dv} {r n g : Nat} {k B0 B kb kp km : Nat} {l : List Tl} {v : Value} {W W' : World} (h : TabS w D r n g k B0 B kb kp km l v W) (hB : B ≤ W.heap.size) (hb : Below W.heap.size W W') : TabS w D r n g k B0 B kb kp km l v W' :=
  ⟨h.dev.below (hb.mono hB), (hb.block g (Array.getElem?_eq_some_iff.1 h.box).1).trans h.box, h.tls.below hb, own_keepT h.own hb, h.off, h.hi, h.below.trans (hb.mono h.below.size)⟩
theorem tabOf_zero {b : List UInt8} (h : (getT b).2 = 0) : tabOf b = some (getT b).1 := if_pos h
theorem tabOf_not {b : List UInt8} (h : (getT b).2 ≠ 0) : tabOf b = none := if_neg h
section
variable {w W w5 w6 : World} {D : Dv} {r n g k B0 B kb kp km : Nat} {l : List Tl} {v : Value}
/-- A page without a table. -/
theorem TabS.skip (h : TabS w D r n g k B0 B kb kp km l v W) (hB : B ≤ W.heap.size) (hb : Below W.heap.size W w5) (hq : (getT (D.pg (r * D.np + n))).2 ≠ 0) : TabS w D r (n + 1) g k B0 B kb kp km l v w5 := by
  have h2 := h.later hB hb
  refine ⟨h2.dev, h2.box, ⟨?_, h2.tls.ok, h2.tls.few⟩, h2.own, h2.off, h2.hi, h2.below⟩
  show _ = tabsF D.pg (r * D.np) n ++ (tabOf (D.pg (r * D.np + n))).toList
  rw [tabOf_not hq]
  simpa using h2.tls.same
/-- A page with one, behind its append. -/
theorem TabS.more (h : TabS w D r n g k B0 B kb kp km l v W) (hB : B ≤ w.heap.size) (hg0 : g = w.heap.size) (hb : Below W.heap.size W w5) (hq : (getT (D.pg (r * D.np + n))).2 = 0) {x : Tl} (hx : x.t = (getT (D.pg (r * D.np + n))).1) (ho : x.Ok w5 w5.heap.size) (hf : x.Few) (hh : x.Hi W.heap.size)
    {A : Option Addr} {c : Nat} (hown : w6.ownsRow (w.heap.size + 1) 39 4 (.slice A (l.length + 1) c) (l.length + 1) (rowT l ++ x.cells)) (hg : w5.grownBy w6 v.ownBlock) (hat : (Value.slice A (l.length + 1) c).ownBlock = v.ownBlock ∨ (Value.slice A (l.length + 1) c).ownBlock = some w5.heap.size) : TabS w D r (n + 1) g k B0 B kb kp km (l ++ [x]) (.slice A (l ++ [x]).length c) w6 := by
  have hBW : B ≤ W.heap.size := Nat.le_trans hB h.below.size
  have h2 := h.later hBW hb
  have hlow : ∀ q, v.ownBlock = some q → w.heap.size + 1 ≤ q ∧ q < W.heap.size := by
    intro q e
    rcases h.own.2 with ⟨hv, _⟩ | ⟨g2, cap, cur, hv, h3, h4, _⟩
    · rw [hv] at e; cases e
    · rw [hv] at e
      have e' : some g2 = some q := e
      injection e' with e'
      have := (Array.getElem?_eq_some_iff.1 h4).1
      omega
  have hw6 : Below w.heap.size w w6 := h2.below.grown hg h2.below.size (fun q e => by have := (hlow q e).1; omega)
  have hb6 : Below w.heap.size w5 w6 := (Below.refl w.heap.size w5).grown hg h2.below.size (fun q e => by have := (hlow q e).1; omega)
  have offx : ∀ q, v.ownBlock = some q → x.Off q := fun q e => hh.off (hlow q e).2
  have len : (l ++ [x]).length = l.length + 1 := by simp
  rw [len]
  refine ⟨h2.dev.below (hb6.mono hB), (hg.block g (Array.getElem?_eq_some_iff.1 h2.box).1 (fun e => by have := (hlow g e.symm).1; omega)).trans h2.box, ⟨?_, ?_, ?_⟩, ?_, ?_, ?_, hw6⟩
  · show _ = tabsF D.pg (r * D.np) n ++ (tabOf (D.pg (r * D.np + n))).toList
    rw [tabOf_zero hq, List.map_append, h2.tls.same, ← hx]
    rfl
  · intro y hy
    rcases List.mem_append.1 hy with hy | hy
    · exact ((h2.tls.ok y hy).grown hg (Nat.le_refl _) (fun q e => h.off y hy q e)).up hg.size
    · rw [List.mem_singleton.1 hy]
      exact (ho.grown hg (Nat.le_refl _) offx).up hg.size
  · intro y hy
    rcases List.mem_append.1 hy with hy | hy
    · exact h.tls.few y hy
    · rw [List.mem_singleton.1 hy]; exact hf
  · rw [rowT_app, len]; exact hown
  · intro y hy q e
    rcases hat with e2 | e2
    · rw [e2] at e
      rcases List.mem_append.1 hy with hy | hy
      · exact h.off y hy q e
      · rw [List.mem_singleton.1 hy]; exact offx q e
    · rw [e2] at e
      injection e with e
      rcases List.mem_append.1 hy with hy | hy
      · exact (h2.tls.ok y hy).off (by omega)
      · rw [List.mem_singleton.1 hy]; exact ho.off (by omega)
  · intro y hy
    rcases List.mem_append.1 hy with hy | hy
    · exact h.hi y hy
    · rw [List.mem_singleton.1 hy]; exact hh.mono h.below.size
end
/-- What Newest tells. -/
def newV : Option (Tb × Nat) → Tb × Int × Int
  | none => (zeroT, 0, 8)
  | some (u, r) => (u, (r : Int), 0)
theorem results_tb3 {fn : Func} {p u s : Tmp} (h : fn.results = #[.cell p 39, .tmp u, .tmp s]) (tmps : Array Value) (W : World) (x : Tl) (k : Nat) (hp : tmps.getD p undef = .pointer (some ⟨k, 0, none⟩)) (hx : BoxT x k W) :
    (results fn tmps).run Try.prog W = .ok (.tuple #[x.val, tmps.getD u undef, tmps.getD s undef]) W := by
  have hp' : tmps[p]?.getD undef = .pointer (some ⟨k, 0, none⟩) := by simpa using hp
  simp [results, h, hp', asAddr, load_table hx, Result.andThen]
/-- What Newest's loops know. -/
structure NewS (w : World) (D : Dv) (k B0 B kb kp km : Nat) (acc : Option (Tb × Nat)) (x : Tl) (W : World) : Prop where
  dev : DevAt W B0 B D k kb kp km
  bz : BoxT zeroTl w.heap.size W
  bx : BoxT x (w.heap.size + 1) W
  ok : x.Ok W W.heap.size
  few : x.Few
  off0 : x.Off w.heap.size
  off1 : x.Off (w.heap.size + 1)
  hi : x.Hi w.heap.size
  same : x.t = (newV acc).1
  below : Below w.heap.size w W
section
variable {w W W' : World} {D : Dv} {k B0 B kb kp km : Nat} {acc acc' : Option (Tb × Nat)} {x y : Tl}
theorem NewS.later (h : NewS w D k B0 B kb kp km acc x W) (hB : B ≤ W.heap.size) (hb : Below W.heap.size W W') : NewS w D k B0 B kb kp km acc x W' :=
  ⟨h.dev.below (hb.mono hB), h.bz.below hb h.bz.lt, h.bx.below hb h.bx.lt, (h.ok.below hb).up hb.size, h.few, h.off0, h.off1, h.hi, h.same, h.below.trans (hb.mono h.below.size)⟩
theorem NewS.kept (h : NewS w D k B0 B kb kp km acc x W) (e : x.t = (newV acc').1) : NewS w D k B0 B kb kp km acc' x W := ⟨h.dev, h.bz, h.bx, h.ok, h.few, h.off0, h.off1, h.hi, e, h.below⟩
end
/-- The four stores of a table. -/
def putT (W : World) (k : Nat) (x : Tl) : World := (((W.setCell ⟨k, 0, none⟩ (.int .u64 (x.t.seq : Int))).setCell ⟨k, 1, none⟩ (.slice x.A1 x.t.bad.length x.c1)).setCell ⟨k, 2, none⟩ (.slice x.A2 x.t.wear.length x.c2)).setCell ⟨k, 3, none⟩ (.slice x.A3 x.t.void.length x.c3)
theorem putT_size (W : World) (k : Nat) (x : Tl) : (putT W k x).heap.size = W.heap.size := by simp [putT, World.setCell]
theorem Tl.Ok.putT {x y : Tl} {w : World} {B k : Nat} (h : x.Ok w B) (hi : x.Off k) : x.Ok (putT w k y) B := (((h.setO hi).setO hi).setO hi).setO hi
theorem BoxT.putT {x y : Tl} {w : World} {k g : Nat} (h : BoxT x g w) (hk : g ≠ k) : BoxT x g (putT w k y) :=
  (Below.heap_setCell _ _ _ _ hk).trans ((Below.heap_setCell _ _ _ _ hk).trans ((Below.heap_setCell _ _ _ _ hk).trans ((Below.heap_setCell _ _ _ _ hk).trans h)))
theorem putT_block {w : World} {k g : Nat} (y : Tl) (hk : g ≠ k) : (putT w k y).heap[g]? = w.heap[g]? :=
  (Below.heap_setCell _ _ _ _ hk).trans ((Below.heap_setCell _ _ _ _ hk).trans ((Below.heap_setCell _ _ _ _ hk).trans (Below.heap_setCell _ _ _ _ hk)))
theorem putT_below {w W : World} {B k : Nat} (h : Below B w W) (hk : B ≤ k) (y : Tl) : Below B w (putT W k y) := below4 h hk _ _ _ _
theorem lies_putT {w : World} {B k : Nat} {A : Option Addr} {xs : List Value} (h : Lies w B A xs) (hk : xs = [] ∨ ∃ a, A = some a ∧ a.block ≠ k) (y : Tl) : Lies (putT w k y) B A xs :=
  lies_setO (lies_setO (lies_setO (lies_setO h hk) hk) hk) hk
theorem Tl.Ok.putS {x y : Tl} {w : World} {k : Nat} (h : x.Ok w w.heap.size) (hi : x.Off k) : x.Ok (Go.Proofs.Ytigpplckddnghaa.putT w k y) (Go.Proofs.Ytigpplckddnghaa.putT w k y).heap.size := by rw [putT_size]; exact h.putT hi
theorem lies_putS {w : World} {k : Nat} {A : Option Addr} {xs : List Value} (h : Lies w w.heap.size A xs) (hk : xs = [] ∨ ∃ a, A = some a ∧ a.block ≠ k) (y : Tl) : Lies (putT w k y) (putT w k y).heap.size A xs := by rw [putT_size]; exact lies_putT h hk y
theorem NewS.take {w W : World} {D : Dv} {k B0 B kb kp km : Nat} {acc acc' : Option (Tb × Nat)} {x y : Tl} (h : NewS w D k B0 B kb kp km acc x W) (hB : B ≤ w.heap.size) (ho : y.Ok W W.heap.size) (hf : y.Few) (h0 : y.Off w.heap.size) (h1 : y.Off (w.heap.size + 1)) (hh : y.Hi w.heap.size) (e : y.t = (newV acc').1) : NewS w D k B0 B kb kp km acc' y (putT W (w.heap.size + 1) y) :=
  ⟨h.dev.below (putT_below (Below.refl _ _) (by omega) y), h.bz.putT (by omega), boxT4 h.bx, by rw [putT_size]; exact ho.putT h1, hf, h0, h1, hh, e, putT_below h.below (Nat.le_succ _) y⟩
end Go.Proofs.Ytigpplckddnghaa
