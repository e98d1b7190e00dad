/-
  CONTRACTS of package mirror: up, asker, what it makes.
  CONTRACTS of package mirror: Tables.
-/
import Derived.Test.YtigpplckddnghaaGreatMrI
import Derived.Test.YtigpplckddnghaaGreatFlo4
import Derived.Test.YtigpplckddnghaaGreatTbV
import Derived.Test.YtigpplckddnghaaGreatFlow
import Derived.Test.YtigpplckddnghaaGreatTbF
namespace Go.Proofs.YtigpplckddnghaaGreat
section
open Go.RowKit
set_option maxRecDepth 8000

theorem up_nil (w : World) : Calls Tryz.prog 46 #[.pointer none] w fun e w' => e = .returned (.int .i64 1) ∧ w = w' := by
  go_enter Tryz.func46, Tryz.ntmps46
  go_wp2
  go_ret
  exact ⟨rfl, rfl⟩
section
variable {w : World} {B0 B : Nat} {D : Dv} {k kb kp km : Nat}
theorem up_any (h : DevAt w B0 B D k kb kp km) : Calls Tryz.prog 46 #[.pointer (some ⟨k, 0, none⟩)] w fun e w' => e = .returned (.int .i64 (if D.dn = true then 9 else 0)) ∧ w = w' := by
  have F := hide (down_any h)
  clear h
  generalize D.dn = dn at *
  cases dn with
  | true =>
    rw [if_pos rfl]
    go_enter Tryz.func46, Tryz.ntmps46
    go_wp2_with fail
    (with_reducible refine F.out.mono ?_)
    rintro e w1 ⟨rfl, rfl⟩
    go_wp2
    go_ret
    exact ⟨rfl, rfl⟩
  | false =>
    rw [if_neg (by decide)]
    go_enter Tryz.func46, Tryz.ntmps46
    go_wp2_with fail
    (with_reducible refine F.out.mono ?_)
    rintro e w1 ⟨rfl, rfl⟩
    go_wp2
    go_ret
    exact ⟨rfl, rfl⟩
end
theorem asker_any (p : Option Addr) (w : World) : Calls Tryz.prog 57 #[.pointer p] w fun e w' => e = .returned (.func (.func 86) #[] #[.pointer (some ⟨w.heap.size, 0, none⟩)]) ∧ w' = w.alloc (.cells #[.pointer p] 46) := by
  go_enter Tryz.func57, Tryz.ntmps57
  go_wp2
  go_ret
  exact ⟨rfl, rfl⟩
section
variable {w : World} {B0 B : Nat} {D : Dv} {k kb kp km : Nat}
theorem ask_any (h : DevAt w B0 B D k kb kp km) (hB : B ≤ w.heap.size) (hd : D.dn = false) (r j g : Nat) (hr : r < D.nb) (hj : j < D.np) (hg : w.heap[g]? = some (.cells #[.pointer (some ⟨k, 0, none⟩)] 46 (0, 0))) :
    Calls Tryz.prog 86 #[.agg #[.int .i64 (r : Int), .int .i64 (j : Int)], .pointer (some ⟨g, 0, none⟩)] w (GetEnd w (D.pg (r * D.np + j))) := by
  have hpl := h.plen _ (lt_mul hr hj)
  have hb1 := (Below.refl w.heap.size w).alloc (Nat.le_refl _) (.cells #[.int .i64 (r : Int), .int .i64 (j : Int)] 98)
  have hb2 := hb1.alloc hb1.size (.cells #[.int .u64 0, .slice none 0 0, .slice none 0 0, .slice none 0 0] 26)
  have hgl : g < w.heap.size := (Array.getElem?_eq_some_iff.1 hg).1
  have hg2 := (hb2.block g hgl).trans hg
  have hz2 := BoxT.new zeroTl (w.alloc (.cells #[.int .i64 (r : Int), .int .i64 (j : Int)] 98))
  rw [show (w.alloc (.cells #[.int .i64 (r : Int), .int .i64 (j : Int)] 98)).heap.size = w.heap.size + 1 by simp] at hz2
  have c0 := cell_of_one hg2
  have F := hide (read_ok (h.below (hb2.mono hB)) (Nat.le_trans hB hb2.size) r j hd hr hj)
  have HB := hide hb2
  have HZ : Hid (BoxT zeroTl (w.heap.size + 1) ((w.alloc (.cells #[.int .i64 (r : Int), .int .i64 (j : Int)] 98)).alloc (.cells #[.int .u64 0, .slice none 0 0, .slice none 0 0, .slice none 0 0] 26))) := hide hz2
  have Hpl := hide hpl
  generalize D.pg (r * D.np + j) = pg at *
  clear h hB hd hr hj hg hb1 hb2 hgl hg2 hz2 hpl
  go_enter Tryz.func86, Tryz.ntmps86
  go_wp2_with fail
  (with_reducible refine F.out.mono ?_)
  rintro e w2 ⟨A, c, rfl, ho, hb⟩
  obtain ⟨A9, c9, e9, hk9, _⟩ := own_form ho
  have hk5 : 256 ≤ c := by injection e9 with _ _ h; omega
  have HB2 := hide (HB.out.trans (hb.mono HB.out.size))
  have Hs2 := hide HB2.out.size
  have HZ2 := hide (HZ.out.below hb HZ.out.lt)
  have Fg := hide (tget_any A 256 c w2.heap.size pg w2 (Lies.of_own ho) Hpl.out.symm hk5 (Nat.le_refl _) (by omega))
  clear ho hb e9 hk9 hk5 F HB HZ c0
  unfold GetEnd at Fg
  go_wp2_with fail
  (with_reducible refine Fg.out.mono ?_)
  rintro e w3 ⟨x, q, rfl, hxt, hq, hok, hfew, hb, hhi⟩
  have HB3 := hide (HB2.out.trans (hb.mono HB2.out.size))
  have HZ3 := hide (HZ2.out.below hb HZ2.out.lt)
  have Hlt := hide HZ2.out.lt
  have Hxt := hide hxt
  have Hq := hide hq
  have Hok := hide hok
  have Hfew := hide hfew
  have Hhi := hide hhi
  have e0 : x.val = .agg #[.int .u64 (x.t.seq : Int), .slice x.A1 x.t.bad.length x.c1, .slice x.A2 x.t.wear.length x.c2, .slice x.A3 x.t.void.length x.c3] := rfl
  rw [e0]
  clear hxt hq hok hfew hhi hb Fg HB2 HZ2
  have z0 := HZ3.out.c 0 _ rfl
  have z1 := HZ3.out.c 1 _ rfl
  have z2 := HZ3.out.c 2 _ rfl
  have z3 := HZ3.out.c 3 _ rfl
  have y0 := HZ3.out.free 0
  have y1 := HZ3.out.free 1
  have y2 := HZ3.out.free 2
  have y3 := HZ3.out.free 3
  go_wp2
  refine bodyPost_ret (results_tb1 rfl _ _ x (w.heap.size + 1) rfl (boxT4 HZ3.out)) rfl ⟨x, q, rfl, Hxt.out, Hq.out, ?_, Hfew.out, below4 HB3.out (Nat.le_succ _) _ _ _ _, Hhi.out.mono Hs2.out⟩
  · exact ((((Hok.out.set Hhi.out Hlt.out).set Hhi.out Hlt.out).set Hhi.out Hlt.out).set Hhi.out Hlt.out).up (by simp [World.setCell])
end
theorem field_blocks (b n r : Int) (W : World) : (Instr.field 40 (.agg #[.int .i64 b, .int .i64 n, .int .i64 r]) 0).run Tryz.prog W = .ok (.int .i64 b) W := by kernel_rfl
theorem field_pages (b n r : Int) (W : World) : (Instr.field 40 (.agg #[.int .i64 b, .int .i64 n, .int .i64 r]) 1).run Tryz.prog W = .ok (.int .i64 n) W := by kernel_rfl
theorem telems : Elems Tryz.prog 44 26 4 80 := by
  obtain ⟨i0, hi, hz0, hz1, hz2⟩ := info_parts (show (Tryz.prog.info? 26).map (fun i => (i.zero, i.size, i.bytes)) = some (some (.agg #[.int .u64 0, .slice none 0 0, .slice none 0 0, .slice none 0 0]), 4, 80) by kernel_rfl)
  exact ⟨Tryz.underlying44, ⟨i0, _, hi, hz0, hz1, hz2, rfl⟩, by decide⟩
def rowT (l : List Tl) : List Value := l.flatMap Tl.cells
theorem Tl.cells_len (x : Tl) : x.cells.length = 4 := rfl
theorem rowT_len (l : List Tl) : (rowT l).length = l.length * 4 := flat_len _ 4 Tl.cells_len l
theorem rowT_app (l : List Tl) (x : Tl) : rowT (l ++ [x]) = rowT l ++ x.cells := by simp [rowT]
/-- Tables one behind the other. -/
structure Tls (l : List Tl) (T : List Tb) (W : World) : Prop where
  same : l.map (·.t) = T
  ok : ∀ x ∈ l, x.Ok W W.heap.size
  few : ∀ x ∈ l, x.Few
theorem Tls.below {l : List Tl} {T : List Tb} {W W' : World} (h : Tls l T W) (hb : Below W.heap.size W W') : Tls l T W' :=
  ⟨h.same, fun x hx => ((h.ok x hx).below hb).up hb.size, h.few⟩
theorem Tls.len {l : List Tl} {T : List Tb} {W : World} (h : Tls l T W) : l.length = T.length := by rw [← h.same, List.length_map]
theorem tabsF_few (pg : Nat → List UInt8) (z : Nat) : ∀ n, (tabsF pg z n).length ≤ n
  | 0 => Nat.le_refl _
  | n + 1 => by
    unfold tabsF
    rw [List.length_append]
    have := tabsF_few pg z n
    cases tabOf (pg (z + n)) <;> simp <;> omega
/-- What Tables' loop keeps behind n pages. -/
structure TabS (w : World) (D : Dv) (r n g : Nat) (k B0 B kb kp km : Nat) (l : List Tl) (v : Value) (W : World) : Prop where
  dev : DevAt W B0 B D k kb kp km
  box : W.heap[g]? = some (.cells #[.pointer (some ⟨k, 0, none⟩)] 46 (0, 0))
  tls : Tls l (tabsF D.pg (r * D.np) n) W
  own : W.ownsRow (w.heap.size + 1) 26 4 v l.length (rowT l)
  off : ∀ x ∈ l, ∀ g, v.ownBlock = some g → x.Off g
  hi : ∀ x ∈ l, x.Hi w.heap.size
  below : Below w.heap.size w W
theorem TabS.later {w : World} {D : Dv} {r n g : Nat} {k B0 B kb kp km : Nat} {l : List Tl} {v : Value} {W W' : World} (h : TabS w D r n g k B0 B kb kp km l v W) (hB : B ≤ W.heap.size) (hb : Below W.heap.size W W') : TabS w D r n g k B0 B kb kp km l v W' :=
  ⟨h.dev.below (hb.mono hB), (hb.block g (Array.getElem?_eq_some_iff.1 h.box).1).trans h.box, h.tls.below hb, own_keepT h.own hb, h.off, h.hi, h.below.trans (hb.mono h.below.size)⟩
theorem tabOf_zero {b : List UInt8} (h : (getT b).2 = 0) : tabOf b = some (getT b).1 := if_pos h
theorem tabOf_not {b : List UInt8} (h : (getT b).2 ≠ 0) : tabOf b = none := if_neg h
section
variable {w W w5 w6 : World} {D : Dv} {r n g k B0 B kb kp km : Nat} {l : List Tl} {v : Value}
/-- A page without a table. -/
theorem TabS.skip (h : TabS w D r n g k B0 B kb kp km l v W) (hB : B ≤ W.heap.size) (hb : Below W.heap.size W w5) (hq : (getT (D.pg (r * D.np + n))).2 ≠ 0) : TabS w D r (n + 1) g k B0 B kb kp km l v w5 := by
  have h2 := h.later hB hb
  refine ⟨h2.dev, h2.box, ⟨?_, h2.tls.ok, h2.tls.few⟩, h2.own, h2.off, h2.hi, h2.below⟩
  show _ = tabsF D.pg (r * D.np) n ++ (tabOf (D.pg (r * D.np + n))).toList
  rw [tabOf_not hq]
  simpa using h2.tls.same
/-- A page with one, behind its append. -/
theorem TabS.more (h : TabS w D r n g k B0 B kb kp km l v W) (hB : B ≤ w.heap.size) (hg0 : g = w.heap.size) (hb : Below W.heap.size W w5) (hq : (getT (D.pg (r * D.np + n))).2 = 0) {x : Tl} (hx : x.t = (getT (D.pg (r * D.np + n))).1) (ho : x.Ok w5 w5.heap.size) (hf : x.Few) (hh : x.Hi W.heap.size)
    {A : Option Addr} {c : Nat} (hown : w6.ownsRow (w.heap.size + 1) 26 4 (.slice A (l.length + 1) c) (l.length + 1) (rowT l ++ x.cells)) (hg : w5.grownBy w6 v.ownBlock) (hat : (Value.slice A (l.length + 1) c).ownBlock = v.ownBlock ∨ (Value.slice A (l.length + 1) c).ownBlock = some w5.heap.size) : TabS w D r (n + 1) g k B0 B kb kp km (l ++ [x]) (.slice A (l ++ [x]).length c) w6 := by
  have hBW : B ≤ W.heap.size := Nat.le_trans hB h.below.size
  have h2 := h.later hBW hb
  have hlow : ∀ q, v.ownBlock = some q → w.heap.size + 1 ≤ q ∧ q < W.heap.size := by
    intro q e
    rcases h.own.2 with ⟨hv, _⟩ | ⟨g2, cap, cur, hv, h3, h4, _⟩
    · rw [hv] at e; cases e
    · rw [hv] at e
      have e' : some g2 = some q := e
      injection e' with e'
      have := (Array.getElem?_eq_some_iff.1 h4).1
      omega
  have hw6 : Below w.heap.size w w6 := h2.below.grown hg h2.below.size (fun q e => by have := (hlow q e).1; omega)
  have hb6 : Below w.heap.size w5 w6 := (Below.refl w.heap.size w5).grown hg h2.below.size (fun q e => by have := (hlow q e).1; omega)
  have offx : ∀ q, v.ownBlock = some q → x.Off q := fun q e => hh.off (hlow q e).2
  have len : (l ++ [x]).length = l.length + 1 := by simp
  rw [len]
  refine ⟨h2.dev.below (hb6.mono hB), (hg.block g (Array.getElem?_eq_some_iff.1 h2.box).1 (fun e => by have := (hlow g e.symm).1; omega)).trans h2.box, ⟨?_, ?_, ?_⟩, ?_, ?_, ?_, hw6⟩
  · show _ = tabsF D.pg (r * D.np) n ++ (tabOf (D.pg (r * D.np + n))).toList
    rw [tabOf_zero hq, List.map_append, h2.tls.same, ← hx]
    rfl
  · intro y hy
    rcases List.mem_append.1 hy with hy | hy
    · exact ((h2.tls.ok y hy).grown hg (Nat.le_refl _) (fun q e => h.off y hy q e)).up hg.size
    · rw [List.mem_singleton.1 hy]
      exact (ho.grown hg (Nat.le_refl _) offx).up hg.size
  · intro y hy
    rcases List.mem_append.1 hy with hy | hy
    · exact h.tls.few y hy
    · rw [List.mem_singleton.1 hy]; exact hf
  · rw [rowT_app, len]; exact hown
  · intro y hy q e
    rcases hat with e2 | e2
    · rw [e2] at e
      rcases List.mem_append.1 hy with hy | hy
      · exact h.off y hy q e
      · rw [List.mem_singleton.1 hy]; exact offx q e
    · rw [e2] at e
      injection e with e
      rcases List.mem_append.1 hy with hy | hy
      · exact (h2.tls.ok y hy).off (by omega)
      · rw [List.mem_singleton.1 hy]; exact ho.off (by omega)
  · intro y hy
    rcases List.mem_append.1 hy with hy | hy
    · exact h.hi y hy
    · rw [List.mem_singleton.1 hy]; exact hh.mono h.below.size
end
/-- What Newest tells. -/
def newV : Option (Tb × Nat) → Tb × Int × Int
  | none => (zeroT, 0, 8)
  | some (u, r) => (u, (r : Int), 0)
theorem results_tb3 {fn : Func} {p u s : Tmp} (h : fn.results = #[.cell p 26, .tmp u, .tmp s]) (tmps : Array Value) (W : World) (x : Tl) (k : Nat) (hp : tmps.getD p undef = .pointer (some ⟨k, 0, none⟩)) (hx : BoxT x k W) :
    (results fn tmps).run Tryz.prog W = .ok (.tuple #[x.val, tmps.getD u undef, tmps.getD s undef]) W := by
  have hp' : tmps[p]?.getD undef = .pointer (some ⟨k, 0, none⟩) := by simpa using hp
  simp [results, h, hp', asAddr, load_table hx, Result.andThen]
/-- What Newest's loops know. -/
structure NewS (w : World) (D : Dv) (k B0 B kb kp km : Nat) (acc : Option (Tb × Nat)) (x : Tl) (W : World) : Prop where
  dev : DevAt W B0 B D k kb kp km
  bz : BoxT zeroTl w.heap.size W
  bx : BoxT x (w.heap.size + 1) W
  ok : x.Ok W W.heap.size
  few : x.Few
  off0 : x.Off w.heap.size
  off1 : x.Off (w.heap.size + 1)
  hi : x.Hi w.heap.size
  same : x.t = (newV acc).1
  below : Below w.heap.size w W
section
variable {w W W' : World} {D : Dv} {k B0 B kb kp km : Nat} {acc acc' : Option (Tb × Nat)} {x y : Tl}
theorem NewS.later (h : NewS w D k B0 B kb kp km acc x W) (hB : B ≤ W.heap.size) (hb : Below W.heap.size W W') : NewS w D k B0 B kb kp km acc x W' :=
  ⟨h.dev.below (hb.mono hB), h.bz.below hb h.bz.lt, h.bx.below hb h.bx.lt, (h.ok.below hb).up hb.size, h.few, h.off0, h.off1, h.hi, h.same, h.below.trans (hb.mono h.below.size)⟩
theorem NewS.kept (h : NewS w D k B0 B kb kp km acc x W) (e : x.t = (newV acc').1) : NewS w D k B0 B kb kp km acc' x W := ⟨h.dev, h.bz, h.bx, h.ok, h.few, h.off0, h.off1, h.hi, e, h.below⟩
end
/-- The four stores of a table. -/
def putT (W : World) (k : Nat) (x : Tl) : World := (((W.setCell ⟨k, 0, none⟩ (.int .u64 (x.t.seq : Int))).setCell ⟨k, 1, none⟩ (.slice x.A1 x.t.bad.length x.c1)).setCell ⟨k, 2, none⟩ (.slice x.A2 x.t.wear.length x.c2)).setCell ⟨k, 3, none⟩ (.slice x.A3 x.t.void.length x.c3)
theorem putT_size (W : World) (k : Nat) (x : Tl) : (putT W k x).heap.size = W.heap.size := by simp [putT, World.setCell]
theorem Tl.Ok.putT {x y : Tl} {w : World} {B k : Nat} (h : x.Ok w B) (hi : x.Off k) : x.Ok (putT w k y) B := (((h.setO hi).setO hi).setO hi).setO hi
theorem BoxT.putT {x y : Tl} {w : World} {k g : Nat} (h : BoxT x g w) (hk : g ≠ k) : BoxT x g (putT w k y) :=
  (Below.heap_setCell _ _ _ _ hk).trans ((Below.heap_setCell _ _ _ _ hk).trans ((Below.heap_setCell _ _ _ _ hk).trans ((Below.heap_setCell _ _ _ _ hk).trans h)))
theorem putT_block {w : World} {k g : Nat} (y : Tl) (hk : g ≠ k) : (putT w k y).heap[g]? = w.heap[g]? :=
  (Below.heap_setCell _ _ _ _ hk).trans ((Below.heap_setCell _ _ _ _ hk).trans ((Below.heap_setCell _ _ _ _ hk).trans (Below.heap_setCell _ _ _ _ hk)))
theorem putT_below {w W : World} {B k : Nat} (h : Below B w W) (hk : B ≤ k) (y : Tl) : Below B w (putT W k y) := below4 h hk _ _ _ _
theorem lies_putT {w : World} {B k : Nat} {A : Option Addr} {xs : List Value} (h : Lies w B A xs) (hk : xs = [] ∨ ∃ a, A = some a ∧ a.block ≠ k) (y : Tl) : Lies (putT w k y) B A xs :=
  lies_setO (lies_setO (lies_setO (lies_setO h hk) hk) hk) hk
theorem Tl.Ok.putS {x y : Tl} {w : World} {k : Nat} (h : x.Ok w w.heap.size) (hi : x.Off k) : x.Ok (Go.Proofs.YtigpplckddnghaaGreat.putT w k y) (Go.Proofs.YtigpplckddnghaaGreat.putT w k y).heap.size := by rw [putT_size]; exact h.putT hi
theorem lies_putS {w : World} {k : Nat} {A : Option Addr} {xs : List Value} (h : Lies w w.heap.size A xs) (hk : xs = [] ∨ ∃ a, A = some a ∧ a.block ≠ k) (y : Tl) : Lies (putT w k y) (putT w k y).heap.size A xs := by rw [putT_size]; exact lies_putT h hk y
theorem NewS.take {w W : World} {D : Dv} {k B0 B kb kp km : Nat} {acc acc' : Option (Tb × Nat)} {x y : Tl} (h : NewS w D k B0 B kb kp km acc x W) (hB : B ≤ w.heap.size) (ho : y.Ok W W.heap.size) (hf : y.Few) (h0 : y.Off w.heap.size) (h1 : y.Off (w.heap.size + 1)) (hh : y.Hi w.heap.size) (e : y.t = (newV acc').1) : NewS w D k B0 B kb kp km acc' y (putT W (w.heap.size + 1) y) :=
  ⟨h.dev.below (putT_below (Below.refl _ _) (by omega) y), h.bz.putT (by omega), boxT4 h.bx, by rw [putT_size]; exact ho.putT h1, hf, h0, h1, hh, e, putT_below h.below (Nat.le_succ _) y⟩
end
section
open Go.RowKit
set_option maxRecDepth 8000

theorem mtabs_out (p : Option Addr) (r : Int) (hr : r < 0 ∨ 2 ≤ r) (w : World) : Calls Tryz.prog 30 #[.pointer p, .int .i64 r] w fun e w' => e = .returned (.slice none 0 0) ∧ w = w' := by
  by_cases h : r < 0
  · clear hr
    go_enter Tryz.func30, Tryz.ntmps30
    go_wp2
    go_ret
    exact ⟨rfl, rfl⟩
  · have h2 : 2 ≤ r := by omega
    clear hr
    go_enter Tryz.func30, Tryz.ntmps30
    go_wp2
    go_ret
    exact ⟨rfl, rfl⟩
theorem hi_row {w W : World} {l : List Tl} {A : Option Addr} {c : Nat} (h : W.ownsRow (w.heap.size + 1) 26 4 (.slice A l.length c) l.length (rowT l)) : rowT l = [] ∨ ∃ a, A = some a ∧ w.heap.size ≤ a.block := by
  rcases h.2 with ⟨_, hn⟩ | ⟨g, cap, cur, hv, hb, _⟩
  · left
    exact List.eq_nil_of_length_eq_zero (by rw [rowT_len, hn])
  · injection hv with hA _ _
    exact .inr ⟨_, hA, by show w.heap.size ≤ g; omega⟩
section
variable {w : World} {B0 B : Nat} {D : Dv} {k kb kp km : Nat}
set_option maxHeartbeats 4000000 in
theorem mtabs_any (h : DevAt w B0 B D k kb kp km) (hB : B ≤ w.heap.size) (hd : D.dn = false) (r : Nat) (hr : r < 2) :
    Calls Tryz.prog 30 #[.pointer (some ⟨k, 0, none⟩), .int .i64 (r : Int)] w fun e w' => ∃ (l : List Tl) (A : Option Addr) (c : Nat), e = .returned (.slice A l.length c) ∧ Tls l (D.tabs r) w' ∧ Lies w' w'.heap.size A (rowT l) ∧ (rowT l = [] ∨ ∃ a, A = some a ∧ w.heap.size ≤ a.block) ∧ (∀ x ∈ l, x.Hi w.heap.size) ∧ Below w.heap.size w w' := by
  have hs := h.sides
  have hb1 := (Below.refl w.heap.size w).alloc (Nat.le_refl _) (.cells #[.pointer (some ⟨k, 0, none⟩)] 46)
  have hbox := heap_alloc_new w (.cells #[.pointer (some ⟨k, 0, none⟩)] 46)
  have HB1 := hide hb1
  have HX1 := hide hbox
  have HD1 := hide (h.below (hb1.mono hB))
  have Hr := hide hr
  have Hd := hide hd
  have HS := hide hs
  have HBB := hide hB
  have r0 : ¬ (r : Int) < 0 := by omega
  have r1 : ¬ (2 : Int) ≤ (r : Int) := by omega
  have hg : D.g.val = .agg #[.int .i64 D.g.b, .int .i64 (D.np : Int), .int .i64 D.g.r] := by unfold Gm.val; rw [hs.2.2.2.2.2]
  clear h hB hd hr hs hb1 hbox
  go_enter Tryz.func30, Tryz.ntmps30
  go_wp2_with fail
  (with_reducible refine (asker_any _ _).mono ?_)
  rintro e w1 ⟨rfl, hw⟩
  subst hw
  generalize hw1 : w.alloc (.cells #[.pointer (some ⟨k, 0, none⟩)] 46) = w1 at *
  have F := hide (sides_any HD1.out)
  rw [hg] at F
  clear hg hw1
  have hfd := fun W => field_pages D.g.b (D.np : Int) D.g.r W
  go_wp2_with fail
  (with_reducible refine F.out.mono ?_)
  rintro e w2 ⟨rfl, hb⟩
  have S0 : Hid (TabS w D r 0 w.heap.size k B0 B kb kp km [] (.slice none 0 0) w2) := hide
    ⟨HD1.out.below (hb.mono (Nat.le_trans HBB.out HB1.out.size)), (hb.block _ (Array.getElem?_eq_some_iff.1 HX1.out).1).trans HX1.out, ⟨rfl, by simp, by simp⟩, ⟨rfl, .inl ⟨rfl, rfl⟩⟩, (fun x hx => absurd hx (by simp)), (fun x hx => absurd hx (by simp)), HB1.out.trans (hb.mono HB1.out.size)⟩
  clear hb F HD1 HX1 HB1
  go_wp2
  clear hfd
  go_loopw [6, 7, 8, 9, 21] (fun v _ _ _ i wr => ∃ (n : Nat) (l : List Tl) (A : Option Addr) (c : Nat), n ≤ D.np ∧ v = .slice A l.length c ∧ i = .int .i64 (n : Int) ∧ Hid (TabS w D r n w.heap.size k B0 B kb kp km l (.slice A l.length c) wr)) (fun _ _ _ _ i _ => D.np - (intOf i).toNat)
  case atStart => exact ⟨0, [], none, 0, Nat.zero_le _, rfl, rfl, S0⟩
  case round =>
    obtain ⟨n, l, A, c, hn, rfl, rfl, HT⟩ := hrel
    by_cases hlt : n < D.np
    · have hlt' : (n : Int) < (D.np : Int) := by omega
      have hBw := Nat.le_trans HBB.out HT.out.below.size
      have F := hide (ask_any HT.out.dev hBw Hd.out r n w.heap.size (by have := HS.out.1; have := Hr.out; omega) hlt HT.out.box)
      have HBw := hide hBw
      clear hBw
      unfold GetEnd at F
      go_wp2_with fail
      (with_reducible refine F.out.mono ?_)
      rintro e w3 ⟨x, q, rfl, hxt, hq, hok, hfew, hb, hhi⟩
      have HB3 := hide hb
      have Hxt := hide hxt
      have Hq := hide hq
      have Hok := hide hok
      have Hfew := hide hfew
      have Hhi := hide hhi
      have e0 : x.val = .agg #[.int .u64 (x.t.seq : Int), .slice x.A1 x.t.bad.length x.c1, .slice x.A2 x.t.wear.length x.c2, .slice x.A3 x.t.void.length x.c3] := rfl
      have e1 : x.cells.toArray = #[.int .u64 (x.t.seq : Int), .slice x.A1 x.t.bad.length x.c1, .slice x.A2 x.t.wear.length x.c2, .slice x.A3 x.t.void.length x.c3] := rfl
      have HB4 := hide (hb.alloc hb.size (.cells x.cells.toArray 26))
      have HX4 := hide (BoxT.new x w3)
      have HO4 := hide ((hok.below ((Below.refl w3.heap.size w3).alloc (Nat.le_refl _) (.cells x.cells.toArray 26))).up (show w3.heap.size ≤ (w3.alloc (.cells x.cells.toArray 26)).heap.size by simp))
      rw [e0]
      rw [e1] at HB4 HX4 HO4
      clear hxt hq hok hfew hhi hb F e0
      go_upto_region 9 with fail
      generalize w3.alloc (.cells #[.int .u64 (x.t.seq : Int), .slice x.A1 x.t.bad.length x.c1, .slice x.A2 x.t.wear.length x.c2, .slice x.A3 x.t.void.length x.c3] 26) = w4 at *
      generalize w3.heap.size = kx at *
      have e7 : wrap64 ((n : Int) + 1) = ((n + 1 : Nat) : Int) := by have := HS.out.2.2.2.1; unfold wrap64; omega
      by_cases h0 : q = 0
      · subst h0
        have HA5 := hide (HB4.out.alloc HB4.out.size (.cells x.cells.toArray 26))
        have HO5 := hide ((HO4.out.below ((Below.refl w4.heap.size w4).alloc (Nat.le_refl _) (.cells x.cells.toArray 26))).up (show w4.heap.size ≤ (w4.alloc (.cells x.cells.toArray 26)).heap.size by simp))
        rw [e1] at HA5 HO5
        have c0 := HX4.out.c 0 _ rfl
        have c1 := HX4.out.c 1 _ rfl
        have c2 := HX4.out.c 2 _ rfl
        have c3 := HX4.out.c 3 _ rfl
        have Hlen := hide (show l.length ≤ 1000 by rw [HT.out.tls.len]; exact Nat.le_trans (tabsF_few _ _ _) (by have := HS.out.2.2.2.1; omega))
        go_wp2_with (at_builtin; refine wpl_app _ rfl telems (.tmp 34) (.tmp 36) rfl (w.heap.size + 1) _ l.length (rowT l) rfl (own_keepT HT.out.own HA5.out) (w4.heap.size + 1) (some ⟨w4.heap.size, 0, none⟩) 1 1 _ rfl (by rfl) (Lies.new w4 _ _ _ _ (Nat.lt_succ_self _)) (by simp [Value.oneCell']) (by have := Hlen.out; unfold maxLen; omega) (by have := Hlen.out; omega) (by have := (Array.getElem?_eq_some_iff.1 HT.out.box).1; have := HA5.out.size; omega) ?_; intro A2 c2 w5 hown hg hat; have HT5 := hide (HT.out.more HBB.out rfl HA5.out Hq.out.symm Hxt.out HO5.out Hfew.out Hhi.out hown hg hat); clear hown hg hat)
        go_wp2
        go_roundw
        case rel => exact ⟨n + 1, l ++ [x], A2, c2, hlt, congrArg (fun q : Nat => Value.slice A2 q c2) (by simp), congrArg (Value.int .i64) e7, HT5⟩
        case measure => first | exact measT hlt | exact measT2 e7 hlt
      · have hb0 : (q == 0) = false := beq_eq_false_iff_ne.2 h0
        have HT4 := hide (HT.out.skip HBw.out HB4.out (by rw [← Hq.out]; exact h0))
        clear h0
        go_wp2
        go_roundw
        case rel => exact ⟨n + 1, l, A, c, hlt, rfl, congrArg (Value.int .i64) e7, HT4⟩
        case measure => first | exact measT hlt | exact measT2 e7 hlt
    · obtain rfl : n = D.np := by omega
      have HT4 := HT
      go_wp2
      go_ret
      exact ⟨l, A, c, rfl, HT4.out.tls, Lies.of_own HT4.out.own, hi_row HT4.out.own, HT4.out.hi, HT4.out.below⟩
end
end
end Go.Proofs.YtigpplckddnghaaGreat
