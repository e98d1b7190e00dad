/-
  CONTRACT of wagtailref02.Ones.
  THE REFERENCE OF LAYER 14: New.
-/
import Derived.Test.YtahipfmokbiklaaBits
import Derived.Deep.QuietTactic
import Derived.BigQuiet
import Derived.Test.YtahipfmokbiklaaRd7
import Derived.Test.YtahipfmokbiklaaDev10
namespace Go.Proofs.Ytahipfmokbiklaa
section
open Go.RowKit
set_option maxRecDepth 8000

set_option maxHeartbeats 400000 in
theorem ones2_any (n : Nat) (w : World) (hbig : n ≤ 1000000000000) :
    Calls Try.prog 39 #[.int .i64 (n : Int)] w fun e w' => ∃ A' c', e = .returned (.slice A' n c') ∧
      w'.ownsRow w.heap.size 5 1 (.slice A' n c') n (bys (List.replicate n 255)) ∧ Below w.heap.size w w' := by
  go_enter Try.func39, Try.ntmps39
  go_wp2
  go_loopw [3, 4] (fun o i wr => ∃ j : Nat, j ≤ n ∧ i = .int .i64 (j : Int) ∧ ∃ A c, o = .slice A j c ∧
      wr.ownsRow w.heap.size 5 1 (.slice A j c) j (bys (List.replicate j 255)) ∧ Below w.heap.size w wr) (fun _ i _ => n - (intOf i).toNat)
  case atStart => exact ⟨0, Nat.zero_le _, rfl, none, 0, rfl, World.ownsRow_nil _ _ _ _, Below.refl _ _⟩
  case round =>
    obtain ⟨j, hj, rfl, A, c, rfl, ho, hb⟩ := hrel
    have Ho := hide ho
    clear ho
    by_cases hlt : j < n
    · have h1 : (j : Int) < (n : Int) := by omega
      have hsz := hb.size
      go_wp2_with (at_builtin; refine wpl_app _ rfl u8elems (.tmp 10) (.tmp 11) rfl w.heap.size (.slice A j c) j _ rfl (Ho.out.alloc _) (wr.heap.size + 1) (some ⟨wr.heap.size, 0, none⟩) 1 1 _ rfl (by rfl) (Lies.new wr _ _ _ _ (by omega)) (by simp [Value.oneCell']) (by unfold maxLen; omega) (by omega) (by simp; omega) ?_; intro A1 c1 w1 hown1 hg1 hat1; have Ho1 := hide hown1; have Hb1 := hide hg1; clear hown1 hg1 hat1)
      have hb1 : Below w.heap.size w w1 := (hb.alloc hsz _).grown Hb1.out (by simp; omega) (fun g hg => (Ho.out.lt g hg).1)
      refine ⟨⟨j + 1, by omega, by go_num, A1, c1, rfl, ?_, hb1⟩, by simp [intOf]; omega⟩
      have h3 := Ho1.out
      rw [List.replicate_succ', bys_app]
      exact h3
    · obtain rfl : j = n := by omega
      go_wp2
      go_ret
      exact ⟨A, c, rfl, Ho.out, hb⟩
end
section
open Go.RowKit
open Go.Sort

theorem strEl : Elems Try.prog 51 9 1 16 := by
  obtain ⟨i, hi, h1, h2, h3⟩ := info_parts infoStr
  exact ⟨Try.underlying51, ⟨i, _, hi, h1, h2, h3, rfl⟩, by decide⟩
theorem infoInt : (Try.prog.info? 3).map (fun i => (i.zero, i.size, i.bytes)) = some (some (.int .i64 0), 1, 8) := by kernel_rfl
theorem intEl : Elems Try.prog 24 3 1 8 := by
  obtain ⟨i, hi, h1, h2, h3⟩ := info_parts infoInt
  exact ⟨Try.underlying24, ⟨i, _, hi, h1, h2, h3, rfl⟩, by decide⟩
/-- What a text of one page is at first. -/
def blankS : Value := .string (str (List.replicate 256 255))
/-- The cells of a device that is being made. -/
def nuCells (q : Pn) (pv nv wv : Value) : Array Value := #[.int .i64 q.g.b, .int .i64 q.g.p, .int .i64 q.g.r, .slice q.A1 q.n1 q.c1, pv, nv, wv, .slice q.A2 q.n2 q.c2, .int .i64 0, .bool false]
/-- A device that is being made: j pages, m blocks. -/
structure NewAt (w : World) (q : Pn) (b0 r j m m2 : Nat) (pv nv wv : Value) (W : World) : Prop where
  box : W.heap[r]? = some (.cells (nuCells q pv nv wv) 53 (0, 0))
  geo : W.heap[b0]? = some (.cells #[.int .i64 q.g.b, .int .i64 q.g.p, .int .i64 q.g.r] 23 (0, 0))
  ps : W.ownsRow (r + 1) 9 1 pv j (List.replicate j blankS)
  ns : W.ownsRow (r + 1) 3 1 nv m (List.replicate m (.int .i64 0))
  ws : W.ownsRow (r + 1) 3 1 wv m2 (List.replicate m2 (.int .i64 0))
  ne : nv.ownBlock = none ∨ nv.ownBlock ≠ wv.ownBlock
  below : Below w.heap.size w W
  pos : w.heap.size ≤ b0 ∧ b0 < r ∧ r < W.heap.size

theorem own_below {w W : World} {base size n : Nat} {e : TypeId} {v : Value} {xs : List Value} (h : w.ownsRow base e size v n xs) (hb : Below w.heap.size w W) : W.ownsRow base e size v n xs := by
  refine ⟨h.1, ?_⟩
  rcases h.2 with h0 | ⟨g, cap, cur, hv, hbs, hg, h3⟩
  · exact .inl h0
  · exact .inr ⟨g, cap, cur, hv, hbs, (hb.block g (Array.getElem?_eq_some_iff.1 hg).1).trans hg, h3⟩
/-- A call in a region that draws. -/
theorem step_call {P : Program} {w : World} {ops : Array Oper} {o : Oper} {a : Act} {K : Act → World → Prop} {Q : Exit → Act → World → Prop} {F : Prop} (hgd : o.guard = none) {f : FuncId} {args : Array Value} (hr : (execOp a.eval o).run P w = .ok (.enter f args) w)
    (hc : Calls P f args w fun e w' => ∃ v, e = .returned v ∧ K (a.put o.dst v) w') : if Region.wanted o (yielded ops a.tmps) = true then Oper.wp P o a w K Q else F := by
  have hw : Region.wanted o (yielded ops a.tmps) = true := by simp [Region.wanted, hgd]
  rw [if_pos hw]
  unfold Oper.wp
  rw [hr]
  refine hc.mono ?_
  rintro e w' ⟨v, rfl, h⟩
  exact h
theorem NewAt.step {w : World} {q : Pn} {b0 r j m m2 : Nat} {pv nv wv : Value} {W : World} {W2 : World} (h : NewAt w q b0 r j m m2 pv nv wv W) (hb : Below W.heap.size W W2) : NewAt w q b0 r j m m2 pv nv wv W2 :=
  ⟨(hb.block _ h.pos.2.2).trans h.box, (hb.block _ (Nat.lt_trans h.pos.2.1 h.pos.2.2)).trans h.geo, own_below h.ps hb, own_below h.ns hb, own_below h.ws hb, h.ne, h.below.trans (hb.mono h.below.size), h.pos.1, h.pos.2.1, Nat.lt_of_lt_of_le h.pos.2.2 hb.size⟩

theorem own_ge {w : World} {base size n : Nat} {e : TypeId} {v : Value} {xs : List Value} (h : w.ownsRow (base + 1) e size v n xs) : v.ownBlock ≠ some base := fun hk => by
  have := (h.lt base hk).1
  omega
theorem NewAt.box3 {w : World} {q : Pn} {b0 r j m m2 : Nat} {pv nv wv : Value} {W W3 : World} (h : NewAt w q b0 r j m m2 pv nv wv W) (ob : Obj) (hg : World.grownBy (W.alloc ob) W3 pv.ownBlock) : W3.heap[r]? = some (.cells (nuCells q pv nv wv) 53 (0, 0)) := by
  refine (hg.block r (by have := h.pos.2.2; simp; omega) (Ne.symm (own_ge h.ps))).trans ?_
  exact (Below.heap_alloc W ob r h.pos.2.2).trans h.box
theorem cell_of_row4 {W : World} {q : Pn} {r : Nat} {pv nv wv : Value} (h : W.heap[r]? = some (.cells (nuCells q pv nv wv) 53 (0, 0))) : W.cell? ⟨r, 4, none⟩ = some pv := World.news_of_block h 4 _ rfl

theorem NewAt.grow4 {w : World} {q : Pn} {b0 r j : Nat} {pv : Value} {W W3 : World} {A4 : Option Addr} {k4 : Nat} (h : NewAt w q b0 r j 0 0 pv (.slice none 0 0) (.slice none 0 0) W) (ob : Obj) (hg : World.grownBy (W.alloc ob) W3 pv.ownBlock)
    (ho : W3.ownsRow (r + 1) 9 1 (.slice A4 (j + 1) k4) (j + 1) (List.replicate j blankS ++ [blankS])) :
    NewAt w q b0 r (j + 1) 0 0 (.slice A4 (j + 1) k4) (.slice none 0 0) (.slice none 0 0) (W3.setCell ⟨r, 4, none⟩ (.slice A4 (j + 1) k4)) := by
  have hp := h.pos
  have hb : Below w.heap.size w W3 := (h.below.alloc h.below.size ob).grown hg (by have := h.below.size; simp; omega) (fun g hg => by have := (h.ps.lt g hg).1; omega)
  have hsz := hg.size
  refine ⟨heap_set (h.box3 ob hg) 4 _, ?_, ?_, World.ownsRow_nil _ _ _ _, World.ownsRow_nil _ _ _ _, .inl rfl, hb.setCell (by show w.heap.size ≤ r; omega) _, hp.1, hp.2.1, ?_⟩
  · refine (Below.heap_setCell _ _ _ _ (by show b0 ≠ r; omega)).trans ((hg.block b0 (by simp; omega) ?_).trans ((Below.heap_alloc W ob b0 (by omega)).trans h.geo))
    intro e
    have := (h.ps.lt b0 e.symm).1
    omega
  · rw [List.replicate_succ']
    exact ownsRow_setCell_below ho (by show r < r + 1; omega) _
  · simp [World.setCell]
    have : W.heap.size + 1 ≤ W3.heap.size := by simpa using hsz
    omega

theorem own_apart {W : World} {b1 b2 t1 t2 n1 n2 : Nat} {v1 v2 : Value} {x1 x2 : List Value} (h1 : W.ownsRow b1 t1 1 v1 n1 x1) (h2 : W.ownsRow b2 t2 1 v2 n2 x2) (ht : t1 ≠ t2) : v1.ownBlock = none ∨ v1.ownBlock ≠ v2.ownBlock := by
  rcases h1.2 with ⟨rfl, _⟩ | ⟨g, cap, cur, rfl, _, hg, _⟩
  · exact .inl rfl
  · refine .inr fun e => ?_
    rcases h2.2 with ⟨rfl, _⟩ | ⟨g2, cap2, cur2, rfl, _, hg2, _⟩
    · cases e
    · have e2 : some g = some g2 := e
      cases e2
      rw [hg] at hg2
      simp at hg2
      exact ht hg2.2
theorem NewAt.world {w : World} {q : Pn} {b0 r j m m2 : Nat} {pv nv wv : Value} {W W3 : World} {row : Option Nat} (h : NewAt w q b0 r j m m2 pv nv wv W) (ob : Obj) (hg : World.grownBy (W.alloc ob) W3 row) (hrow : ∀ g, row = some g → r + 1 ≤ g) (v : Value) (i : Nat) :
    (W3.setCell ⟨r, i, none⟩ v).heap[r]? = some (.cells ((nuCells q pv nv wv).setIfInBounds i v) 53 (0, 0)) ∧ (W3.setCell ⟨r, i, none⟩ v).heap[b0]? = some (.cells #[.int .i64 q.g.b, .int .i64 q.g.p, .int .i64 q.g.r] 23 (0, 0)) ∧ Below w.heap.size w (W3.setCell ⟨r, i, none⟩ v) ∧ r < (W3.setCell ⟨r, i, none⟩ v).heap.size ∧ W3.heap[r]? = some (.cells (nuCells q pv nv wv) 53 (0, 0)) := by
  have hp := h.pos
  have hsz := hg.size
  have hbx : W3.heap[r]? = some (.cells (nuCells q pv nv wv) 53 (0, 0)) :=
    (hg.block r (by simp; omega) (fun e => by have := hrow r e.symm; omega)).trans ((Below.heap_alloc W ob r hp.2.2).trans h.box)
  have hb : Below w.heap.size w W3 := (h.below.alloc h.below.size ob).grown hg (by have := h.below.size; simp; omega) (fun g hg => by have := hrow g hg; omega)
  refine ⟨heap_set hbx i _, ?_, hb.setCell (by show w.heap.size ≤ r; omega) _, ?_, hbx⟩
  · refine (Below.heap_setCell _ _ _ _ (by show b0 ≠ r; omega)).trans ((hg.block b0 (by simp; omega) ?_).trans ((Below.heap_alloc W ob b0 (by omega)).trans h.geo))
    intro e
    have := hrow b0 e.symm
    omega
  · simp [World.setCell]
    have : W.heap.size + 1 ≤ W3.heap.size := by simpa using hsz
    omega
theorem NewAt.grow5 {w : World} {q : Pn} {b0 r j m m2 : Nat} {pv nv wv : Value} {W W3 : World} {A4 : Option Addr} {k4 : Nat} (h : NewAt w q b0 r j m m2 pv nv wv W) (ob : Obj) (hg : World.grownBy (W.alloc ob) W3 nv.ownBlock)
    (ho : W3.ownsRow (r + 1) 3 1 (.slice A4 (m + 1) k4) (m + 1) (List.replicate m (.int .i64 0) ++ [.int .i64 0])) (hat : (Value.slice A4 (m + 1) k4).ownBlock = nv.ownBlock ∨ (Value.slice A4 (m + 1) k4).ownBlock = some (W.alloc ob).heap.size) :
    NewAt w q b0 r j (m + 1) m2 pv (.slice A4 (m + 1) k4) wv (W3.setCell ⟨r, 5, none⟩ (.slice A4 (m + 1) k4)) := by
  obtain ⟨h1, h2, h3, h4, h5⟩ := h.world ob hg (fun g hg => (h.ns.lt g hg).1) (.slice A4 (m + 1) k4) 5
  have hlt : r < r + 1 := Nat.lt_succ_self r
  refine ⟨h1, h2, ownsRow_setCell_below ((h.ps.alloc ob).kept hg (own_apart h.ps h.ns (by decide))) hlt _, by rw [List.replicate_succ']; exact ownsRow_setCell_below ho hlt _, ownsRow_setCell_below ((h.ws.alloc ob).kept hg ?_) hlt _, ?_, h3, h.pos.1, h.pos.2.1, h4⟩
  · rcases h.ne with h0 | h0
    · rw [h0]
      cases wv.ownBlock with
      | none => exact .inl rfl
      | some g => exact .inr (by simp)
    · exact .inr (Ne.symm h0)
  · rcases hat with h0 | h0
    · rw [h0]; exact h.ne
    · rw [h0]
      refine .inr fun e => ?_
      have h9 := (h.ws.lt _ e.symm).2
      have h8 : (W.alloc ob).heap.size = W.heap.size + 1 := by simp
      omega
theorem NewAt.grow6 {w : World} {q : Pn} {b0 r j m m2 : Nat} {pv nv wv : Value} {W W3 : World} {A4 : Option Addr} {k4 : Nat} (h : NewAt w q b0 r j m m2 pv nv wv W) (ob : Obj) (hg : World.grownBy (W.alloc ob) W3 wv.ownBlock)
    (ho : W3.ownsRow (r + 1) 3 1 (.slice A4 (m2 + 1) k4) (m2 + 1) (List.replicate m2 (.int .i64 0) ++ [.int .i64 0])) (hat : (Value.slice A4 (m2 + 1) k4).ownBlock = wv.ownBlock ∨ (Value.slice A4 (m2 + 1) k4).ownBlock = some (W.alloc ob).heap.size) :
    NewAt w q b0 r j m (m2 + 1) pv nv (.slice A4 (m2 + 1) k4) (W3.setCell ⟨r, 6, none⟩ (.slice A4 (m2 + 1) k4)) := by
  obtain ⟨h1, h2, h3, h4, h5⟩ := h.world ob hg (fun g hg => (h.ws.lt g hg).1) (.slice A4 (m2 + 1) k4) 6
  have hlt : r < r + 1 := Nat.lt_succ_self r
  refine ⟨h1, h2, ownsRow_setCell_below ((h.ps.alloc ob).kept hg (own_apart h.ps h.ws (by decide))) hlt _, ownsRow_setCell_below ((h.ns.alloc ob).kept hg h.ne) hlt _, by rw [List.replicate_succ']; exact ownsRow_setCell_below ho hlt _, ?_, h3, h.pos.1, h.pos.2.1, h4⟩
  rcases hat with h0 | h0
  · rw [h0]; exact h.ne
  · rw [h0]
    cases e : nv.ownBlock with
    | none => exact .inl rfl
    | some g =>
      have := (h.ns.lt _ e).2
      refine .inr fun e2 => ?_
      simp at e2
      omega

set_option maxRecDepth 40000 in
set_option maxHeartbeats 4000000 in
theorem rnew_any (q : Pn) (w : World) (hg : q.g.Right) :
    Calls Try.prog 26 #[.agg #[.int .i64 q.g.b, .int .i64 q.g.p, .int .i64 q.g.r], .slice q.A1 q.n1 q.c1, .slice q.A2 q.n2 q.c2] w fun e w' => ∃ b0 r pv nv wv, e = .returned (.pointer (some ⟨r, 0, none⟩)) ∧ NewAt w q b0 r (q.g.b.toNat * q.g.p.toNat) q.g.b.toNat q.g.b.toNat pv nv wv w' := by
  have hs : (8 ≤ q.g.b.toNat ∧ q.g.b.toNat ≤ 34) ∧ (4 ≤ q.g.p.toNat ∧ q.g.p.toNat ≤ 32) ∧ q.g.b = (q.g.b.toNat : Int) ∧ q.g.p = (q.g.p.toNat : Int) := by
    obtain ⟨h1, h2, h3, h4, _⟩ := hg
    omega
  clear hg
  have Hs := hide hs
  clear hs
  rcases q with ⟨⟨gb, gp, gr⟩, A1, n1, c1, bl, A2, n2, c2, fl⟩
  simp only at *
  go_enter Try.func26, Try.ntmps26
  go_upto_region 2 with fail
  have H0 : Hid (NewAt w ⟨⟨gb, gp, gr⟩, A1, n1, c1, bl, A2, n2, c2, fl⟩ w.heap.size (w.heap.size + 1) 0 0 0 (.slice none 0 0) (.slice none 0 0) (.slice none 0 0) ((w.alloc (.cells #[.int .i64 gb, .int .i64 gp, .int .i64 gr] 23)).alloc (.cells #[.int .i64 gb, .int .i64 gp, .int .i64 gr, .slice A1 n1 c1, .slice none 0 0, .slice none 0 0, .slice none 0 0, .slice A2 n2 c2, .int .i64 0, .bool false] 53))) := hide
    ⟨by
      have h := heap_alloc_new (w.alloc (.cells #[.int .i64 gb, .int .i64 gp, .int .i64 gr] 23)) (.cells #[.int .i64 gb, .int .i64 gp, .int .i64 gr, .slice A1 n1 c1, .slice none 0 0, .slice none 0 0, .slice none 0 0, .slice A2 n2 c2, .int .i64 0, .bool false] 53)
      rwa [show (w.alloc (.cells #[.int .i64 gb, .int .i64 gp, .int .i64 gr] 23)).heap.size = w.heap.size + 1 by simp] at h,
      (Below.heap_alloc _ _ _ (by simp)).trans (heap_alloc_new w _), World.ownsRow_nil _ _ _ _, World.ownsRow_nil _ _ _ _, World.ownsRow_nil _ _ _ _, .inl rfl, ((Below.refl _ _).alloc (Nat.le_refl _) _).alloc (by simp) _, Nat.le_refl _, by omega, by simp⟩
  generalize (w.alloc (.cells #[.int .i64 gb, .int .i64 gp, .int .i64 gr] 23)).alloc (.cells #[.int .i64 gb, .int .i64 gp, .int .i64 gr, .slice A1 n1 c1, .slice none 0 0, .slice none 0 0, .slice none 0 0, .slice A2 n2 c2, .int .i64 0, .bool false] 53) = w1 at *
  obtain ⟨b0, hb0⟩ : ∃ b0, b0 = w.heap.size := ⟨_, rfl⟩
  obtain ⟨r, hr⟩ : ∃ r, r = w.heap.size + 1 := ⟨_, rfl⟩
  rw [← hr] at H0 ⊢
  have Hb0 := hide hb0
  have Hr := hide hr
  obtain ⟨N, hN⟩ : ∃ N, N = gb.toNat * gp.toNat := ⟨_, rfl⟩
  have HN := hide hN
  have HNb := hide (show N ≤ 34 * 32 by rw [hN]; exact Nat.mul_le_mul Hs.out.1.2 Hs.out.2.1.2)
  have eN : wrap64 (gb * gp) = (N : Int) := by
    rw [hN, Hs.out.2.2.1, Hs.out.2.2.2, Int.toNat_natCast, Int.toNat_natCast, ← Int.natCast_mul]
    exact i64w (by have := Nat.mul_le_mul Hs.out.1.2 Hs.out.2.1.2; omega)
  clear hr hN hb0
  go_wp2
  go_loopw [8] (fun i wr => ∃ j : Nat, j ≤ N ∧ i = .int .i64 (j : Int) ∧ ∃ pv, NewAt w ⟨⟨gb, gp, gr⟩, A1, n1, c1, bl, A2, n2, c2, fl⟩ w.heap.size r j 0 0 pv (.slice none 0 0) (.slice none 0 0) wr) (fun i _ => N - (intOf i).toNat)
  case atStart => exact ⟨0, Nat.zero_le _, rfl, _, H0.out⟩
  case round =>
    obtain ⟨j, hj, rfl, pv, hA⟩ := hrel
    have HA := hide hA
    have g0 : wr.cell? ⟨w.heap.size, 0, none⟩ = some (.int .i64 gb) := World.news_of_block hA.geo 0 _ rfl
    have g1 : wr.cell? ⟨w.heap.size, 1, none⟩ = some (.int .i64 gp) := World.news_of_block hA.geo 1 _ rfl
    by_cases hlt : j < N
    · have hlt' : (j : Int) < (N : Int) := Int.ofNat_lt.2 hlt
      have c4 : wr.cell? ⟨r, 4, none⟩ = some pv := World.news_of_block hA.box 4 _ rfl
      have Hlt := hide hlt
      clear hA hlt
      go_upto_region 5 with fail
      clear g0 g1
      obtain ⟨on, hon⟩ : ∃ on, on = List.replicate 256 (255 : UInt8) := ⟨_, rfl⟩
      have HO : ∀ W, Calls Try.prog 39 #[.int .i64 256] W fun e w' => ∃ A' c', e = .returned (.slice A' 256 c') ∧ w'.ownsRow W.heap.size 5 1 (.slice A' 256 c') 256 (bys on) ∧ Below W.heap.size W w' := fun W => by rw [hon]; exact ones2_any 256 W (by decide)
      have Hlen := hide (show 256 = on.length by rw [hon]; simp)
      have Hbl := hide (show blankS = .string (str on) by rw [hon]; rfl)
      clear hon
      go_region_law (first
        | (refine step_call (f := 39) (args := #[.int .i64 256]) rfl (by simp [Act.eval, go_sem]) ((HO _).mono ?_); rintro e w2 ⟨A3, c3, rfl, ho3, hb3⟩; refine ⟨_, rfl, ?_⟩; have hcv := strU8 c3 (Lies.of_own ho3) Hlen.out; have HA2 := hide (HA.out.step ((Below.refl _ _).drew.trans hb3)); have c4b : w2.cell? ⟨r, 4, none⟩ = some pv := World.news_of_block HA2.out.box 4 _ rfl; have c4d : (w2.alloc (.cells #[.string (str on)] 9)).cell? ⟨r, 4, none⟩ = some pv := World.news_of_block ((Below.heap_alloc w2 _ r HA2.out.pos.2.2).trans HA2.out.box) 4 _ rfl; clear ho3 hb3)
        | (refine step_app _ rfl strEl (.tmp 28) (.tmp 31) rfl (r + 1) pv j _ (by simp [Act.eval]) (HA2.out.ps.alloc _) (w2.heap.size + 1) (some ⟨w2.heap.size, 0, none⟩) 1 1 [.string (str on)] (by simp [Act.eval]) (by rfl) ((Lies.new w2 #[.string (str on)] 9 (0, 0) _ (Nat.lt_succ_self _)).drew) (by simp [Value.oneCell']) (by have h1 := HNb.out; have h2 := Hlt.out; unfold maxLen; omega) (by have h1 := HNb.out; have h2 := Hlt.out; omega) (by have h1 := HA2.out.pos.2.2; simp; omega) ?_; intro A4 k4 w3 hown1 hg1 hat1; have Ho3 := hide hown1; have Hg3 := hide hg1; have hr3 := NewAt.box3 HA2.out _ hg1; have c4c := cell_of_row4 hr3; have f4c := frozen_of_row w3 r 4 _ _ hr3; clear hown1 hg1 hat1 hr3))
      all_goals
        have e1 : wrap64 ((j : Int) + 1) = ((j + 1 : Nat) : Int) := by rw [i64w (by have h1 := HNb.out; have h2 := Hlt.out; omega)]; rfl
        have hnew := NewAt.grow4 HA2.out _ Hg3.out (by have h := Ho3.out; rw [← Hbl.out] at h; exact h)
        go_wp2
        first
        | exact ⟨⟨j + 1, Nat.succ_le_of_lt Hlt.out, congrArg (Value.int .i64) e1, _, hnew⟩, by rw [e1]; exact meas Hlt.out⟩
        | exact ⟨⟨j + 1, Nat.succ_le_of_lt Hlt.out, congrArg (Value.int .i64) (Int.natCast_succ j).symm, _, hnew⟩, by rw [← Int.natCast_succ]; exact meas Hlt.out⟩
    · obtain rfl : j = N := Nat.le_antisymm hj (Nat.le_of_not_lt hlt)
      have hnl : ¬ ((j : Int) < (j : Int)) := Int.lt_irrefl _
      obtain ⟨nb, hnb⟩ : ∃ nb, nb = gb.toNat := ⟨_, rfl⟩
      have Hnb := hide hnb
      have Hgb := hide (show gb = (nb : Int) by rw [hnb]; exact Hs.out.2.2.1)
      have Hn34 := hide (show nb ≤ 34 by rw [hnb]; exact Hs.out.1.2)
      clear hA hj hlt hnb
      go_wp2
      clear g0 g1
      go_loopw [9] (fun i wy => ∃ m : Nat, m ≤ nb ∧ i = .int .i64 (m : Int) ∧ ∃ nv wv, NewAt w ⟨⟨gb, gp, gr⟩, A1, n1, c1, bl, A2, n2, c2, fl⟩ w.heap.size r j m m pv nv wv wy) (fun i _ => nb - (intOf i).toNat)
      case atStart => exact ⟨0, Nat.zero_le _, rfl, _, _, HA.out⟩
      case round =>
        obtain ⟨m, hm, rfl, nv, wv, hM⟩ := hrel
        have HM := hide hM
        have g0 : wr.cell? ⟨w.heap.size, 0, none⟩ = some (.int .i64 (nb : Int)) := by rw [← Hgb.out]; exact World.news_of_block hM.geo 0 _ rfl
        by_cases hml : m < nb
        · have hml' : (m : Int) < (nb : Int) := Int.ofNat_lt.2 hml
          have c5 : wr.cell? ⟨r, 5, none⟩ = some nv := World.news_of_block hM.box 5 _ rfl
          have Hml := hide hml
          clear hM hml
          go_upto_region 10 with (at_builtin; refine wpl_app _ rfl intEl (.tmp 45) (.tmp 46) rfl (r + 1) nv m _ rfl (HM.out.ns.alloc _) (wr.heap.size + 1) (some ⟨wr.heap.size, 0, none⟩) 1 1 [.int .i64 0] rfl (by rfl) (Lies.new wr #[.int .i64 0] 3 (0, 0) _ (Nat.lt_succ_self _)) (by simp [Value.oneCell']) (by have h1 := Hn34.out; have h2 := Hml.out; unfold maxLen; omega) (by have h1 := Hn34.out; have h2 := Hml.out; omega) (by have h1 := HM.out.pos.2.2; simp; omega) ?_; intro A4 k4 w3 hown1 hg1 hat1; have H3 := hide (HM.out.grow5 _ hg1 hown1 hat1); have hr3 := (HM.out.world _ hg1 (fun g hg => (HM.out.ns.lt g hg).1) nv 5).2.2.2.2; have c5c : w3.cell? ⟨r, 5, none⟩ = some nv := World.news_of_block hr3 5 _ rfl; have f5c := frozen_of_row w3 r 5 _ _ hr3; clear hown1 hg1 hat1 hr3)
          generalize w3.setCell ⟨r, 5, none⟩ (.slice A4 (m + 1) k4) = w4 at *
          have c6 : w4.cell? ⟨r, 6, none⟩ = some wv := World.news_of_block H3.out.box 6 _ rfl
          clear c5c f5c c5 g0
          have e1 : wrap64 ((m : Int) + 1) = ((m + 1 : Nat) : Int) := by rw [i64w (by have h1 := Hn34.out; have h2 := Hml.out; omega)]; rfl
          go_wp2_with (at_builtin; refine wpl_app _ rfl intEl (.tmp 54) (.tmp 55) rfl (r + 1) wv m _ rfl (H3.out.ws.alloc _) (w4.heap.size + 1) (some ⟨w4.heap.size, 0, none⟩) 1 1 [.int .i64 0] rfl (by rfl) (Lies.new w4 #[.int .i64 0] 3 (0, 0) _ (Nat.lt_succ_self _)) (by simp [Value.oneCell']) (by have h1 := Hn34.out; have h2 := Hml.out; unfold maxLen; omega) (by have h1 := Hn34.out; have h2 := Hml.out; omega) (by have h1 := H3.out.pos.2.2; simp; omega) ?_; intro A5 k5 w5 hown1 hg1 hat1; have H5 := hide (H3.out.grow6 _ hg1 hown1 hat1); have hr3 := (H3.out.world _ hg1 (fun g hg => (H3.out.ws.lt g hg).1) wv 6).2.2.2.2; have c6c : w5.cell? ⟨r, 6, none⟩ = some wv := World.news_of_block hr3 6 _ rfl; have f6c := frozen_of_row w5 r 6 _ _ hr3; clear hown1 hg1 hat1 hr3)
          first
          | exact ⟨⟨m + 1, Nat.succ_le_of_lt Hml.out, congrArg (Value.int .i64) e1, _, _, H5.out⟩, by rw [e1]; exact meas Hml.out⟩
          | exact ⟨⟨m + 1, Nat.succ_le_of_lt Hml.out, congrArg (Value.int .i64) (Int.natCast_succ m).symm, _, _, H5.out⟩, by rw [← Int.natCast_succ]; exact meas Hml.out⟩
        · obtain rfl : m = nb := Nat.le_antisymm hm (Nat.le_of_not_lt hml)
          have hmm : ¬ ((m : Int) < (m : Int)) := Int.lt_irrefl _
          clear hM hm hml
          go_wp2
          go_ret
          have h := HM.out
          rw [HN.out, Hnb.out] at h
          exact ⟨_, r, rfl, pv, nv, wv, h⟩
end
end Go.Proofs.Ytahipfmokbiklaa
