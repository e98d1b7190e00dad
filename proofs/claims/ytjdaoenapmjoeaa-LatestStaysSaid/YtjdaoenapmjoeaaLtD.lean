/-
  LAYER 19, CONTRACTS: rows of structs that are sorted; copies.
-/
import Derived.Test.YtjdaoenapmjoeaaStE
import Derived.Test.YtjdaoenapmjoeaaSuB
import Derived.Test.YtjdaoenapmjoeaaMid
namespace Go.Proofs.Ytjdaoenapmjoeaa
open Go.RowKit Go.Sort
set_option maxRecDepth 8000

section
variable {α : Type} [Inhabited α] {enc : α → List Value} {k : Nat}
theorem flat_get (hk : ∀ x, (enc x).length = k) (d : Array α) (t : Nat) (ht : t < d.size * k) : (d.toList.flatMap enc)[t]? = some (flatK enc k d)[t]! := by
  have hk0 : 0 < k := by
    cases k with
    | zero => simp at ht
    | succ k => exact Nat.succ_pos _
  have h1 : t / k < d.size := Nat.div_lt_of_lt_mul (by rw [Nat.mul_comm]; exact ht)
  have h2 : t % k < k := Nat.mod_lt _ hk0
  have h3 := flat_at enc k hk d.toList (t / k) (by simpa using h1) (t % k) h2
  rw [get_flatK enc k d t ht]
  rw [show t / k * k + t % k = t by rw [Nat.mul_comm]; exact Nat.div_add_mod t k] at h3
  rw [h3]
  have h4 : d.toList[t / k]'(by simpa using h1) = d[t / k]! := by rw [getElem!_pos d _ h1]; simp
  rw [h4, List.getElem!_eq_getElem?_getD, List.getElem?_eq_getElem (by rw [hk]; exact h2)]
  rfl
theorem holdsK_own {w : World} {base g n c : Nat} {e : TypeId} {l : List α} (hk : ∀ x, (enc x).length = k) (h : w.ownsRow base e k (.slice (some ⟨g, 0, none⟩) n c) n (l.flatMap enc)) : HoldsK enc k w g 0 l.toArray := by
  intro t ht
  rw [size_flatK] at ht
  have h1 := flat_get hk l.toArray t ht
  have h2 := h.cells rfl t _ h1
  have e : ((⟨g, 0, none⟩ : Addr).add t) = ⟨g, 0 + t, none⟩ := by unfold Addr.add; by_cases hq : t = 0 <;> simp [hq]
  rw [e] at h2
  exact ⟨h2, by rw [Nat.zero_add]; exact h.frozenAt t⟩
theorem lies_holdsK {w : World} {g B : Nat} {d : Array α} (hk : ∀ x, (enc x).length = k) (h : HoldsK enc k w g 0 d) (hg : g < B) : Lies w B (some ⟨g, 0, none⟩) (d.toList.flatMap enc) := by
  refine .inr ⟨_, rfl, hg, fun j u hu => ?_⟩
  have hj : j < d.size * k := by
    have := (List.getElem?_eq_some_iff.1 hu).1
    rw [flat_len enc k hk] at this
    simpa using this
  have h1 := flat_get hk d j hj
  rw [hu] at h1
  injection h1 with h1
  have e : ((⟨g, 0, none⟩ : Addr).add j) = ⟨g, 0 + j, none⟩ := by unfold Addr.add; by_cases hq : j = 0 <;> simp [hq]
  rw [e, h1]
  exact (h j (by rw [size_flatK]; exact hj)).1
theorem grown_sw {w W : World} {g off : Nat} {dk : Array α} (S : SWK enc k w g off dk W) : w.grownBy W (some g) := by
  obtain ⟨n, os, rfl⟩ := S
  refine ⟨rfl, rfl, rfl, by unfold sortWorldK; rw [size_grow, size_putRowK]; exact Nat.le_add_right _ _, fun j hj hne => ?_⟩
  have hne2 : ¬ g = j := fun e => hne (by rw [e])
  unfold sortWorldK
  rw [Sort.heap_grow_old _ _ (by rw [size_putRowK]; exact hj)]
  show (Sort.mapBlock _ _ _).heap[j]? = _
  simp [Sort.mapBlock, Array.getElem?_modify, hne2]
end

/-- What copies makes of the finds. -/
def sortO (l : List Fo) : List Fo := (St.stab (ltOf cmpO) l.toArray).toList
def kindO (l : List Fo) : Int := ((sortO l).getD 0 default).kd
def atO (f : Fo) : Int × Int := (f.x, f.y)
def atsO (l : List Fo) : List (Int × Int) := (sortO l).map atO
theorem sortO_len (l : List Fo) : (sortO l).length = l.length := by
  unfold sortO
  rw [Array.length_toList, St.stab_size]
  simp
theorem cmpLays_order {w : World} {g n : Nat} : CmpLays Try.prog 29 #[] Fo.cells 9 cmpO g 0 n w := by
  intro m os dk _ x y
  exact order_any x y _
theorem placeElems : Elems Try.prog 40 30 2 16 := by
  obtain ⟨i0, hi, hz0, hz1, hz2⟩ := info_parts (show (Try.prog.info? 30).map (fun i => (i.zero, i.size, i.bytes)) = some (some (.agg #[.int .i64 0, .int .i64 0]), 2, 16) by kernel_rfl)
  exact ⟨Try.underlying40, ⟨i0, _, hi, hz0, hz1, hz2, rfl⟩, by decide⟩
set_option maxHeartbeats 2000000 in
/-- A row of finds, sorted where it lies. -/
theorem sortRow_any (g n c base : Nat) (l : List Fo) (w : World) (h : w.ownsRow base 34 9 (.slice (some ⟨g, 0, none⟩) n c) n (rowO l)) (hn : n = l.length) (hbig : n ≤ 1000) :
    Calls Try.prog 28 #[.slice (some ⟨g, 0, none⟩) n c, .func (.func 29) #[] #[]] w fun e w' => e = .returned (.tuple #[]) ∧ Lies w' w'.heap.size (some ⟨g, 0, none⟩) (rowO (sortO l)) ∧ w.grownBy w' (some g) := by
  have hg : g < w.heap.size := (own_lowS h g rfl).2
  have hH := holdsK_own Fo.cells_len h
  have R : RowK Fo.cells 9 w g 0 l.toArray := ⟨Fo.cells_len, fun x => fo_one x, hH, hg⟩
  have eg : ∀ args w, (callFunc 29 args).run Try.prog w = .ok (.enter 29 args) w := enters_of Try.func29 (by kernel_rfl) rfl
  have F := St.sortStable_any (cf := cmpO) (fun w => Try.sizeOf34 w) eg cmpLays_order R c (by simp; omega)
  rw [show l.toArray.size = n by simp [hn]] at F
  refine F.mono ?_
  rintro e w' ⟨rfl, S⟩
  refine ⟨rfl, ?_, grown_sw S⟩
  have h2 := S.holds hg hH (St.stab_size _ _)
  exact lies_holdsK Fo.cells_len h2 (S.lt hg)
/-- What copies keeps behind n of the finds. -/
structure Cp (w : World) (g q4 q5 : Nat) (lp kd : Int) (E : List Fo) (n : Nat) (v : Value) (W : World) : Prop where
  b4 : W.heap[q4]? = some (.cells #[.int .i64 0, .int .i64 0, .slice none 0 0] 42 (0, 0))
  b5 : W.heap[q5]? = some (.cells #[.int .i64 lp, .int .i64 kd, v] 42 (0, 0))
  own : W.ownsRow (q5 + 1) 30 2 v n (pairCells ((E.take n).map atO))
  row : Lies W w.heap.size (some ⟨g, 0, none⟩) (rowO E)
  grown : w.grownBy W (some g)
  lo : w.heap.size ≤ q4
  lo5 : q4 < q5
section
variable {w W W' : World} {g q4 q5 n : Nat} {lp kd : Int} {E : List Fo} {v : Value}
theorem Cp.h5 (h : Cp w g q4 q5 lp kd E n v W) : q5 < W.heap.size := (Array.getElem?_eq_some_iff.1 h.b5).1
theorem Cp.later (h : Cp w g q4 q5 lp kd E n v W) (hb : Below W.heap.size W W') : Cp w g q4 q5 lp kd E n v W' :=
  ⟨(hb.block q4 (by have := h.h5; have := h.lo5; omega)).trans h.b4, (hb.block q5 h.h5).trans h.b5, own_keepT h.own hb, h.row.below (hb.mono (by have := h.h5; have := h.lo5; have := h.lo; omega)),
    ⟨hb.os.trans h.grown.os, hb.tape.trans h.grown.tape, hb.output.trans h.grown.output, Nat.le_trans h.grown.size hb.size, fun j hj hne => (hb.block j (Nat.lt_of_lt_of_le hj h.grown.size)).trans (h.grown.block j hj hne)⟩, h.lo, h.lo5⟩
theorem box3 {W : World} {q : Nat} {a b v : Value} (h : W.heap[q]? = some (.cells #[a, b, v] 42 (0, 0))) : W.cell? ⟨q, 0, none⟩ = some a ∧ W.cell? ⟨q, 1, none⟩ = some b ∧ W.cell? ⟨q, 2, none⟩ = some v ∧ W.frozen? ⟨q, 0, none⟩ = false ∧ W.frozen? ⟨q, 1, none⟩ = false ∧ W.frozen? ⟨q, 2, none⟩ = false := by
  refine ⟨?_, ?_, ?_, frozen_of_row W q 0 _ _ h, frozen_of_row W q 1 _ _ h, frozen_of_row W q 2 _ _ h⟩ <;> simp [World.cell?, h]
theorem Cp.more {W5 W6 : World} {A : Option Addr} {c : Nat} {x : Fo} (h : Cp w g q4 q5 lp kd E n v W) (hb : Below W.heap.size W W5) (hx : E[n]? = some x)
    (hown : W6.ownsRow (q5 + 1) 30 2 (.slice A (n + 1) c) (n + 1) (pairCells ((E.take n).map atO) ++ [.int .i64 x.x, .int .i64 x.y])) (hg : W5.grownBy W6 v.ownBlock) :
    W6.heap[q5]? = some (.cells #[.int .i64 lp, .int .i64 kd, v] 42 (0, 0)) ∧ Cp w g q4 q5 lp kd E (n + 1) (.slice A (n + 1) c) (W6.setCell ⟨q5, 2, none⟩ (.slice A (n + 1) c)) := by
  obtain ⟨hn, rfl⟩ := List.getElem?_eq_some_iff.1 hx
  have h5 := h.later hb
  have hlow := own_lowS h5.own
  have hbelow : Below (q5 + 1) W5 W6 := (Below.refl _ W5).grown hg h5.h5 (fun j e => (hlow j e).1)
  have b5 := (hbelow.block q5 (Nat.lt_succ_self _)).trans h5.b5
  have b4 := (hbelow.block q4 (by have := h.lo5; omega)).trans h5.b4
  refine ⟨b5, ?_, ?_, ?_, ?_, ?_, h.lo, h.lo5⟩
  · rw [Below.heap_setCell _ _ _ _ (by have := h.lo5; show q4 ≠ q5; omega)]; exact b4
  · simp [World.setCell, Array.getElem?_modify, b5]
  · rw [← List.take_append_getElem hn, List.map_append, show pairCells ((E.take n).map atO ++ [E[n]].map atO) = pairCells ((E.take n).map atO) ++ [.int .i64 E[n].x, .int .i64 E[n].y] by simp [pairCells, atO]]
    exact hown.kept (row := some q5) (So.grown_setU W6 ⟨q5, 2, none⟩ _) (by
      cases hv : (Value.slice A (n + 1) c).ownBlock with
      | none => exact .inl rfl
      | some j => exact .inr (fun e => by injection e with e; have := (own_lowS hown j hv).1; omega))
  · exact (h5.row.below (hbelow.mono (by have := h.lo; have := h.lo5; omega))).below ((Below.refl w.heap.size W6).setCell (p := ⟨q5, 2, none⟩) (by have := h.lo; have := h.lo5; show w.heap.size ≤ q5; omega) _)
  · have g1 := h5.grown
    have g2 : Below w.heap.size W5 (W6.setCell ⟨q5, 2, none⟩ (.slice A (n + 1) c)) := (hbelow.mono (by have := h.lo; have := h.lo5; omega)).setCell (p := ⟨q5, 2, none⟩) (by have := h.lo; have := h.lo5; show w.heap.size ≤ q5; omega) _
    exact ⟨g2.os.trans g1.os, g2.tape.trans g1.tape, g2.output.trans g1.output, Nat.le_trans g1.size g2.size, fun j hj hne => (g2.block j hj).trans (g1.block j hj hne)⟩
/-- The end: what is kept goes to the result's box. -/
theorem Cp.over (h : Cp w g q4 q5 lp kd E n v W) (hn : n = E.length) (h0 : 0 < n) :
    ∃ a c', v = .slice (some a) n c' ∧ (W.setRow q4 #[.int .i64 lp, .int .i64 kd, v]).heap[q4]? = some (.cells #[.int .i64 lp, .int .i64 kd, v] 42 (0, 0)) ∧ w.heap.size ≤ a.block ∧ Lies (W.setRow q4 #[.int .i64 lp, .int .i64 kd, v]) (W.setRow q4 #[.int .i64 lp, .int .i64 kd, v]).heap.size (some a) (pairCells (E.map atO)) ∧ w.grownBy (W.setRow q4 #[.int .i64 lp, .int .i64 kd, v]) (some g) := by
  have hb4 := Go.setRow_heap W q4 _ #[.int .i64 lp, .int .i64 kd, v] _ _ h.b4
  have hgr : W.grownBy (W.setRow q4 #[.int .i64 lp, .int .i64 kd, v]) (some q4) := ⟨rfl, rfl, rfl, by simp, fun j _ hne => Go.setRow_other W q4 j _ (fun e => hne (by rw [e]))⟩
  have hlow := own_lowS h.own
  have how := h.own
  rw [show E.take n = E from List.take_of_length_le (by omega)] at how
  have hown : (W.setRow q4 #[.int .i64 lp, .int .i64 kd, v]).ownsRow (q5 + 1) 30 2 v n (pairCells (E.map atO)) := how.kept (row := some q4) hgr (by
    cases hv : v.ownBlock with
    | none => exact .inl rfl
    | some j => exact .inr (fun e => by injection e with e; have := (hlow j hv).1; have := h.lo5; omega))
  rcases hown.2 with ⟨rfl, hz⟩ | ⟨g2, cap, cur, rfl, hr⟩
  · omega
  · refine ⟨⟨g2, 0, none⟩, cap, rfl, hb4, ?_, Lies.of_own hown, ?_⟩
    · have := (hlow g2 rfl).1; have := h.lo5; have := h.lo; show w.heap.size ≤ g2; omega
    · have g1 := h.grown
      exact ⟨g1.os, g1.tape, g1.output, by simp; exact g1.size, fun j hj hne => (Go.setRow_other W q4 j _ (by have := h.lo; omega)).trans (g1.block j hj hne)⟩
end
theorem infoPl : (Try.prog.info? 30).map (·.size) = some 2 := by kernel_rfl
theorem infoCp : (Try.prog.info? 42).map (·.size) = some 3 := by kernel_rfl
set_option maxHeartbeats 4000000 in
theorem copies_any (g n c base : Nat) (l : List Fo) (lp : Int) (w : World) (h : w.ownsRow base 34 9 (.slice (some ⟨g, 0, none⟩) n c) n (rowO l)) (hn : n = l.length) (h0 : 0 < n) (hbig : n ≤ 1000) :
    Calls Try.prog 18 #[.int .i64 lp, .slice (some ⟨g, 0, none⟩) n c] w fun e w' => ∃ a c', e = .returned (.agg #[.int .i64 lp, .int .i64 (kindO l), .slice (some a) n c']) ∧ w.heap.size ≤ a.block ∧ Lies w' w'.heap.size (some a) (pairCells (atsO l)) ∧ w.grownBy w' (some g) := by
  have hg : g < w.heap.size := (own_lowS h g rfl).2
  obtain ⟨E, hE⟩ : ∃ E, sortO l = E := ⟨_, rfl⟩
  have hEl : E.length = n := by rw [← hE, sortO_len, hn]
  have hk : kindO l = (E[0]'(by omega)).kd := by
    unfold kindO
    rw [hE]
    simp [List.getD, List.getElem?_eq_getElem (show 0 < E.length by omega)]
  have ha : atsO l = E.map atO := by unfold atsO; rw [hE]
  rw [hk, ha]
  have b0 := (Below.refl w.heap.size w).alloc (Nat.le_refl _) (.cells #[.int .i64 0, .int .i64 0, .slice none 0 0] 42)
  have F := hide (sortRow_any g n c base l (w.alloc (.cells #[.int .i64 0, .int .i64 0, .slice none 0 0] 42)) (h.alloc _) hn hbig)
  rw [hE] at F
  have Q4 : Hid ((w.alloc (.cells #[.int .i64 0, .int .i64 0, .slice none 0 0] 42)).heap[w.heap.size]? = some (.cells #[.int .i64 0, .int .i64 0, .slice none 0 0] 42 (0, 0))) := hide (heap_alloc_new w _)
  have B0 := hide b0
  have Hg := hide hg
  have Hl := hide hEl
  have Hb := hide hbig
  have H0 := hide h0
  obtain ⟨kd, hkd⟩ : ∃ kd, (E[0]'(by omega)).kd = kd := ⟨_, rfl⟩
  rw [hkd]
  have Hkd : Hid (∃ h : 0 < E.length, (E[0]'h).kd = kd) := hide ⟨_, hkd⟩
  clear h hn hg hE hEl hk ha b0 hkd hbig
  go_enter Try.func18, Try.ntmps18
  go_wp2_with fail
  generalize w.alloc (.cells #[.int .i64 0, .int .i64 0, .slice none 0 0] 42) = w1 at *
  (with_reducible refine F.out.mono ?_)
  rintro e w2 ⟨rfl, hL, hG⟩
  have b4 : w2.heap[w.heap.size]? = some (.cells #[.int .i64 0, .int .i64 0, .slice none 0 0] 42 (0, 0)) := (hG.block _ ((Array.getElem?_eq_some_iff.1 Q4.out).1) (fun e => by injection e with e; have := Hg.out; omega)).trans Q4.out
  have hg2 : w.grownBy w2 (some g) := by
    have b := B0.out
    exact ⟨hG.os.trans b.os, hG.tape.trans b.tape, hG.output.trans b.output, Nat.le_trans b.size hG.size, fun j hj hne => (hG.block j (Nat.lt_of_lt_of_le hj b.size) hne).trans (b.block j hj)⟩
  have h4 : w.heap.size < w2.heap.size := (Array.getElem?_eq_some_iff.1 b4).1
  have hL2 : Lies w2 w.heap.size (some ⟨g, 0, none⟩) (rowO E) := by
    rcases hL with hL | ⟨a, e, _, hc⟩
    · exact .inl hL
    · cases e; exact .inr ⟨_, rfl, Hg.out, hc⟩
  have x2 : w2.cell? ⟨g, 2, none⟩ = some (.int .i64 kd) := by
    obtain ⟨hlen, hkd⟩ := Hkd.out
    obtain ⟨a, e, _, hc⟩ := hL2.elem (f := Fo.cells) (m := 9) Fo.cells_len hlen (by decide)
    cases e
    have := hc 2 _ rfl
    rw [← hkd]
    exact this
  have C0 : Hid (Cp w g w.heap.size w2.heap.size lp kd E 0 (.slice none 0 0) (w2.alloc (.cells #[.int .i64 lp, .int .i64 kd, .slice none 0 0] 42))) := hide {
    b4 := (Below.heap_alloc _ _ _ h4).trans b4
    b5 := heap_alloc_new w2 _
    own := World.ownsRow_nil _ _ _ _
    row := hL2.below ((Below.refl w.heap.size w2).alloc (Nat.le_of_lt h4) _)
    grown := hg2.trans (World.grownBy_alloc w2 _ _)
    lo := Nat.le_refl _
    lo5 := h4 }
  clear F hL hG b4 hg2 h4 hL2 Q4 B0
  have h0' : (0 : Int) < (n : Int) := by have := H0.out; omega
  go_wp2_with fail
  generalize w2.alloc (.cells #[.int .i64 lp, .int .i64 kd, .slice none 0 0] 42) = w3 at *
  generalize w2.heap.size = q5 at *
  clear x2
  go_loopw [7, 19] (fun _ i wr => ∃ k : Nat, k ≤ n ∧ i = .int .i64 (k : Int) ∧ ∃ v, Hid (Cp w g w.heap.size q5 lp kd E k v wr)) (fun _ i _ => n - (intOf i).toNat)
  case atStart => exact ⟨0, Nat.zero_le _, rfl, _, C0⟩
  case round =>
    clear C0
    obtain ⟨k, hk, rfl, v, HC⟩ := hrel
    by_cases hlt : k < n
    · have hlt' : (k : Int) < (n : Int) := by omega
      have e7 : wrap64 ((k : Int) + 1) = ((k + 1 : Nat) : Int) := by have := Hb.out; unfold wrap64; omega
      have hkl : k < E.length := by rw [Hl.out]; exact hlt
      obtain ⟨ad, ea, hab, hca⟩ := HC.out.row.elem (f := Fo.cells) (m := 9) Fo.cells_len hkl (by decide)
      cases ea
      rw [show (⟨g, 0, none⟩ : Addr).add (k * 9) = ⟨g, k * 9, none⟩ by unfold Addr.add; by_cases hq : k * 9 = 0 <;> simp [hq]] at hca
      have Hca := hide hca
      have Hx : Hid (E[k]? = some E[k]) := hide (List.getElem?_eq_getElem hkl)
      generalize E[k] = f at *
      clear hca hab hkl
      rcases f with ⟨fx, fy, kn, ix, ct, bt, op, lq, ln⟩
      have HX4 := hide (BoxO.new ⟨fx, fy, kn, ix, ct, bt, op, lq, ln⟩ wr)
      have HA4 := hide (HC.out.later ((Below.refl wr.heap.size wr).alloc (Nat.le_refl _) (.cells (Fo.cells ⟨fx, fy, kn, ix, ct, bt, op, lq, ln⟩).toArray 34)))
      have Hlt : Hid (k < n) := hide hlt
      unfold Fo.cells at *
      dsimp only at *
      go_upto_region 6 with (with_reducible refine wpl_load_addr rfl 34 (.tmp 21) rfl ⟨g, k * 9, none⟩ _ Hca.out rfl _ Try.underlying34 rfl 9 infoFo rfl ?_)
      generalize wr.alloc (.cells #[.int .i64 fx, .int .i64 fy, .int .i64 kn, .int .i64 ix, .int .i64 ct, .int .u64 bt, .int .u64 op, .int .i64 lq, .int .i64 ln] 34) = w4 at *
      have b := box3 HA4.out.b5
      have c2 := b.2.2.1
      have Hxy : Hid (∀ j u, [Value.int .i64 fx, Value.int .i64 fy][j]? = some u → w4.cell? ((⟨wr.heap.size, 0, none⟩ : Addr).add j) = some u) := hide (fun j u hu => by
        rcases j with _ | _ | j
        · injection hu with hu; rw [← hu]; exact HX4.out.c 0 _ rfl
        · injection hu with hu; rw [← hu]; exact HX4.out.c 1 _ rfl
        · simp at hu)
      have HA5 := hide ((Below.refl w4.heap.size w4).alloc (Nat.le_refl _) (.cells #[.int .i64 fx, .int .i64 fy] 30))
      clear b
      go_wp2_with (first
        | (with_reducible refine wpl_load_addr rfl 30 (.tmp 25) rfl ⟨wr.heap.size, 0, none⟩ _ Hxy.out rfl _ Try.underlying30 rfl 2 infoPl rfl ?_)
        | (at_builtin; refine wpl_app _ rfl placeElems (.tmp 24) (.tmp 27) rfl (q5 + 1) _ k (pairCells ((E.take k).map atO)) rfl (own_keepT HA4.out.own HA5.out) (w4.heap.size + 1) (some ⟨w4.heap.size, 0, none⟩) 1 1 [.int .i64 fx, .int .i64 fy] rfl (by rfl) (Lies.new w4 #[.int .i64 fx, .int .i64 fy] 30 (0, 0) _ (Nat.lt_succ_self _)) (by simp [Value.oneCell']) (by have := Hlt.out; have := Hb.out; unfold maxLen; omega) (by have := Hlt.out; have := Hb.out; omega) (Nat.le_trans HA4.out.h5 HA5.out.size) ?_; intro A3 c3 w6 hown hg hat; obtain ⟨b6, HC6⟩ := HA4.out.more HA5.out Hx.out hown hg; have HC6 := hide HC6; have b6 := box3 b6; have d2 := b6.2.2.1; have f2 := b6.2.2.2.2.2; clear hown hg hat b6))
      go_roundw
      case rel => exact ⟨k + 1, hlt, congrArg (Value.int .i64) e7, _, HC6⟩
      case measure => first | exact measT hlt | exact measT2 e7 hlt
    · obtain rfl : k = n := by omega
      obtain ⟨a, c', hv, hb4, ha, hL, hg⟩ := HC.out.over Hl.out.symm H0.out
      have b4 := HC.out.b4
      have b := box3 HC.out.b5
      have Hv : Hid (∀ j u, [Value.int .i64 lp, Value.int .i64 kd, v][j]? = some u → wr.cell? ((⟨q5, 0, none⟩ : Addr).add j) = some u) := hide (fun j u hu => by
        rcases j with _ | _ | _ | j
        · injection hu with hu; rw [← hu]; exact b.1
        · injection hu with hu; rw [← hu]; exact b.2.1
        · injection hu with hu; rw [← hu]; exact b.2.2.1
        · simp at hu)
      have HE := hide (And.intro ha (And.intro hL hg))
      have HB4 := hide b4
      have HB5 := hide hb4
      subst hv
      clear b b4 hb4 ha hL hg HC
      go_wp2_with (first
        | (with_reducible refine wpl_load_addr rfl 42 (.tmp 5) rfl ⟨q5, 0, none⟩ _ Hv.out rfl _ Try.underlying42 rfl 3 infoCp rfl ?_)
        | (with_reducible refine wpList_store_row rfl 42 (.tmp 4) (.tmp 31) rfl w.heap.size #[.int .i64 lp, .int .i64 kd, .slice (some a) k c'] rfl rfl 42 _ HB4.out (by with_unfolding_all exact infoCp) (by with_unfolding_all rfl) (by with_unfolding_all rfl) ?_))
      refine bodyPost_ret (v := .agg #[.int .i64 lp, .int .i64 kd, .slice (some a) k c']) (results_cell_row rfl _ _ w.heap.size 42 _ (0, 0) _ rfl HB5.out Try.underlying42 rfl infoCp) rfl ?_
      exact ⟨a, c', rfl, HE.out⟩
end Go.Proofs.Ytjdaoenapmjoeaa
