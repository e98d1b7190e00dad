/-
  LAYER 19: what Versions has told so far, as the map is ranged over.
-/
import Derived.Test.YtjdaoenapmjoeaaLtF
namespace Go.Proofs.Ytjdaoenapmjoeaa
open Go.RowKit
open Go.Maps (Keyed IsMap)
set_option maxRecDepth 8000

/-- What is told of a logical page. -/
structure Te where
  lp : Int
  kd : Int
  a : Addr
  n : Nat
  c : Nat
deriving Inhabited
def Te.cells (t : Te) : List Value := [.int .i64 t.lp, .int .i64 t.kd, .slice (some t.a) t.n t.c]
theorem Te.cells_len (t : Te) : t.cells.length = 3 := rfl
theorem te_one (x : Te) : ∀ u ∈ x.cells, u.oneCell' = true := by simp [Te.cells, Value.oneCell']
theorem teelems : Elems Try.prog 37 42 3 40 := by
  obtain ⟨i0, hi, hz0, hz1, hz2⟩ := info_parts (show (Try.prog.info? 42).map (fun i => (i.zero, i.size, i.bytes)) = some (some (.agg #[.int .i64 0, .int .i64 0, .slice none 0 0]), 3, 40) by kernel_rfl)
  exact ⟨Try.underlying37, ⟨i0, _, hi, hz0, hz1, hz2, rfl⟩, by decide⟩
/-- It is what it should be. -/
structure Good (G : Int → List Fo) (r : Nat) (v : Value) (W : World) (t : Te) : Prop where
  ne : G t.lp ≠ []
  kd : t.kd = kindO (G t.lp)
  n : t.n = (G t.lp).length
  hi : r < t.a.block
  lt : t.a.block < W.heap.size
  own : v.ownBlock ≠ some t.a.block
  at_ : ∀ j u, (pairCells (atsO (G t.lp)))[j]? = some u → W.cell? (t.a.add j) = some u
theorem Good.turn {G : Int → List Fo} {r : Nat} {v v' : Value} {W W' : World} {t : Te} (h : Good G r v W t) (hs : W.heap.size ≤ W'.heap.size) (hb : W'.heap[t.a.block]? = W.heap[t.a.block]?) (hv : v'.ownBlock ≠ some t.a.block) : Good G r v' W' t :=
  ⟨h.ne, h.kd, h.n, h.hi, Nat.lt_of_lt_of_le h.lt hs, hv, fun j u hu => by
    have e : (t.a.add j).block = t.a.block := by unfold Addr.add; split <;> rfl
    exact (World.cell?_of_block (a := t.a.add j) (by rw [e]; exact hb)).trans (h.at_ j u hu)⟩
structure Vt (w0 : World) (G : Int → List Fo) (bm r n M : Nat) (D : DataW Value) (V : Int → Value) (left : Lit → Bool) (cnt : Nat) (T : List Te) (v : Value) (W : World) : Prop where
  rg : W.ranges Try.prog 3 rawV bm r n D left cnt
  at_ : ∀ lp : Int, D.atKey (.int .i64 lp) (.held (.slice none 0 0)) = .held (V lp)
  rows : ∀ lp : Int, left (.int .i64 lp) = true → W.ownsRow (bm + 1) 34 9 (V lp) (G lp).length (rowO (G lp))
  low : ∀ (lp : Int) g, (V lp).ownBlock = some g → bm < g ∧ g < r
  apart : ∀ x y g, x ≠ y → (V x).ownBlock = some g → (V y).ownBlock ≠ some g
  told : W.ownsRow (r + 1) 42 3 v T.length (T.flatMap Te.cells)
  each : ∀ t ∈ T, Good G r v W t
  keys : ∀ lp : Int, G lp ≠ [] ↔ left (.int .i64 lp) = true ∨ lp ∈ T.map Te.lp
  fresh : ∀ lp, lp ∈ T.map Te.lp → left (.int .i64 lp) = false
  nodup : (T.map Te.lp).Nodup
  len : T.length + cnt ≤ M
  below : Below w0.heap.size w0 W
  lo : w0.heap.size ≤ bm
  br : bm < r
theorem size_le {P : Program} {k : TypeId} {R : Value → Option (DataW Value × List MemPlace)} {W : World} {b n : Nat} {D : DataW Value} (h : W.ownsMap P k R b n D) : Maps.size D ≤ n := by
  obtain ⟨es, clock, _, _, hs, rfl⟩ := h
  show (List.foldr DataW.insert [] _).length ≤ n
  rw [length_sorted, List.length_map, Array.length_toList]
  exact hs
theorem Vn.start {w0 W W' : World} {ns : List Int} {l : List Fo} {q5 q6 bm n : Nat} {D : DataW Value} {V : Int → Value} (h : Vn w0 ns l q5 q6 bm n D V W) (hn : l.length = n)
    (hrg : W'.ranges Try.prog 3 rawV bm W.heap.size n D (Maps.has D) (Maps.size D)) (hg : W.grownBy W' none) (hs : W'.heap.size = W.heap.size + 1) :
    Vt w0 (groupO ns l l) bm W.heap.size n (Maps.size D) D V (Maps.has D) (Maps.size D) [] (.slice none 0 0) W' := by
  have hvs := h.vs
  rw [show l.take n = l from List.take_of_length_le (by omega)] at hvs
  exact {
    rg := hrg
    at_ := hvs.at_
    rows := fun lp _ => (hvs.own lp).kept hg (by cases (V lp).ownBlock <;> simp)
    low := fun lp g e => (own_lowS (hvs.own lp) g e)
    apart := hvs.apart
    told := World.ownsRow_nil _ _ _ _
    each := fun t ht => by cases ht
    keys := fun lp => by rw [hvs.has lp]; simp
    fresh := fun lp hx => by cases hx
    nodup := List.nodup_nil
    len := by simp
    below := h.below.grown hg h.below.size (fun k e => by cases e)
    lo := h.lo
    br := h.hi }
section
variable {w0 W W1 W2 W3 W4 : World} {G : Int → List Fo} {bm r n M cnt cnt' g : Nat} {D : DataW Value} {V : Int → Value} {left : Lit → Bool} {T : List Te} {v : Value} {x : Int}
theorem Vt.told3 (h : Vt w0 G bm r n M D V left cnt T v W) (hg1 : W.grownBy W1 (some r)) (hgx : (V x).ownBlock = some g) (hg2 : W1.grownBy W2 (some g)) (hb3 : Below W2.heap.size W2 W3) :
    W3.ownsRow (r + 1) 42 3 v T.length (T.flatMap Te.cells) ∧ r + 1 ≤ W3.heap.size := by
  have hl := own_lowS h.told
  have hlow := h.low x g hgx
  refine ⟨own_keepT ((h.told.kept hg1 ?_).kept hg2 ?_) hb3, Nat.le_trans h.rg.lt (Nat.le_trans hg1.size (Nat.le_trans hg2.size hb3.size))⟩
  · cases hv : v.ownBlock with
    | none => exact .inl rfl
    | some j => exact .inr (fun e => by injection e with e; have := (hl j hv).1; omega)
  · cases hv : v.ownBlock with
    | none => exact .inl rfl
    | some j => exact .inr (fun e => by injection e with e; have := (hl j hv).1; omega)
theorem Vt.more {A : Option Addr} {c c' : Nat} {a : Addr} (h : Vt w0 G bm r n M D V left cnt T v W) (hx : left (.int .i64 x) = true) (hcnt : cnt' < cnt)
    (hrg : W1.ranges Try.prog 3 rawV bm r n D (fun z => left z && !z.sameKey (.int .i64 x)) cnt') (hg1 : W.grownBy W1 (some r))
    (hgx : (V x).ownBlock = some g) (hg2 : W1.grownBy W2 (some g)) (ha : W1.heap.size ≤ a.block) (hat : Lies W2 W2.heap.size (some a) (pairCells (atsO (G x)))) (hne : pairCells (atsO (G x)) ≠ []) (hb3 : Below W2.heap.size W2 W3)
    (hown : W4.ownsRow (r + 1) 42 3 (.slice A (T.length + 1) c) (T.length + 1) (T.flatMap Te.cells ++ [.int .i64 x, .int .i64 (kindO (G x)), .slice (some a) (G x).length c'])) (hg4 : W3.grownBy W4 v.ownBlock)
    (hblk : (Value.slice A (T.length + 1) c).ownBlock = v.ownBlock ∨ (Value.slice A (T.length + 1) c).ownBlock = some W3.heap.size) :
    Vt w0 G bm r n M D V (fun z => left z && !z.sameKey (.int .i64 x)) cnt' (T ++ [⟨x, kindO (G x), a, (G x).length, c'⟩]) (.slice A (T.length + 1) c) W4 := by
  have hl := own_lowS h.told
  have hlow := h.low x g hgx
  have hr := h.rg.lt
  have hbr := h.br
  obtain ⟨t3, _⟩ := h.told3 hg1 hgx hg2 hb3
  have hl3 := own_lowS t3
  have hab : a.block < W2.heap.size ∧ ∀ j u, (pairCells (atsO (G x)))[j]? = some u → W2.cell? (a.add j) = some u := by
    rcases hat with e | ⟨a', e, h1, h2⟩
    · exact absurd e hne
    · cases e; exact ⟨h1, h2⟩
  have hbk : ∀ j, j < W.heap.size → j ≠ r → j ≠ g → v.ownBlock ≠ some j → W4.heap[j]? = W.heap[j]? := fun j hj h1 h2 h3 =>
    (hg4.block j (Nat.lt_of_lt_of_le hj (Nat.le_trans hg1.size (Nat.le_trans hg2.size hb3.size))) (fun e => h3 e.symm)).trans ((hb3.block j (Nat.lt_of_lt_of_le hj (Nat.le_trans hg1.size hg2.size))).trans ((hg2.block j (Nat.lt_of_lt_of_le hj hg1.size) (fun e => h2 (by injection e))).trans (hg1.block j hj (fun e => h1 (by injection e)))))
  have hsz : W.heap.size ≤ W4.heap.size := Nat.le_trans hg1.size (Nat.le_trans hg2.size (Nat.le_trans hb3.size hg4.size))
  have hGx : G x ≠ [] := (h.keys x).2 (.inl hx)
  have hnotin : x ∉ T.map Te.lp := fun hin => by rw [h.fresh x hin] at hx; exact absurd hx (by decide)
  have hsame : ∀ z : Int, (Lit.int .i64 z).sameKey (.int .i64 x) = decide (z = x) := fun z => by
    by_cases hz : z = x <;> simp [Lit.sameKey, hz]
  have hvg : ∀ j, v.ownBlock = some j → r < j := fun j hj => (hl j hj).1
  exact {
    rg := ((hrg.kept hg2 (by intro e; injection e with e; omega) (by intro e; injection e with e; omega)).kept (row := none) (grown_below hb3) (by simp) (by simp)).kept hg4 (by intro e; have := hvg _ e.symm; omega) (by intro e; have := hvg _ e.symm; omega)
    at_ := h.at_
    rows := fun lp hlp => by
      rw [hsame lp] at hlp
      have h1 : left (.int .i64 lp) = true := by cases hq : left (.int .i64 lp) <;> simp_all
      have h2 : lp ≠ x := by intro e; subst e; simp at hlp
      have hlw := fun j e => h.low lp j e
      refine (own_keepT (((h.rows lp h1).kept hg1 ?_).kept hg2 ?_) hb3).kept hg4 ?_
      · cases hv : (V lp).ownBlock with
        | none => exact .inl rfl
        | some j => exact .inr (fun e => by injection e with e; have := (hlw j hv).2; omega)
      · cases hv : (V lp).ownBlock with
        | none => exact .inl rfl
        | some j => exact .inr (fun e => by injection e with e; exact h.apart lp x j h2 hv (e ▸ hgx))
      · cases hv : (V lp).ownBlock with
        | none => exact .inl rfl
        | some j => exact .inr (fun e => by have := (hlw j hv).2; have := hvg j e.symm; omega)
    low := h.low
    apart := h.apart
    told := by
      rw [List.flatMap_append, List.length_append]
      exact hown
    each := fun t ht => by
      rcases List.mem_append.1 ht with ht | ht
      · have hg := h.each t ht
        refine hg.turn hsz (hbk _ hg.lt (by have := hg.hi; omega) (by have := hg.hi; omega) hg.own) ?_
        rcases hblk with e | e
        · rw [e]; exact hg.own
        · rw [e]; intro e2; injection e2 with e2; have := hg.lt; have := hg1.size; have := hg2.size; have := hb3.size; omega
      · rw [List.mem_singleton] at ht
        subst ht
        have hav : ∀ j, v.ownBlock = some j → j < a.block := fun j hj => by have := (hl j hj).2; have := hg1.size; omega
        refine ⟨hGx, rfl, rfl, by have := hg1.size; show r < a.block; omega, Nat.lt_of_lt_of_le hab.1 (Nat.le_trans hb3.size hg4.size), ?_, fun j u hu => ?_⟩
        · rcases hblk with e | e
          · rw [e]; intro e2; exact absurd (hav _ e2) (Nat.lt_irrefl _)
          · rw [e]; intro e2; have h9 : W3.heap.size = a.block := by injection e2
            have := hab.1; have := hb3.size; omega
        · have e : (a.add j).block = a.block := by unfold Addr.add; split <;> rfl
          refine (World.cell?_of_block (a := a.add j) ?_).trans (hab.2 j u hu)
          rw [e]
          exact (hg4.block _ (Nat.lt_of_lt_of_le hab.1 hb3.size) (fun e => by have := hav _ e.symm; omega)).trans (hb3.block _ hab.1)
    keys := fun lp => by
      rw [h.keys lp, hsame lp, List.map_append, List.mem_append]
      by_cases hz : lp = x
      · subst hz; simp [hx]
      · simp [hz]
    fresh := fun lp hin => by
      rw [List.map_append, List.mem_append] at hin
      rw [hsame lp]
      rcases hin with hin | hin
      · rw [h.fresh lp hin]; rfl
      · simp at hin; simp [hin]
    nodup := by
      rw [List.map_append, List.nodup_append]
      refine ⟨h.nodup, by simp, fun y hy z hz => ?_⟩
      simp at hz
      subst hz
      exact fun e => hnotin (e ▸ hy)
    len := by have := h.len; rw [List.length_append]; simp; omega
    below := (((h.below.grown hg1 h.below.size (fun k e => by injection e with e; have := h.lo; omega)).grown hg2 (Nat.le_trans h.below.size hg1.size) (fun k e => by injection e with e; have := h.lo; omega)).trans (hb3.mono (Nat.le_trans h.below.size (Nat.le_trans hg1.size hg2.size)))).grown hg4 (Nat.le_trans h.below.size (Nat.le_trans hg1.size (Nat.le_trans hg2.size hb3.size))) (fun k e => by have := hvg k e; have := h.lo; omega)
    lo := h.lo
    br := h.br }
end
end Go.Proofs.Ytjdaoenapmjoeaa
