/-
  LAYER 19, CONTRACTS: what is told, sorted.
-/
import Derived.Test.YtjdaoenapmjoeaaLtG
import Derived.Test.YtjdaoenapmjoeaaStA
import Derived.Test.YtjdaoenapmjoeaaShelf
import Derived.Shelf.SlSortCmp.NoneTotal
namespace Go.Proofs.Ytjdaoenapmjoeaa
open Go.RowKit Go.Sort Go.Shelf
set_option maxRecDepth 8000

def cmpT (x y : Te) : Int := cmpZ x.lp y.lp
theorem ltT (x y : Te) : ltOf cmpT x y = decide (x.lp < y.lp) := by
  unfold ltOf cmpT cmpZ
  by_cases h1 : x.lp < y.lp
  · simp [h1]
  · by_cases h2 : y.lp < x.lp <;> simp [h1, h2]
theorem swoT : SWO (ltOf cmpT) where
  irrefl x := by rw [ltT]; simp
  trans x y z h1 h2 := by rw [ltT] at *; simp at *; omega
  ntrans x y z h1 h2 := by rw [ltT] at *; simp at *; omega
theorem cmpT_any (f g : Te) (w : World) :
    Calls Try.prog 20 #[.agg f.cells.toArray, .agg g.cells.toArray] w fun e w' => e = .returned (.int .i64 (cmpT f g)) ∧ ∃ q os, w' = Sort.grow (w.drewN q) os := by
  unfold cmpT
  rcases f with ⟨l1, k1, a1, n1, c1⟩
  rcases g with ⟨l2, k2, a2, n2, c2⟩
  have hx : (w.alloc (.cells #[.int .i64 l1, .int .i64 k1, .slice (some a1) n1 c1] 42)).heap[w.heap.size]? = some (.cells #[.int .i64 l1, .int .i64 k1, .slice (some a1) n1 c1] 42 (0, 0)) := heap_alloc_new w _
  have hy := heap_alloc_new (w.alloc (.cells #[.int .i64 l1, .int .i64 k1, .slice (some a1) n1 c1] 42)) (.cells #[.int .i64 l2, .int .i64 k2, .slice (some a2) n2 c2] 42)
  have hx2 := (Below.heap_alloc (w.alloc (.cells #[.int .i64 l1, .int .i64 k1, .slice (some a1) n1 c1] 42)) (.cells #[.int .i64 l2, .int .i64 k2, .slice (some a2) n2 c2] 42) w.heap.size (by simp)).trans hx
  rw [show (w.alloc (.cells #[.int .i64 l1, .int .i64 k1, .slice (some a1) n1 c1] 42)).heap.size = w.heap.size + 1 by simp] at hy
  have HW : Hid (∃ q os, (w.alloc (.cells #[.int .i64 l1, .int .i64 k1, .slice (some a1) n1 c1] 42)).alloc (.cells #[.int .i64 l2, .int .i64 k2, .slice (some a2) n2 c2] 42) = Sort.grow (w.drewN q) os) :=
    hide ⟨0, _, by rw [Sort.alloc_eq_grow, Sort.alloc_eq_grow, Sort.grow_grow]; rfl⟩
  have X := hide (And.intro hx2 hy)
  unfold Te.cells
  dsimp only
  obtain ⟨z, hz⟩ : ∃ z, cmpZ l1 l2 = z := ⟨_, rfl⟩
  have F := hide (fun W => cmp_int l1 l2 W)
  rw [hz] at F ⊢
  clear hz hx hy hx2
  go_enter Try.func20, Try.ntmps20
  go_upto_region 1 with fail
  generalize (w.alloc (.cells #[.int .i64 l1, .int .i64 k1, .slice (some a1) n1 c1] 42)).alloc (.cells #[.int .i64 l2, .int .i64 k2, .slice (some a2) n2 c2] 42) = w2 at *
  have x0 : w2.cell? ⟨w.heap.size, 0, none⟩ = some (.int .i64 l1) := by simp [World.cell?, X.out.1]
  have y0 : w2.cell? ⟨w.heap.size + 1, 0, none⟩ = some (.int .i64 l2) := by simp [World.cell?, X.out.2]
  clear X
  go_wp2_with fail
  (with_reducible refine (F.out _).mono ?_)
  rintro e w' ⟨rfl, rfl⟩
  go_wp2
  go_ret
  exact ⟨rfl, HW.out⟩
theorem cmpLays_told {w : World} {g n : Nat} : CmpLays Try.prog 20 #[] Te.cells 3 cmpT g 0 n w := by
  intro m os dk _ x y
  exact cmpT_any x y _
set_option maxHeartbeats 2000000 in
/-- What is told, sorted where it lies. -/
theorem sortTold_any (v : Value) (T : List Te) (base : Nat) (w : World) (h : w.ownsRow base 42 3 v T.length (T.flatMap Te.cells)) (hbig : T.length ≤ 1000) :
    Calls Try.prog 19 #[v, .func (.func 20) #[] #[]] w fun e w' => e = .returned (.tuple #[]) ∧ w.grownBy w' v.ownBlock ∧ ∃ (A : Option Addr) (c : Nat) (R : List Te), v = .slice A T.length c ∧ R.Perm T ∧ R.Pairwise (fun x y => x.lp ≤ y.lp) ∧ Lies w' w'.heap.size A (R.flatMap Te.cells) := by
  have hw := h
  rcases h.2 with ⟨rfl, h0⟩ | ⟨g, cap, cur, rfl, _⟩
  · have hT : T = [] := List.eq_nil_of_length_eq_zero h0
    subst hT
    have := AnyF.slices_SortFunc_none Try.laySortC none 0 (.func (.func 20) #[] #[]) w
    change Calls Try.prog 19 _ _ _ at this
    refine this.mono ?_
    rintro e w' ⟨rfl, rfl⟩
    exact ⟨rfl, ⟨rfl, rfl, rfl, Nat.le_refl _, fun _ _ _ => rfl⟩, none, 0, [], rfl, List.Perm.refl _, List.Pairwise.nil, .inl rfl⟩
  · have hg : g < w.heap.size := (own_lowS hw g rfl).2
    have hH := holdsK_own Te.cells_len hw
    have eg : ∀ args w, (callFunc 20 args).run Try.prog w = .ok (.enter 20 args) w := enters_of Try.func20 (by kernel_rfl) rfl
    have := AnyQ.slices_SortFunc Try.laySortC 3 Try.isAgg42 Try.sizeOf42 Te.cells Te.cells_len te_one cmpT swoT 20 #[] g 0 cap T.toArray w eg cmpLays_told hH hg (by simp; omega)
    change Calls Try.prog 19 _ _ _ at this
    rw [show T.toArray.size = T.length by simp] at this
    refine this.mono ?_
    rintro e w' ⟨rfl, d', n, os, hp, hs, hw'⟩
    have S : SWK Te.cells 3 w g 0 d' w' := ⟨n, os, hw'⟩
    obtain ⟨p1, _, p3⟩ := hp
    have q1 : d'.size = T.length := by rw [p1]; simp
    refine ⟨rfl, grown_sw S, _, cap, d'.toList, rfl, ?_, ?_, lies_holdsK Te.cells_len (S.holds hg hH p1) (S.lt hg)⟩
    · have e1 : d'.extract 0 T.length = d' := by rw [← q1]; simp
      have e2 : T.toArray.extract 0 T.length = T.toArray := by simp
      rw [e1, e2] at p3
      exact p3
    · rw [List.pairwise_iff_getElem]
      intro i j hi hj hij
      have hj' : j < T.length := by rw [← q1]; simpa using hj
      have h3 := hs i j (Nat.zero_le _) hij hj'
      rw [ltT] at h3
      have hi2 : i < d'.size := by simpa using hi
      have hj2 : j < d'.size := by simpa using hj
      rw [getElem!_pos d' i hi2, getElem!_pos d' j hj2] at h3
      simpa using h3

/-- WHAT VERSIONS TELLS: where it lies, and that it is what it should be. -/
structure Vr (w0 : World) (G : Int → List Fo) (A : Option Addr) (R : List Te) (W : World) : Prop where
  lies : Lies W W.heap.size A (R.flatMap Te.cells)
  keys : ∀ lp : Int, G lp ≠ [] ↔ lp ∈ R.map Te.lp
  sorted : (R.map Te.lp).Pairwise (· < ·)
  each : ∀ t ∈ R, t.kd = kindO (G t.lp) ∧ t.n = (G t.lp).length ∧ t.a.block < W.heap.size ∧ ∀ j u, (pairCells (atsO (G t.lp)))[j]? = some u → W.cell? (t.a.add j) = some u
  below : Below w0.heap.size w0 W
  len : R.length ≤ 1000
theorem Vr.later {w0 W W' : World} {G : Int → List Fo} {A : Option Addr} {R : List Te} (h : Vr w0 G A R W) (hb : Below W.heap.size W W') : Vr w0 G A R W' where
  lies := by
    rcases h.lies with e | ⟨a, e, h1, h2⟩
    · exact .inl e
    · exact .inr ⟨a, e, Nat.lt_of_lt_of_le h1 hb.size, fun j u hu => by
        have e2 : (a.add j).block = a.block := by unfold Addr.add; split <;> rfl
        exact (World.cell?_of_block (a := a.add j) (by rw [e2]; exact hb.block _ h1)).trans (h2 j u hu)⟩
  keys := h.keys
  sorted := h.sorted
  each := fun t ht => by
    obtain ⟨h1, h2, h3, h4⟩ := h.each t ht
    refine ⟨h1, h2, Nat.lt_of_lt_of_le h3 hb.size, fun j u hu => ?_⟩
    have e2 : (t.a.add j).block = t.a.block := by unfold Addr.add; split <;> rfl
    exact (World.cell?_of_block (a := t.a.add j) (by rw [e2]; exact hb.block _ h3)).trans (h4 j u hu)
  below := h.below.trans (hb.mono h.below.size)
  len := h.len
theorem Vt.done {w0 W W' : World} {G : Int → List Fo} {bm r n M : Nat} {D : DataW Value} {V : Int → Value} {left : Lit → Bool} {T R : List Te} {A : Option Addr} {v : Value} (h : Vt w0 G bm r n M D V left 0 T v W) (hl : ∀ kl, left kl = false)
    (hg : W.grownBy W' v.ownBlock) (hp : R.Perm T) (hs : R.Pairwise (fun x y => x.lp ≤ y.lp)) (hL : Lies W' W'.heap.size A (R.flatMap Te.cells)) (hM : M ≤ 1000) : Vr w0 G A R W' where
  lies := hL
  keys := fun lp => by rw [h.keys lp, hl]; simp [(hp.map Te.lp).mem_iff]
  sorted := by
    have h1 : (R.map Te.lp).Nodup := (hp.map Te.lp).nodup_iff.2 h.nodup
    rw [List.pairwise_map]
    have h2 : R.Pairwise (fun x y => x.lp ≠ y.lp) := by rw [List.Nodup, List.pairwise_map] at h1; exact h1
    exact (hs.and h2).imp fun ⟨a, b⟩ => by omega
  each := fun t ht => by
    have hgd := h.each t (hp.mem_iff.1 ht)
    have := hgd.turn (v' := v) hg.size (hg.block _ hgd.lt (fun e => hgd.own e.symm)) hgd.own
    exact ⟨this.kd, this.n, this.lt, this.at_⟩
  below := h.below.grown hg h.below.size (fun k e => by have := (own_lowS h.told k e).1; have := h.lo; have := h.br; omega)
  len := by rw [hp.length_eq]; have := h.len; omega
end Go.Proofs.Ytjdaoenapmjoeaa
