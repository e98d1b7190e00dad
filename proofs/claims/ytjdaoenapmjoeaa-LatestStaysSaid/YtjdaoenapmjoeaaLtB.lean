/-
  LAYER 19, CONTRACTS: counter, and the function that it makes.
-/
import Derived.Test.YtjdaoenapmjoeaaLtA
import Derived.Test.YtjdaoenapmjoeaaSuR
import Derived.Test.YtjdaoenapmjoeaaSuS
import Derived.Test.YtjdaoenapmjoeaaElem
namespace Go.Proofs.Ytjdaoenapmjoeaa
open Go.RowKit
set_option maxRecDepth 8000

/-- A function that tells which batches count; its memory lies below Bd. -/
def Cnt (ns : List Int) (q Bd : Nat) (W : World) : Prop :=
  q < Bd ∧ ∃ A n c R, W.cell? ⟨q, 0, none⟩ = some (.slice A n c) ∧ Lies W Bd A (nums .u64 R) ∧ n = R.length ∧ n ≤ 1000 ∧ R.Pairwise (· ≤ ·) ∧ ∀ z, z ∈ R ↔ z ∈ ns
theorem Cnt.below {ns : List Int} {q Bd : Nat} {W W' : World} (h : Cnt ns q Bd W) (hb : Below Bd W W') : Cnt ns q Bd W' := by
  obtain ⟨h1, A, n, c, R, h2, h3, h4⟩ := h
  exact ⟨h1, A, n, c, R, (hb.cell (p := ⟨q, 0, none⟩) h1).trans h2, h3.below hb, h4⟩
theorem Cnt.up {ns : List Int} {q Bd Bd' : Nat} {W : World} (h : Cnt ns q Bd W) (hb : Bd ≤ Bd') : Cnt ns q Bd' W := by
  obtain ⟨h1, A, n, c, R, h2, h3, h4⟩ := h
  exact ⟨Nat.lt_of_lt_of_le h1 hb, A, n, c, R, h2, h3.up hb, h4⟩
set_option maxHeartbeats 4000000 in
theorem counts_any (ns : List Int) (q Bd : Nat) (z : Int) (w : World) (h : Cnt ns q Bd w) :
    Calls Try.prog 34 #[.int .u64 z, .pointer (some ⟨q, 0, none⟩)] w fun e w' => e = .returned (.bool (countO ns z)) ∧ w = w' := by
  obtain ⟨h1, A, n, c, R, h2, h3, h4, h5, h6, h7⟩ := h
  have F := hide (So.search_u64 A n c Bd R z w h3 h4 h5 h6)
  have e : countO ns z = !decide (z ∈ R) := by unfold countO; rw [decide_eq_decide.2 (h7 z)]
  rw [e]
  generalize decide (z ∈ R) = r at *
  clear h1 h3 h4 h5 h6 h7 e
  go_enter Try.func34, Try.ntmps34
  go_wp2_with fail
  (with_reducible refine F.out.mono ?_)
  rintro e w1 ⟨i, rfl, rfl⟩
  clear F
  go_wp2
  go_ret
  exact ⟨rfl, rfl⟩
/-- What counter keeps: the box, and the list in it. -/
structure Cs (w0 : World) (q : Nat) (v : Value) (l : List Int) (W : World) : Prop where
  box : W.cell? ⟨q, 0, none⟩ = some v
  froz : W.frozen? ⟨q, 0, none⟩ = false
  own : W.ownsRow w0.heap.size 26 1 v l.length (nums .u64 l)
  ne : ∀ g, v.ownBlock = some g → g ≠ q
  below : Below w0.heap.size w0 W
  lo : w0.heap.size ≤ q
  hi : q < W.heap.size
theorem Cs.later {w0 W W' : World} {q : Nat} {v : Value} {l : List Int} (h : Cs w0 q v l W) (hb : Below W.heap.size W W') : Cs w0 q v l W' :=
  ⟨(hb.cell (p := ⟨q, 0, none⟩) h.hi).trans h.box, (World.frozen?_of_block (hb.block q h.hi)).trans h.froz, own_keepT h.own hb, h.ne, h.below.trans (hb.mono h.below.size), h.lo, Nat.lt_of_lt_of_le h.hi hb.size⟩
theorem Cs.more {w0 W W5 W6 : World} {q : Nat} {v : Value} {l : List Int} (h : Cs w0 q v l W) (hb : Below W.heap.size W W5) {A : Option Addr} {c : Nat} {z : Int}
    (hown : W6.ownsRow w0.heap.size 26 1 (.slice A (l.length + 1) c) (l.length + 1) (nums .u64 l ++ [.int .u64 z])) (hg : W5.grownBy W6 v.ownBlock) (hat : (Value.slice A (l.length + 1) c).ownBlock = v.ownBlock ∨ (Value.slice A (l.length + 1) c).ownBlock = some W5.heap.size) :
    W6.cell? ⟨q, 0, none⟩ = some v ∧ W6.frozen? ⟨q, 0, none⟩ = false ∧ Cs w0 q (.slice A (l.length + 1) c) (l ++ [z]) (W6.setCell ⟨q, 0, none⟩ (.slice A (l.length + 1) c)) := by
  have h5 := h.later hb
  have hblk : W6.heap[q]? = W5.heap[q]? := hg.block q h5.hi (fun e => h.ne q e.symm rfl)
  have hc : W6.cell? ⟨q, 0, none⟩ = some v := (World.cell?_of_block (a := ⟨q, 0, none⟩) hblk).trans h5.box
  have hf : W6.frozen? ⟨q, 0, none⟩ = false := (World.frozen?_of_block (a := ⟨q, 0, none⟩) hblk).trans h5.froz
  have hlow := own_lowS h5.own
  have hne : ∀ g, (Value.slice A (l.length + 1) c).ownBlock = some g → g ≠ q := by
    intro g hg2
    rcases hat with e | e
    · exact h.ne g (e ▸ hg2)
    · rw [e] at hg2
      injection hg2 with hg2
      have := h5.hi
      omega
  have hl : (l ++ [z]).length = l.length + 1 := by simp
  refine ⟨hc, hf, ?_⟩
  refine ⟨World.cell?_setCell_same' _ _ _ (by rw [hc]; rfl), by rw [World.frozen?_setCell]; exact hf, ?_, hne, ?_, h.lo, by simp; exact Nat.lt_of_lt_of_le h5.hi hg.size⟩
  · rw [hl, show nums .u64 (l ++ [z]) = nums .u64 l ++ [.int .u64 z] by simp [nums]]
    exact hown.kept (row := some q) (So.grown_setU W6 ⟨q, 0, none⟩ _) (by
      cases hv : (Value.slice A (l.length + 1) c).ownBlock with
      | none => exact .inl rfl
      | some g => exact .inr (fun e => hne g hv (by injection e)))
  · exact (h5.below.grown hg h5.below.size (fun g e => (hlow g e).1)).setCell (p := ⟨q, 0, none⟩) h.lo _
theorem u64elemsT : Elems Try.prog 23 26 1 8 := by
  obtain ⟨i0, hi, hz0, hz1, hz2⟩ := info_parts u64info
  exact ⟨Try.underlying23, ⟨i0, _, hi, hz0, hz1, hz2, rfl⟩, by decide⟩
theorem Cs.sorted {w0 W W' : World} {q : Nat} {v : Value} {l R ns : List Int} (h : Cs w0 q v l W) (hp : R.Perm l) (hu : R.Pairwise (· ≤ ·)) (hown : W'.ownsRow w0.heap.size 26 1 v l.length (nums .u64 R)) (hg : W.grownBy W' v.ownBlock) (hn : l.length ≤ 1000) (hm : ∀ z, z ∈ l ↔ z ∈ ns) :
    Cnt ns q W'.heap.size W' ∧ Below w0.heap.size w0 W' := by
  have hlow := own_lowS h.own
  have hblk : W'.heap[q]? = W.heap[q]? := hg.block q h.hi (fun e => h.ne q e.symm rfl)
  have hc : W'.cell? ⟨q, 0, none⟩ = some v := (World.cell?_of_block (a := ⟨q, 0, none⟩) hblk).trans h.box
  refine ⟨⟨Nat.lt_of_lt_of_le h.hi hg.size, ?_⟩, h.below.grown hg h.below.size (fun g e => (hlow g e).1)⟩
  have hl := hp.length_eq
  have hown2 := hown
  rcases hown.2 with ⟨rfl, h0⟩ | ⟨g, cap, cur, rfl, _⟩
  · exact ⟨_, _, _, R, hc, Lies.of_own hown2, by omega, by omega, hu, fun z => by rw [hp.mem_iff]; exact hm z⟩
  · exact ⟨_, _, _, R, hc, Lies.of_own hown2, by omega, by omega, hu, fun z => by rw [hp.mem_iff]; exact hm z⟩
set_option maxHeartbeats 4000000 in
theorem counter_any (A A2 : Option Addr) (n c n2 c2 B : Nat) (l : List Fo) (vs : List Int) (w : World) (hl : Lies w B A (rowO l)) (hv : Lies w B A2 (nums .u64 vs)) (hB : B ≤ w.heap.size) (hn : n = l.length) (hn2 : n2 = vs.length) (hbig : n ≤ 2000) (hbig2 : n2 ≤ 45) :
    Calls Try.prog 22 #[.slice A n c, .slice A2 n2 c2] w fun e w' => ∃ q, e = .returned (.func (.func 34) #[] #[.pointer (some ⟨q, 0, none⟩)]) ∧ Cnt (voidO l vs) q w'.heap.size w' ∧ w.heap.size < w'.heap.size ∧ Below w.heap.size w w' := by
  have F1 := hide (clone_u64 A2 n2 c2 B vs w hv hn2 (by omega))
  obtain ⟨ns, hns⟩ : ∃ ns, voidO l vs = ns := ⟨_, rfl⟩
  rw [hns]
  have Hvo : Hid (ns = vs ++ (if brokenO l = true then [hiO l] else [])) := hide hns.symm
  clear hns
  have HL := hide hl
  have HB := hide hB
  have Hn := hide hn
  have Hn2 := hide hn2
  have Hbig := hide hbig
  have Hbig2 := hide hbig2
  clear hl hv hn hn2 hbig hbig2 hB
  go_enter Try.func22, Try.ntmps22
  go_wp2_with fail
  (with_reducible refine F1.out.mono ?_)
  rintro e w1 ⟨A3, c3, rfl, ho, hb⟩
  have hlo := own_lowS ho
  have C0 : Hid (Cs w w1.heap.size (.slice A3 n2 c3) vs (w1.alloc (.cells #[.slice A3 n2 c3] 23))) := hide {
    box := by simp
    froz := by simp
    own := by rw [← Hn2.out]; exact ho.alloc _
    ne := fun g e => by have := (hlo g e).2; omega
    below := hb.alloc hb.size _
    lo := hb.size
    hi := by simp }
  clear F1 ho hb hlo
  go_wp2_with fail
  generalize w1.heap.size = q at *
  generalize w1.alloc (.cells #[.slice A3 n2 c3] 23) = w2 at *
  (with_reducible refine (high_any A n c B l w2 (HL.out.below (C0.out.below.mono HB.out)) (Nat.le_trans HB.out C0.out.below.size) Hn.out Hbig.out).mono ?_)
  rintro e w3 ⟨rfl, hb⟩
  have C1 := hide (C0.out.later hb)
  clear C0 hb
  go_wp2_with fail
  (with_reducible refine (broken_any A n c B l w3 (HL.out.below (C1.out.below.mono HB.out)) (Nat.le_trans HB.out C1.out.below.size) Hn.out Hbig.out).mono ?_)
  rintro e w4 ⟨rfl, hb⟩
  have C2 := hide (C1.out.later hb)
  clear C1 hb
  generalize brokenO l = bk at *
  generalize hiO l = h at *
  cases bk with
  | false =>
    have hm : ∀ z, z ∈ vs ↔ z ∈ ns := fun z => by rw [Hvo.out, if_neg (by decide), List.append_nil]
    have Hm := hide hm
    have F := hide (So.sortAny_u64 _ _ vs w4 C2.out.own (by have := Hn2.out; have := Hbig2.out; omega))
    have b0 := C2.out.box
    clear hm Hvo
    go_wp2_with fail
    (with_reducible refine F.out.mono ?_)
    rintro e w5 ⟨rfl, R, h1, h2, h3, h4⟩
    obtain ⟨z1, z2⟩ := C2.out.sorted h1 h2 h3 h4 (by have := Hn2.out; have := Hbig2.out; omega) Hm.out
    have Z := hide (And.intro z1 (And.intro (Nat.lt_of_le_of_lt C2.out.lo (Nat.lt_of_lt_of_le C2.out.hi h4.size)) z2))
    clear h1 h2 h3 h4 z1 z2 F b0 C2
    go_wp2
    go_ret
    exact ⟨q, rfl, Z.out⟩
  | true =>
    have hm : ∀ z, z ∈ vs ++ [h] ↔ z ∈ ns := fun z => by rw [Hvo.out, if_pos rfl]
    have Hm := hide hm
    have b0 := C2.out.box
    have HA5 := hide ((Below.refl w4.heap.size w4).alloc (Nat.le_refl _) (.cells #[.int .u64 h] 26))
    clear hm Hvo
    go_wp2_with (at_builtin; refine wpl_app _ rfl u64elemsT (.tmp 17) (.tmp 19) rfl w.heap.size _ vs.length (nums .u64 vs) rfl (own_keepT C2.out.own HA5.out) (w4.heap.size + 1) (some ⟨w4.heap.size, 0, none⟩) 1 1 [.int .u64 h] rfl (by rfl) (Lies.new w4 #[.int .u64 h] 26 (0, 0) _ (Nat.lt_succ_self _)) (by simp [Value.oneCell']) (by have := Hn2.out; have := Hbig2.out; unfold maxLen; omega) (by have := Hn2.out; have := Hbig2.out; omega) (Nat.le_trans C2.out.below.size HA5.out.size) ?_; intro A4 c4 w6 hown hg hat; obtain ⟨b1, b2, C3⟩ := C2.out.more HA5.out hown hg hat; have C3 := hide C3; clear hown hg hat)
    have F := hide (So.sortAny_u64 _ _ (vs ++ [h]) _ C3.out.own (by have := Hn2.out; have := Hbig2.out; simp; omega))
    go_wp2_with fail
    generalize w6.setCell ⟨q, 0, none⟩ (.slice A4 (vs.length + 1) c4) = w7 at *
    (with_reducible refine F.out.mono ?_)
    rintro e w5 ⟨rfl, R, h1, h2, h3, h4⟩
    obtain ⟨z1, z2⟩ := C3.out.sorted h1 h2 h3 h4 (by have := Hn2.out; have := Hbig2.out; simp; omega) Hm.out
    have Z := hide (And.intro z1 (And.intro (Nat.lt_of_le_of_lt C3.out.lo (Nat.lt_of_lt_of_le C3.out.hi h4.size)) z2))
    clear h1 h2 h3 h4 z1 z2 F b0 C2 C3
    go_wp2
    go_ret
    exact ⟨q, rfl, Z.out⟩
end Go.Proofs.Ytjdaoenapmjoeaa
