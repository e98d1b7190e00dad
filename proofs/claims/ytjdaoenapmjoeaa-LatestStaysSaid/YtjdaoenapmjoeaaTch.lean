/-
  WORLDS of which some blocks have turned; blocks of cells; bytes in blocks of bytes. (Cut out of Dev.)
-/
import Derived.Test.YtjdaoenapmjoeaaRowK
import Derived.Maps.OwnSet
import Derived.Laws.IdiomCopy
import Derived.Deep.MidRow
namespace Go.Proofs.Ytjdaoenapmjoeaa
open Go.RowKit

/-! ### worlds of which some blocks have turned -/
/-- Of what was there only the blocks S have turned. -/
structure Tch (S : List Nat) (w w' : World) : Prop where
  os : w'.os = w.os
  tape : w'.tape = w.tape
  output : w'.output = w.output
  size : w.heap.size ≤ w'.heap.size
  block : ∀ k, k < w.heap.size → k ∉ S → w'.heap[k]? = w.heap[k]?
theorem Tch.refl (S : List Nat) (w : World) : Tch S w w := ⟨rfl, rfl, rfl, Nat.le_refl _, fun _ _ _ => rfl⟩
theorem Tch.trans {S : List Nat} {a b c : World} (h : Tch S a b) (h2 : Tch S b c) : Tch S a c :=
  ⟨h2.os.trans h.os, h2.tape.trans h.tape, h2.output.trans h.output, Nat.le_trans h.size h2.size, fun k hk hs => (h2.block k (Nat.lt_of_lt_of_le hk h.size) hs).trans (h.block k hk hs)⟩
theorem Tch.mono {S S' : List Nat} {a b : World} (h : Tch S a b) (hs : ∀ k ∈ S, k ∈ S') : Tch S' a b :=
  ⟨h.os, h.tape, h.output, h.size, fun k hk hn => h.block k hk fun h2 => hn (hs k h2)⟩
theorem Tch.below {S : List Nat} {a b : World} {B : Nat} (h : Tch S a b) (hB : B ≤ a.heap.size) (hs : ∀ k ∈ S, B ≤ k) : Below B a b :=
  ⟨h.os, h.tape, h.output, h.size, fun k hk => h.block k (by omega) fun h2 => by have := hs k h2; omega⟩
theorem Tch.set {S : List Nat} {w : World} {p : Addr} (hp : p.block ∈ S) (u : Value) : Tch S w (w.setCell p u) :=
  ⟨rfl, rfl, rfl, by simp [World.setCell], fun k _ hk => Below.heap_setCell _ _ _ _ (fun e => hk (e ▸ hp))⟩
theorem Tch.drew {S : List Nat} {w w' : World} (h : Tch S w w') : Tch S w w'.drew := ⟨h.os, h.tape, h.output, h.size, h.block⟩
theorem Tch.drewN {S : List Nat} {w w' : World} (h : Tch S w w') (n : Nat) : Tch S w (w'.drewN n) := ⟨h.os, h.tape, h.output, h.size, h.block⟩
theorem Tch.grown {S : List Nat} {w w' : World} {g : Nat} (h : w.grownBy w' (some g)) (hg : g ∈ S) : Tch S w w' :=
  ⟨h.os, h.tape, h.output, h.size, fun k hk hs => h.block k hk (fun e => by injection e with e; exact hs (e ▸ hg))⟩

/-! ### a block of cells -/
/-- Block k holds the n cells f. -/
def RowF (w : World) (k : Nat) (t : TypeId) (n : Nat) (f : Nat → Value) : Prop := ∃ cs, w.heap[k]? = some (.cells cs t (0, 0)) ∧ cs.size = n ∧ ∀ j, j < n → cs[j]? = some (f j)
section
variable {w w' : World} {k n : Nat} {t : TypeId} {f g : Nat → Value}
theorem RowF.lt (h : RowF w k t n f) : k < w.heap.size := by obtain ⟨cs, h, _⟩ := h; exact (Array.getElem?_eq_some_iff.1 h).1
theorem RowF.cell (h : RowF w k t n f) {j : Nat} (hj : j < n) : w.cell? ⟨k, j, none⟩ = some (f j) := by
  obtain ⟨cs, h, hn, hc⟩ := h
  simp [World.cell?, h, hc j hj]
theorem RowF.kept (h : RowF w k t n f) (hb : w'.heap[k]? = w.heap[k]?) : RowF w' k t n f := by
  obtain ⟨cs, h, hn⟩ := h
  exact ⟨cs, hb.trans h, hn⟩
theorem RowF.congr (h : RowF w k t n f) (he : ∀ j, j < n → f j = g j) : RowF w k t n g := by
  obtain ⟨cs, h, hn, hc⟩ := h
  exact ⟨cs, h, hn, fun j hj => by rw [hc j hj, he j hj]⟩
theorem heap_set {cs : Array Value} {fr : Nat × Nat} (h : w.heap[k]? = some (.cells cs t fr)) (j : Nat) (u : Value) : (w.setCell ⟨k, j, none⟩ u).heap[k]? = some (.cells (cs.setIfInBounds j u) t fr) := by
  simp [World.setCell, Array.getElem?_modify, h]
theorem RowF.set (h : RowF w k t n f) (j : Nat) (u : Value) : RowF (w.setCell ⟨k, j, none⟩ u) k t n (fun i => if i = j then u else f i) := by
  obtain ⟨cs, h, hn, hc⟩ := h
  refine ⟨_, heap_set h j u, by simpa using hn, fun i hi => ?_⟩
  rw [Array.getElem?_setIfInBounds]
  by_cases e : i = j
  · subst e; simp [hn, hi]
  · show _ = some (if i = j then u else f i)
    rw [if_neg (fun h => e h.symm), if_neg e, hc i hi]
theorem RowF.new (w : World) (cs : Array Value) (t : TypeId) (n : Nat) (f : Nat → Value) (hn : cs.size = n) (hc : ∀ j, j < n → cs[j]? = some (f j)) : RowF (w.alloc (.cells cs t)) w.heap.size t n f :=
  ⟨cs, heap_alloc_new w _, hn, hc⟩
theorem RowF.setCells : ∀ (vs : List Value) (o : Nat) (w : World) (f : Nat → Value), RowF w k t n f →
    RowF (w.setCells k o vs) k t n (fun i => if o ≤ i ∧ i < o + vs.length then vs.getD (i - o) undef else f i)
  | [], o, w, f, h => h.congr fun i _ => by rw [if_neg (by simp)]
  | v :: r, o, w, f, h => by
    refine (RowF.setCells r (o + 1) _ _ (h.set o v)).congr fun i _ => ?_
    simp only [List.length_cons]
    by_cases h1 : i = o
    · subst h1
      rw [if_neg (by omega), if_pos rfl, if_pos (by omega), Nat.sub_self]
      rfl
    · by_cases h2 : o + 1 ≤ i ∧ i < o + 1 + r.length
      · rw [if_pos h2, if_pos (by omega), show i - o = (i - (o + 1)) + 1 by omega]
        rfl
      · rw [if_neg h2, if_neg h1, if_neg (by omega)]
end
theorem Tch.setCells {S : List Nat} {k : Nat} (hk : k ∈ S) : ∀ (vs : List Value) (o : Nat) (w : World), Tch S w (w.setCells k o vs)
  | [], _, w => Tch.refl S w
  | v :: r, o, _ => (Tch.set (p := ⟨k, o, none⟩) hk v).trans (Tch.setCells hk r (o + 1) _)

/-! ### bytes in blocks of bytes -/
/-- Bytes that lie in a block of bytes, below block B. -/
def LiesT (w : World) (B : Nat) (A : Option Addr) (l : List UInt8) : Prop :=
  l = [] ∨ ∃ a, A = some a ∧ a.block < B ∧ (∃ cs fr, w.heap[a.block]? = some (.cells cs 5 fr)) ∧ ∀ j u, (bys l)[j]? = some u → w.cell? (a.add j) = some u
theorem LiesT.lies {w : World} {B : Nat} {A : Option Addr} {l : List UInt8} (h : LiesT w B A l) : Lies w B A (bys l) := by
  rcases h with rfl | ⟨a, hA, hb, _, hc⟩
  · exact .inl rfl
  · exact .inr ⟨a, hA, hb, hc⟩
theorem LiesT.kept {w w' : World} {B : Nat} {A : Option Addr} {l : List UInt8} (h : LiesT w B A l) (hk : ∀ b, b < B → (∃ cs fr, w.heap[b]? = some (.cells cs 5 fr)) → w'.heap[b]? = w.heap[b]?) : LiesT w' B A l := by
  rcases h with rfl | ⟨a, hA, hb, ⟨cs, fr, ht⟩, hc⟩
  · exact .inl rfl
  · have e := hk _ hb ⟨cs, fr, ht⟩
    refine .inr ⟨a, hA, hb, ⟨cs, fr, e.trans ht⟩, fun j u hu => ?_⟩
    have e2 : (a.add j).block = a.block := by unfold Addr.add; split <;> rfl
    exact (World.cell?_of_block (w := w) (a := a.add j) (by rw [e2]; exact e)).trans (hc j u hu)
theorem LiesT.up {w : World} {B B' : Nat} {A : Option Addr} {l : List UInt8} (h : LiesT w B A l) (hB : B ≤ B') : LiesT w B' A l := by
  rcases h with h | ⟨a, hA, hb, r⟩
  · exact .inl h
  · exact .inr ⟨a, hA, by omega, r⟩
theorem LiesT.of_own {w : World} {base m c n : Nat} {A : Option Addr} {l : List UInt8} (h : w.ownsRow base 5 1 (.slice A m c) n (bys l)) : LiesT w w.heap.size A l := by
  rcases h.2 with ⟨hv, hn⟩ | ⟨g, cap, cur, hv, _, hg, _, _, _, _⟩
  · refine .inl (List.eq_nil_of_length_eq_zero ?_)
    have := h.1
    rw [bys_len, hn, Nat.zero_mul] at this
    exact this
  · injection hv with hA _ _
    subst hA
    exact .inr ⟨_, rfl, (Array.getElem?_eq_some_iff.1 hg).1, ⟨_, _, hg⟩, h.cells rfl⟩

theorem LiesT.new (w : World) (l : List UInt8) (cs : Array Value) (hcs : cs.toList = bys l) (g B : Nat) (hg : g = w.heap.size) (hB : g < B) : LiesT (w.alloc (.cells cs 5)) B (some ⟨g, 0, none⟩) l := by
  subst hg
  refine .inr ⟨_, rfl, hB, ⟨cs, (0, 0), heap_alloc_new w _⟩, ?_⟩
  rw [← hcs]
  exact World.news_of_block (heap_alloc_new w _)
theorem LiesT.drew {w : World} {B : Nat} {A : Option Addr} {l : List UInt8} (h : LiesT w B A l) : LiesT w.drew B A l := h

end Go.Proofs.Ytjdaoenapmjoeaa
