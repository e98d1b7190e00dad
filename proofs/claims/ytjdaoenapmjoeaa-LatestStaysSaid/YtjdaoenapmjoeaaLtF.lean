/-
  LAYER 19, CONTRACTS: Versions.
-/
import Derived.Test.YtjdaoenapmjoeaaLtE
namespace Go.Proofs.Ytjdaoenapmjoeaa
open Go.RowKit
open Go.Maps (Keyed IsMap)
set_option maxRecDepth 8000

theorem groupO_next {ns : List Int} {l : List Fo} {n : Nat} {f : Fo} (h : l[n]? = some f) (lp : Int) : groupO ns l (l.take (n + 1)) lp = if wantO ns l f = true ∧ lp = f.lp then groupO ns l (l.take n) lp ++ [f] else groupO ns l (l.take n) lp := by
  obtain ⟨hn, rfl⟩ := List.getElem?_eq_some_iff.1 h
  unfold groupO
  rw [← List.take_append_getElem hn, List.filter_append]
  by_cases h1 : wantO ns l l[n] = true
  · by_cases h2 : lp = l[n].lp
    · simp [h1, h2]
    · have h3 : ¬ l[n].lp = lp := fun e => h2 e.symm
      simp [h1, h2, h3]
  · simp [h1]
theorem madeFs (w : World) : (Instr.makeMap 51 none).run Try.prog w = .ok (.map (some w.heap.size)) (w.alloc (.map #[] 0)) := by kernel_rfl
/-- What Versions keeps behind n of the finds. -/
structure Vn (w0 : World) (ns : List Int) (l : List Fo) (q5 q6 bm n : Nat) (D : DataW Value) (V : Int → Value) (W : World) : Prop where
  chs : Chs ns l q5 q6 bm W
  vs : Vs W bm n D V (groupO ns l (l.take n))
  below : Below w0.heap.size w0 W
  lo : w0.heap.size ≤ bm
section
variable {w0 W W5 W6 W7 : World} {ns : List Int} {l : List Fo} {q5 q6 bm n : Nat} {D : DataW Value} {V : Int → Value} {A : Option Addr} {c : Nat} {f : Fo}
theorem Vn.hi (h : Vn w0 ns l q5 q6 bm n D V W) : bm < W.heap.size := h.vs.map_.lt
theorem Vn.later (h : Vn w0 ns l q5 q6 bm n D V W) (hb : Below W.heap.size W W5) : Vn w0 ns l q5 q6 bm n D V W5 :=
  ⟨h.chs.below (hb.mono (Nat.le_of_lt h.hi)), h.vs.later hb, h.below.trans (hb.mono h.below.size), h.lo⟩
theorem Vn.skip (h : Vn w0 ns l q5 q6 bm n D V W) (hf : l[n]? = some f) (hw : wantO ns l f = false) : Vn w0 ns l q5 q6 bm (n + 1) D V W := by
  have e : groupO ns l (l.take (n + 1)) = groupO ns l (l.take n) := by
    funext lp
    rw [groupO_next hf, if_neg (fun h => by rw [hw] at h; exact absurd h.1 (by decide))]
  refine ⟨h.chs, ?_, h.below, h.lo⟩
  rw [e]
  exact { h.vs with map_ := h.vs.map_.mono (Nat.le_succ _) }
theorem Vn.map6 (h : Vn w0 ns l q5 q6 bm n D V W) (hb : Below W.heap.size W W5) {x : Int} (hg : W5.grownBy W6 (V x).ownBlock) : W6.ownsMap Try.prog 3 rawV bm n D := by
  have h5 := h.later hb
  refine h5.vs.map_.kept hg ?_
  intro e
  have := (own_lowS (h5.vs.own x) bm e.symm).1
  omega
theorem Vn.more (h : Vn w0 ns l q5 q6 bm n D V W) (hf : l[n]? = some f) (hw : wantO ns l f = true) (hb : Below W.heap.size W W5)
    (hown : W6.ownsRow (bm + 1) 34 9 (.slice A ((groupO ns l (l.take n) f.lp).length + 1) c) ((groupO ns l (l.take n) f.lp).length + 1) (rowO (groupO ns l (l.take n) f.lp) ++ f.cells)) (hg : W5.grownBy W6 (V f.lp).ownBlock)
    (hat : (Value.slice A ((groupO ns l (l.take n) f.lp).length + 1) c).ownBlock = (V f.lp).ownBlock ∨ (Value.slice A ((groupO ns l (l.take n) f.lp).length + 1) c).ownBlock = some W5.heap.size)
    (hm : W7.ownsMap Try.prog 3 rawV bm (n + 1) (D.put (.int .i64 f.lp) (.held (.slice A ((groupO ns l (l.take n) f.lp).length + 1) c)))) (hg7 : W6.grownBy W7 (some bm)) :
    ∃ D' V', Vn w0 ns l q5 q6 bm (n + 1) D' V' W7 := by
  have e : groupO ns l (l.take (n + 1)) = fun x => if x = f.lp then groupO ns l (l.take n) f.lp ++ [f] else groupO ns l (l.take n) x := by
    funext lp
    rw [groupO_next hf]
    by_cases hx : lp = f.lp
    · rw [if_pos ⟨hw, hx⟩, if_pos hx, hx]
    · rw [if_neg (fun h => hx h.2), if_neg hx]
  have hvs := h.vs.more hb hown hg hat hm hg7
  rw [← e] at hvs
  have h5 := h.later hb
  have b6 : Below bm W5 W7 := ((Below.refl bm W5).grown hg (Nat.le_of_lt h5.hi) (fun j e => by have := (own_lowS (h5.vs.own f.lp) j e).1; omega)).grown hg7 (Nat.le_trans (Nat.le_of_lt h5.hi) hg.size) (fun j e => by injection e with e; omega)
  exact ⟨_, _, h5.chs.below b6, hvs, (h5.below.grown hg h5.below.size (fun j e => by have := (own_lowS (h5.vs.own f.lp) j e).1; have := h.lo; omega)).grown hg7 (Nat.le_trans h5.below.size hg.size) (fun j e => by injection e with e; have := h.lo; omega), h.lo⟩
end
end Go.Proofs.Ytjdaoenapmjoeaa
