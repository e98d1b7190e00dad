/-
  LAYER 19: the law's own walk: what is added, and what both Versions tell.
-/
import Derived.Test.YtjdaoenapmjoeaaLtT
import Derived.Test.YtjdaoenapmjoeaaLtU
import Derived.Test.YtjdaoenapmjoeaaLtJ
import Derived.Test.YtjdaoenapmjoeaaLtQ
import Derived.Lib.QuietBelow
namespace Go.Proofs.Ytjdaoenapmjoeaa
open Go.RowKit Go.Sort
set_option maxRecDepth 8000

theorem asc_same : ∀ {a b : List Int}, a.Pairwise (· < ·) → b.Pairwise (· < ·) → (∀ x, x ∈ a ↔ x ∈ b) → a = b
  | [], [], _, _, _ => rfl
  | [], y :: b, _, _, h => by have := (h y).2 (List.mem_cons_self ..); cases this
  | x :: a, [], _, _, h => by have := (h x).1 (List.mem_cons_self ..); cases this
  | x :: a, y :: b, ha, hb, h => by
    rw [List.pairwise_cons] at ha hb
    have exy : x = y := by
      have h1 := (h x).1 (List.mem_cons_self ..)
      have h2 := (h y).2 (List.mem_cons_self ..)
      rcases List.mem_cons.1 h1 with e | h1
      · exact e
      · rcases List.mem_cons.1 h2 with e | h2
        · exact e.symm
        · have := hb.1 x h1; have := ha.1 y h2; omega
    subst exy
    refine congrArg (x :: ·) (asc_same ha.2 hb.2 fun z => ?_)
    have hz := h z
    rw [List.mem_cons, List.mem_cons] at hz
    constructor
    · intro m
      rcases hz.1 (.inr m) with e | m2
      · have := ha.1 z m; omega
      · exact m2
    · intro m
      rcases hz.2 (.inr m) with e | m2
      · have := hb.1 z m; omega
      · exact m2
theorem Vr.same {w0 w1 W W' : World} {G : Int → List Fo} {A1 A2 : Option Addr} {R1 R2 : List Te} (h1 : Vr w0 G A1 R1 W) (h2 : Vr w1 G A2 R2 W') : R1.map Te.lp = R2.map Te.lp :=
  asc_same h1.sorted h2.sorted fun x => by rw [← h1.keys x, ← h2.keys x]
theorem Vr.lens {w0 w1 W W' : World} {G : Int → List Fo} {A1 A2 : Option Addr} {R1 R2 : List Te} (h1 : Vr w0 G A1 R1 W) (h2 : Vr w1 G A2 R2 W') : R2.length = R1.length := by
  have := congrArg List.length (h1.same h2)
  rw [List.length_map, List.length_map] at this
  exact this.symm
theorem Vr.at_ {w0 w1 W W' : World} {G : Int → List Fo} {A1 A2 : Option Addr} {R1 R2 : List Te} (h1 : Vr w0 G A1 R1 W) (h2 : Vr w1 G A2 R2 W') (i : Nat) (hi : i < R1.length) (hj : i < R2.length) : R2[i].lp = R1[i].lp := by
  have := congrArg (fun l : List Int => l[i]?) (h1.same h2)
  simp [hi, hj] at this
  exact this.symm
/-- Same of two copies that Versions told, in a world that came later. -/
theorem Vr.asked {w0 w1 W : World} {G : Int → List Fo} {A1 A2 : Option Addr} {R1 R2 : List Te} (h1 : Vr w0 G A1 R1 W) (h2 : Vr w1 G A2 R2 W) (hG : ∀ lp, (G lp).length ≤ 1000000) (hats : ∀ lp, (atsO (G lp)).length = (G lp).length) (i : Nat) (hi : i < R1.length) (hj : i < R2.length) (W' : World) (hb : Below W.heap.size W W') :
    Calls Try.prog 10 #[.agg R1[i].cells.toArray, .agg R2[i].cells.toArray] W' fun e w' => e = .returned (.bool true) ∧ Below W'.heap.size W' w' := by
  have e := h1.at_ h2 i hi hj
  obtain ⟨k1, n1, b1, c1⟩ := h1.each R1[i] (List.getElem_mem hi)
  obtain ⟨k2, n2, b2, c2⟩ := h2.each R2[i] (List.getElem_mem hj)
  rw [e] at k2 n2 c2
  generalize R1[i] = t1 at *
  generalize R2[i] = t2 at *
  rcases t1 with ⟨l1, d1, a1, m1, q1⟩
  rcases t2 with ⟨l2, d2, a2, m2, q2⟩
  dsimp only at *
  subst e k1 k2 n1 n2
  exact same19_same (some a1) (some a2) (G l2).length q1 q2 W.heap.size l2 (kindO (G l2)) (atsO (G l2)) W' (Lies.below (.inr ⟨a1, rfl, b1, c1⟩) hb) (Lies.below (.inr ⟨a2, rfl, b2, c2⟩) hb) (hats l2).symm (hG l2) hb.size

/-- What is put together behind k of the finds that are told more. -/
structure Al (w0 : World) (l more : List Fo) (vs : List Int) (k : Nat) (X : List Fo) (v : Value) (W : World) : Prop where
  own : W.ownsRow w0.heap.size 34 9 v (l.length + X.length) (rowO (l ++ X))
  idle : ∀ f ∈ X, Idle l vs f
  sub : ∀ f ∈ X, f ∈ more
  len : X.length ≤ k
  below : Below w0.heap.size w0 W
section
variable {w0 W W' : World} {l more : List Fo} {vs : List Int} {k : Nat} {X : List Fo} {v : Value}
theorem Al.later (h : Al w0 l more vs k X v W) (hb : Below W.heap.size W W') : Al w0 l more vs k X v W' := ⟨own_keepT h.own hb, h.idle, h.sub, h.len, h.below.trans (hb.mono h.below.size)⟩
theorem Al.up (h : Al w0 l more vs k X v W) : Al w0 l more vs (k + 1) X v W := ⟨h.own, h.idle, h.sub, Nat.le_succ_of_le h.len, h.below⟩
theorem Al.add {W5 W6 : World} {A : Option Addr} {c : Nat} {f : Fo} (h : Al w0 l more vs k X v W) (hf : Idle l vs f) (hm : f ∈ more) (hb : Below W.heap.size W W5) (hg : W5.grownBy W6 v.ownBlock)
    (hown : W6.ownsRow w0.heap.size 34 9 (.slice A (l.length + X.length + 1) c) (l.length + X.length + 1) (rowO (l ++ X) ++ f.cells)) :
    Al w0 l more vs (k + 1) (X ++ [f]) (.slice A (l.length + X.length + 1) c) W6 := by
  have h5 := h.later hb
  refine ⟨?_, fun e he => ?_, fun e he => ?_, ?_, h5.below.grown hg h5.below.size (fun j e => (own_lowS h5.own j e).1)⟩
  · have e1 : l.length + (X ++ [f]).length = l.length + X.length + 1 := by simp; omega
    rw [e1, ← List.append_assoc, rowO_app]
    exact hown
  · rcases List.mem_append.1 he with he | he
    · exact h.idle e he
    · rw [List.mem_singleton] at he; exact he ▸ hf
  · rcases List.mem_append.1 he with he | he
    · exact h.sub e he
    · rw [List.mem_singleton] at he; exact he ▸ hm
  · rw [List.length_append]; exact Nat.succ_le_succ h.len
end
theorem idle_of {l O : List Fo} {vs : List Int} {f : Fo} (hO : ∀ e ∈ O, e ∈ l ∧ e.lp = f.lp ∧ noneO l vs e.bt = false) (h0 : 0 < O.length) (h1 : f.bt ≤ hiO l) (h2 : f.bt < O[0].bt) : Idle l vs f := by
  obtain ⟨m1, m2, m3⟩ := hO O[0] (List.getElem_mem h0)
  refine ⟨h1, .inr ⟨O[0], m1, m2, fun hv => ?_, h2⟩⟩
  unfold noneO at m3
  simp [hv] at m3
end Go.Proofs.Ytjdaoenapmjoeaa
