/-
  LAYER 20, THE REFERENCE: Choose.
-/
import Derived.Test.YtofokljhlcdebaaPkN
import Derived.Test.YtofokljhlcdebaaPkF
import Derived.BigFrame
import Derived.Test.YtofokljhlcdebaaPkP
import Derived.Test.YtofokljhlcdebaaPkK
namespace Go.Proofs.Ytofokljhlcdebaa
open Go.RowKit Go.Sort
set_option maxRecDepth 8000

/-- What is put together as a block is freed, behind i of the places. -/
structure Co (w0 : World) (l : List Cq) (bad : List Int) (L : List Pl2) (b : Int) (i : Nat) (v : Value) (W : World) : Prop where
  own : W.ownsRow w0.heap.size 30 2 v i (rowQ ((freeP (plsC l) bad L b).take i))
  below : Below w0.heap.size w0 W
theorem Co.later {w0 W W' : World} {l : List Cq} {bad : List Int} {L : List Pl2} {b : Int} {i : Nat} {v : Value} (h : Co w0 l bad L b i v W) (hb : Below W.heap.size W W') : Co w0 l bad L b i v W' := ⟨own_keepT h.own hb, h.below.trans (hb.mono h.below.size)⟩
/-- What stands as a block is freed. -/
structure Cx (w0 : World) (l : List Cq) (bad : List Int) (L : List Pl2) (b : Int) (n : Nat) (Ax : Option Addr) (cx : Nat) (Ab : Option Addr) (Bl : List Int) (B i : Nat) (v : Value) (W : World) : Prop where
  row : W.ownsRow w0.heap.size 30 2 (.slice Ax n cx) n (rowQ L)
  bls : Lies W B Ab (nums .i64 Bl)
  big : B ≤ W.heap.size
  lowL : ∀ g, (Value.slice Ax n cx).ownBlock = some g → g < B
  own : W.ownsRow B 30 2 v i (rowQ ((freeP (plsC l) bad L b).take i))
  below : Below w0.heap.size w0 W
theorem Cx.later {w0 W W' : World} {l : List Cq} {bad : List Int} {L : List Pl2} {b : Int} {n : Nat} {Ax : Option Addr} {cx : Nat} {Ab : Option Addr} {Bl : List Int} {B i : Nat} {v : Value} (h : Cx w0 l bad L b n Ax cx Ab Bl B i v W) (hb : Below W.heap.size W W') : Cx w0 l bad L b n Ax cx Ab Bl B i v W' :=
  ⟨own_keepT h.row hb, h.bls.below (hb.mono h.big), Nat.le_trans h.big hb.size, h.lowL, own_keepT h.own hb, h.below.trans (hb.mono h.below.size)⟩
theorem Cx.more {w0 W W5 W6 : World} {l : List Cq} {bad : List Int} {L : List Pl2} {b : Int} {n : Nat} {Ax : Option Addr} {cx : Nat} {Ab : Option Addr} {Bl : List Int} {B i : Nat} {v : Value} {A5 : Option Addr} {c5 : Nat} {p : Pl2} (h : Cx w0 l bad L b n Ax cx Ab Bl B i v W) (hB : w0.heap.size ≤ B) (hp : (freeP (plsC l) bad L b)[i]? = some p) (hb : Below W.heap.size W W5) (hg : W5.grownBy W6 v.ownBlock)
    (hown : W6.ownsRow B 30 2 (.slice A5 (i + 1) c5) (i + 1) (rowQ ((freeP (plsC l) bad L b).take i) ++ plc p)) : Cx w0 l bad L b n Ax cx Ab Bl B (i + 1) (.slice A5 (i + 1) c5) W6 := by
  have h5 := h.later hb
  have hlow := own_lowS h5.own
  have bb : Below B W5 W6 := (Below.refl _ _).grown hg h5.big (fun j e => (hlow j e).1)
  obtain ⟨hl, he⟩ := List.getElem?_eq_some_iff.1 hp
  refine ⟨?_, h5.bls.below bb, Nat.le_trans h5.big bb.size, h5.lowL, ?_, h5.below.trans (bb.mono hB)⟩
  · refine h5.row.kept hg ?_
    cases hv : (Value.slice Ax n cx).ownBlock with
    | none => exact .inl rfl
    | some j => exact .inr (fun e => by
        have h8 := (hlow j e.symm).1
        have h9 := h5.lowL j hv
        omega)
  · have ht : (freeP (plsC l) bad L b).take (i + 1) = (freeP (plsC l) bad L b).take i ++ [p] := by rw [← List.take_append_getElem hl, he]
    rw [ht, rowQ_app]
    exact hown
theorem few_max {k : Nat} (h : k + 1 ≤ 1000) : k + 1 ≤ maxLen := by unfold maxLen; omega
theorem few_bytes {k : Nat} (h : k + 1 ≤ 1000) : (k + 1) * 16 ≤ 140737488355328 := by omega
theorem wrap_s20 {k : Nat} (h : k ≤ 100) : wrap64 ((k : Int) + 1) = ((k + 1 : Nat) : Int) := by unfold wrap64; omega
end Go.Proofs.Ytofokljhlcdebaa
