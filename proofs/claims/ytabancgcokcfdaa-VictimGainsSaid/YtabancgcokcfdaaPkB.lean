/-
  LAYER 20, CONTRACTS: users, Used, Count.
-/
import Derived.Test.YtabancgcokcfdaaPkU
import Derived.Test.YtabancgcokcfdaaValI
import Derived.Test.YtabancgcokcfdaaTbM
import Derived.Test.YtabancgcokcfdaaElem
import Derived.Test.YtabancgcokcfdaaRowK
import Derived.RangeFuncNested
import Derived.RangeFuncBound
import Derived.RangeFuncCalls
import Derived.RangeFuncLeaves
import Derived.RangeFuncBox
import Derived.Shelf.Abstract
import Derived.Shelf.RegionOpen
import Derived.OwnWalkIn
import Derived.TacticsInMore
import Derived.LoopNIn
import Derived.LoopIn
import Derived.Test.YtabancgcokcfdaaPkS
namespace Go.Proofs.Ytabancgcokcfdaa
open Go.RowKit
open Go.Maps (Keyed IsMap)
set_option maxRecDepth 8000

abbrev Ok64 (x : Int) : Prop := -9223372036854775808 ≤ x ∧ x ≤ 9223372036854775807
def plc (q : Pl2) : List Value := [.int .i64 q.1, .int .i64 q.2]
theorem plc_len (q : Pl2) : (plc q).length = 2 := rfl
def rowQ (L : List Pl2) : List Value := L.flatMap plc
theorem infoPl2 : (Try.prog.info? 35).map (·.size) = some 2 := by kernel_rfl
/-- A place in its box. -/
def BoxQ2 (q : Pl2) (k : Nat) (w : World) : Prop := w.heap[k]? = some (.cells #[.int .i64 q.1, .int .i64 q.2] 35 (0, 0))
theorem BoxQ2.lt {q : Pl2} {k : Nat} {w : World} (h : BoxQ2 q k w) : k < w.heap.size := (Array.getElem?_eq_some_iff.1 h).1
theorem BoxQ2.new (q : Pl2) (w : World) : BoxQ2 q w.heap.size (w.alloc (.cells #[.int .i64 q.1, .int .i64 q.2] 35)) := heap_alloc_new w _
theorem BoxQ2.below {q : Pl2} {k B : Nat} {w w' : World} (h : BoxQ2 q k w) (hb : Below B w w') (hk : k < B) : BoxQ2 q k w' := (hb.block k hk).trans h
theorem BoxQ2.c0 {q : Pl2} {k : Nat} {w : World} (h : BoxQ2 q k w) : w.cell? ⟨k, 0, none⟩ = some (.int .i64 q.1) := by simp [World.cell?, show w.heap[k]? = _ from h]
theorem BoxQ2.c1 {q : Pl2} {k : Nat} {w : World} (h : BoxQ2 q k w) : w.cell? ⟨k, 1, none⟩ = some (.int .i64 q.2) := by simp [World.cell?, show w.heap[k]? = _ from h]

/-- The numbers of the places in a block. -/
def idxF (L : List Pl2) (b : Int) : List Int := ((List.range L.length).filter fun i => decide ((L.getD i (0, 0)).1 = b)).map (fun i : Nat => (i : Int))
/-- Of each block just the numbers of its places, each once. -/
def UsesB (F : Int → List Int) (L : List Pl2) : Prop := ∀ b, (F b).Nodup ∧ ∀ i, i ∈ F b ↔ ∃ (k : Nat) (h : k < L.length), i = (k : Int) ∧ L[k].1 = b
theorem UsesB.used {F : Int → List Int} {L : List Pl2} (h : UsesB F L) (b : Int) : F b ≠ [] ↔ b ∈ L.map Prod.fst := by
  rw [mem_map_at]
  constructor
  · intro hne
    cases hF : F b with
    | nil => exact absurd hF hne
    | cons i r =>
      obtain ⟨k, hk, _, e⟩ := ((h b).2 i).1 (by rw [hF]; exact List.mem_cons_self ..)
      exact ⟨k, hk, e⟩
  · rintro ⟨k, hk, e⟩ hF
    have := ((h b).2 (k : Int)).2 ⟨k, hk, rfl, e⟩
    rw [hF] at this
    cases this
/-- What users keeps behind k of the places. -/
structure Uw (w0 : World) (L : List Pl2) (bm k : Nat) (D : DataW Value) (V : Int → Value) (W : World) : Prop where
  us : Us W bm k D V (idxF (L.take k))
  below : Below w0.heap.size w0 W
  lo : w0.heap.size ≤ bm
section
variable {w0 W W5 W6 W7 : World} {L : List Pl2} {bm k : Nat} {D : DataW Value} {V : Int → Value} {A : Option Addr} {c : Nat}
theorem Uw.later (h : Uw w0 L bm k D V W) (hb : Below W.heap.size W W5) : Uw w0 L bm k D V W5 := ⟨h.us.later hb, h.below.trans (hb.mono h.below.size), h.lo⟩
end
end Go.Proofs.Ytabancgcokcfdaa
