/-
  LAYER 20: a map from blocks to the numbers of the places that are in them; users.
-/
import Derived.Test.YtabancgcokcfdaaPkM
import Derived.Test.YtabancgcokcfdaaTbM
import Derived.Test.YtabancgcokcfdaaRowK
import Derived.Test.YtabancgcokcfdaaElem
import Derived.RegionTactic
import Derived.Deep.QuietTactic
import Derived.BigQuiet
import Derived.Deep.CutBlock
import Derived.Maps.RangeWalk
import Derived.Maps.OwnSet
import Derived.Lib.SlKeysI
namespace Go.Proofs.Ytabancgcokcfdaa
open Go.RowKit
open Go.Maps (Keyed IsMap)
set_option maxRecDepth 8000

theorem keyP : Keyed Try.prog 3 := Go.Maps.int_keyed Try.underlying3
theorem key_pl {lp : Int} (h : -9223372036854775808 ≤ lp ∧ lp ≤ 9223372036854775807) : Go.keyOf Try.prog 3 (.int .i64 lp) = some (.int .i64 lp) :=
  Go.Maps.keyOf_int_mk Try.underlying3 (by simp [Lit.wf, IntKind.min, IntKind.max, IntKind.bits, IntKind.signed]; omega)
/-- An element of the map, as it is. -/
def rawP (v : Value) : Option (DataW Value × List MemPlace) := some (.held v, [])
/-- At each key of the map b the row of the numbers that F says; V: the slices. -/
structure Us (W : World) (b n : Nat) (D : DataW Value) (V : Int → Value) (F : Int → List Int) : Prop where
  map_ : W.ownsMap Try.prog 3 rawP b n D
  is : IsMap D
  at_ : ∀ lp : Int, D.atKey (.int .i64 lp) (.held (.slice none 0 0)) = .held (V lp)
  has : ∀ lp : Int, Maps.has D (.int .i64 lp) = decide (F lp ≠ [])
  own : ∀ lp : Int, W.ownsRow (b + 1) 3 1 (V lp) (F lp).length (nums .i64 (F lp))
  apart : ∀ x y g, x ≠ y → (V x).ownBlock = some g → (V y).ownBlock ≠ some g
theorem ownsMap_laterP {W W' : World} {b n : Nat} {D : DataW Value} {P : Program} {k : TypeId} {R : Value → Option (DataW Value × List MemPlace)} (h : W.ownsMap P k R b n D) (hb : Below W.heap.size W W') : W'.ownsMap P k R b n D := by
  have hlt := h.lt
  obtain ⟨es, clock, h4, h5⟩ := h
  exact ⟨es, clock, (hb.block b hlt).trans h4, h5⟩
section
variable {W W' : World} {b n : Nat} {D : DataW Value} {V : Int → Value} {F : Int → List Int}
theorem Us.hi (h : Us W b n D V F) : b < W.heap.size := h.map_.lt
theorem Us.later (h : Us W b n D V F) (hb : Below W.heap.size W W') : Us W' b n D V F :=
  ⟨ownsMap_laterP h.map_ hb, h.is, h.at_, h.has, fun lp => own_keepT (h.own lp) hb, h.apart⟩
theorem Us.up (h : Us W b n D V F) : Us W b (n + 1) D V F := { h with map_ := h.map_.mono (Nat.le_succ _) }
/-- The map is kept where another block is written. -/
theorem Us.kept {g : Nat} (h : Us W b n D V F) (hg : W.grownBy W' (some g)) (hb : g ≠ b) (hV : ∀ x, (V x).ownBlock ≠ some g) : Us W' b n D V F :=
  ⟨h.map_.kept hg (fun e => hb (by injection e with e; exact e.symm)), h.is, h.at_, h.has, fun lp => (h.own lp).kept hg (by
    cases hv : (V lp).ownBlock with
    | none => exact .inl rfl
    | some j => exact .inr (fun e => hV lp (by rw [hv, e]))), h.apart⟩
/-- Its keys. -/
theorem Us.keys (h : Us W b n D V F) : (Go.intKeys D).Nodup ∧ ∀ x, x ∈ Go.intKeys D ↔ F x ≠ [] := by
  obtain ⟨es, hD, hpw, _⟩ := h.map_.entries keyP
  obtain ⟨es', hD', hko⟩ := h.map_.keysOf
  obtain rfl : es = es' := by rw [hD] at hD'; simpa using hD'
  have hk : ∀ p ∈ es, ∃ x, p.1 = .int .i64 x := fun p hp => by obtain ⟨v, hv⟩ := hko p hp; obtain ⟨x, _, hx, _⟩ := Go.Maps.keyOf_i64 Try.underlying3 hv; exact ⟨x, hx⟩
  constructor
  · rw [hD]
    show (es.map fun p => Go.intOf p.1).Nodup
    refine List.pairwise_map.2 (hpw.imp_of_mem fun {p q} hp' hq' hne e => hne ?_)
    obtain ⟨a, ha⟩ := hk p hp'
    obtain ⟨c, hc⟩ := hk q hq'
    rw [ha, hc] at e ⊢
    exact congrArg _ e
  · intro x
    have hx := h.has x
    rw [hD] at hx ⊢
    rw [Go.Maps.has_eq] at hx
    have h2 : F x ≠ [] ↔ (es.any fun p => p.1.sameKey (.int .i64 x)) = true := by rw [hx]; simp
    rw [h2, List.any_eq_true]
    show x ∈ es.map (fun p => Go.intOf p.1) ↔ _
    rw [List.mem_map]
    constructor
    · rintro ⟨p, hp, rfl⟩
      obtain ⟨a, ha⟩ := hk p hp
      exact ⟨p, hp, by rw [ha]; simp [Lit.sameKey, Go.intOf]⟩
    · rintro ⟨p, hp, hs⟩
      obtain ⟨a, ha⟩ := hk p hp
      rw [ha] at hs
      exact ⟨p, hp, by rw [ha]; simpa [Lit.sameKey, Go.intOf] using hs⟩
end
end Go.Proofs.Ytabancgcokcfdaa
