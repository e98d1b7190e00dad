/-
  LAYER 20: a map from blocks to the numbers of the places that are in them; users.
-/
import Derived.Test.YtofokljhlcdebaaPkM
import Derived.Test.YtofokljhlcdebaaTbM
import Derived.Test.YtofokljhlcdebaaRowK
import Derived.Test.YtofokljhlcdebaaElem
import Derived.RegionTactic
import Derived.Deep.QuietTactic
import Derived.BigQuiet
import Derived.Deep.CutBlock
import Derived.Maps.RangeWalk
import Derived.Maps.OwnSet
import Derived.Lib.SlKeysI
namespace Go.Proofs.Ytofokljhlcdebaa
open Go.RowKit
open Go.Maps (Keyed IsMap)
set_option maxRecDepth 8000

theorem keyP : Keyed Try.prog 3 := Go.Maps.int_keyed Try.underlying3
theorem key_pl {lp : Int} (h : -9223372036854775808 ≤ lp ∧ lp ≤ 9223372036854775807) : Go.keyOf Try.prog 3 (.int .i64 lp) = some (.int .i64 lp) :=
  Go.Maps.keyOf_int_mk Try.underlying3 (by simp [Lit.wf, IntKind.min, IntKind.max, IntKind.bits, IntKind.signed]; omega)
/-- An element of the map, as it is. -/
def rawP (v : Value) : Option (DataW Value × List MemPlace) := some (.held v, [])
theorem zeroIs (w : World) : (zeroValue 44).run Try.prog w = .ok (.slice none 0 0) w := by kernel_rfl
theorem madeIs (w : World) : (Instr.makeMap 73 none).run Try.prog w = .ok (.map (some w.heap.size)) (w.alloc (.map #[] 0)) := by kernel_rfl
theorem ielems : Elems Try.prog 44 3 1 8 := by
  obtain ⟨i0, hi, hz0, hz1, hz2⟩ := info_parts (show (Try.prog.info? 3).map (fun i => (i.zero, i.size, i.bytes)) = some (some (.int .i64 0), 1, 8) by kernel_rfl)
  exact ⟨Try.underlying44, ⟨i0, _, hi, hz0, hz1, hz2, rfl⟩, by decide⟩
/-- At each key of the map b the row of the numbers that F says; V: the slices. -/
structure Us (W : World) (b n : Nat) (D : DataW Value) (V : Int → Value) (F : Int → List Int) : Prop where
  map_ : W.ownsMap Try.prog 3 rawP b n D
  is : IsMap D
  at_ : ∀ lp : Int, D.atKey (.int .i64 lp) (.held (.slice none 0 0)) = .held (V lp)
  has : ∀ lp : Int, Maps.has D (.int .i64 lp) = decide (F lp ≠ [])
  own : ∀ lp : Int, W.ownsRow (b + 1) 3 1 (V lp) (F lp).length (nums .i64 (F lp))
  apart : ∀ x y g, x ≠ y → (V x).ownBlock = some g → (V y).ownBlock ≠ some g
theorem ownsMap_laterP {W W' : World} {b n : Nat} {D : DataW Value} {P : Program} {k : TypeId} {R : Value → Option (DataW Value × List MemPlace)} (h : W.ownsMap P k R b n D) (hb : Below W.heap.size W W') : W'.ownsMap P k R b n D := by
  have hlt := h.lt
  obtain ⟨es, clock, h4, h5⟩ := h
  exact ⟨es, clock, (hb.block b hlt).trans h4, h5⟩
section
variable {W W' : World} {b n : Nat} {D : DataW Value} {V : Int → Value} {F : Int → List Int}
theorem Us.made (w : World) : Us (w.alloc (.map #[] 0)) w.heap.size 0 (.map []) (fun _ => .slice none 0 0) (fun _ => []) where
  map_ := World.ownsMap_made _ _ _ _
  is := Go.Maps.isMap_empty
  at_ := fun _ => rfl
  has := fun _ => rfl
  own := fun _ => World.ownsRow_nil _ _ _ _
  apart := fun _ _ _ _ h => by cases h
theorem Us.hi (h : Us W b n D V F) : b < W.heap.size := h.map_.lt
theorem Us.later (h : Us W b n D V F) (hb : Below W.heap.size W W') : Us W' b n D V F :=
  ⟨ownsMap_laterP h.map_ hb, h.is, h.at_, h.has, fun lp => own_keepT (h.own lp) hb, h.apart⟩
theorem Us.up (h : Us W b n D V F) : Us W b (n + 1) D V F := { h with map_ := h.map_.mono (Nat.le_succ _) }
theorem Us.look (h : Us W b n D V F) {lp : Int} (hl : -9223372036854775808 ≤ lp ∧ lp ≤ 9223372036854775807) :
    (Instr.lookup 73 (.map (some b)) (.int .i64 lp) false).run Try.prog W = .ok (V lp) W := by
  obtain ⟨v, ps, hrun, hat⟩ := h.map_.lookup keyP Try.underlying73 (zeroIs W) (zd := .held (.slice none 0 0)) (zp := []) rfl (key_pl hl)
  rw [h.at_ lp] at hat
  injection hat with hat
  injection hat with hat _
  injection hat with hat
  rw [← hat]
  exact hrun
/-- The slice at a key, as a slice. -/
theorem Us.form (h : Us W b n D V F) (lp : Int) : ∃ A c, V lp = .slice A (F lp).length c := by
  obtain ⟨A, c, hv, _⟩ := own_form (h.own lp)
  exact ⟨A, c, hv⟩
/-- The map is kept where another block is written. -/
theorem Us.kept {g : Nat} (h : Us W b n D V F) (hg : W.grownBy W' (some g)) (hb : g ≠ b) (hV : ∀ x, (V x).ownBlock ≠ some g) : Us W' b n D V F :=
  ⟨h.map_.kept hg (fun e => hb (by injection e with e; exact e.symm)), h.is, h.at_, h.has, fun lp => (h.own lp).kept hg (by
    cases hv : (V lp).ownBlock with
    | none => exact .inl rfl
    | some j => exact .inr (fun e => hV lp (by rw [hv, e]))), h.apart⟩
/-- A number more at a key. -/
theorem Us.more {W5 W6 W7 : World} {A : Option Addr} {c : Nat} {k z : Int} (h : Us W b n D V F) (hb : Below W.heap.size W W5)
    (hown : W6.ownsRow (b + 1) 3 1 (.slice A ((F k).length + 1) c) ((F k).length + 1) (nums .i64 (F k) ++ [.int .i64 z])) (hg : W5.grownBy W6 (V k).ownBlock)
    (hat : (Value.slice A ((F k).length + 1) c).ownBlock = (V k).ownBlock ∨ (Value.slice A ((F k).length + 1) c).ownBlock = some W5.heap.size)
    (hm : W7.ownsMap Try.prog 3 rawP b (n + 1) (D.put (.int .i64 k) (.held (.slice A ((F k).length + 1) c)))) (hg7 : W6.grownBy W7 (some b)) :
    Us W7 b (n + 1) (D.put (.int .i64 k) (.held (.slice A ((F k).length + 1) c))) (fun x => if x = k then .slice A ((F k).length + 1) c else V x) (fun x => if x = k then F k ++ [z] else F x) := by
  have h5 := h.later hb
  have hlow := fun x => own_lowS (h5.own x)
  refine ⟨hm, h.is.put _ _, fun x => ?_, fun x => ?_, fun x => ?_, fun x y g hxy hx hy => ?_⟩
  · by_cases hx : x = k
    · rw [if_pos hx, hx]
      exact Go.Maps.atKey_put_same h.is (by simp [Go.WideAt.IsKeyLit]) _ _
    · rw [if_neg hx, Go.Maps.atKey_put_other (by intro e; injection e with _ e; exact hx e)]
      exact h.at_ x
  · by_cases hx : x = k
    · rw [if_pos hx, hx, Go.Maps.has_put_same h.is (by simp [Go.WideAt.IsKeyLit])]
      simp
    · rw [if_neg hx, Go.Maps.has_put_other (by intro e; injection e with _ e; exact hx e)]
      exact h.has x
  · by_cases hx : x = k
    · simp only [if_pos hx]
      have e1 : (F k ++ [z]).length = (F k).length + 1 := by simp
      rw [e1, nums_app]
      exact hown.kept hg7 (by
        cases hv : (Value.slice A ((F k).length + 1) c).ownBlock with
        | none => exact .inl rfl
        | some j => exact .inr (fun e => by injection e with e; have := (own_lowS hown j hv).1; omega))
    · simp only [if_neg hx]
      refine ((h5.own x).kept hg ?_).kept hg7 ?_
      · cases hv : (V x).ownBlock with
        | none => exact .inl rfl
        | some j => exact .inr (fun e => h.apart x k j hx hv e.symm)
      · cases hv : (V x).ownBlock with
        | none => exact .inl rfl
        | some j => exact .inr (fun e => by injection e with e; have := (hlow x j hv).1; omega)
  · have key : ∀ z' g, z' ≠ k → (V z').ownBlock = some g → (Value.slice A ((F k).length + 1) c).ownBlock ≠ some g := by
      intro z' g hz h1 h2
      rcases hat with e | e
      · exact h.apart z' k g hz h1 (e ▸ h2)
      · rw [e] at h2
        injection h2 with h2
        have := (hlow z' g h1).2
        omega
    by_cases h1 : x = k
    · have h2 : ¬ y = k := fun e => hxy (h1.trans e.symm)
      simp only [if_pos h1, if_neg h2] at hx hy
      exact key y g h2 hy hx
    · by_cases h2 : y = k
      · simp only [if_neg h1, if_pos h2] at hx hy
        exact key x g h1 hx hy
      · simp only [if_neg h1, if_neg h2] at hx hy
        exact h.apart x y g hxy hx hy
/-- A key is taken out. -/
theorem Us.less {k : Int} (h : Us W b n D V F) (hm : W'.ownsMap Try.prog 3 rawP b n (D.del (.int .i64 k))) (hg : W.grownBy W' (some b)) :
    Us W' b n (D.del (.int .i64 k)) (fun x => if x = k then .slice none 0 0 else V x) (fun x => if x = k then [] else F x) := by
  refine ⟨hm, h.is.del _, fun x => ?_, fun x => ?_, fun x => ?_, fun x y g hxy hx hy => ?_⟩
  · by_cases hx : x = k
    · rw [if_pos hx, hx]
      exact Go.Maps.atKey_del_same _
    · rw [if_neg hx, Go.Maps.atKey_del_other (by intro e; injection e with _ e; exact hx e)]
      exact h.at_ x
  · by_cases hx : x = k
    · rw [if_pos hx, hx, Go.Maps.has_del_same]
      simp
    · rw [if_neg hx, Go.Maps.has_del_other (by intro e; injection e with _ e; exact hx e)]
      exact h.has x
  · by_cases hx : x = k
    · simp only [if_pos hx]
      exact World.ownsRow_nil _ _ _ _
    · simp only [if_neg hx]
      refine (h.own x).kept hg ?_
      cases hv : (V x).ownBlock with
      | none => exact .inl rfl
      | some j => exact .inr (fun e => by injection e with e; have := (own_lowS (h.own x) j hv).1; omega)
  · by_cases h1 : x = k
    · simp only [if_pos h1] at hx; cases hx
    · by_cases h2 : y = k
      · simp only [if_pos h2] at hy; cases hy
      · simp only [if_neg h1, if_neg h2] at hx hy
        exact h.apart x y g hxy hx hy
/-- Its keys. -/
theorem Us.keys (h : Us W b n D V F) : (Go.intKeys D).Nodup ∧ ∀ x, x ∈ Go.intKeys D ↔ F x ≠ [] := by
  obtain ⟨es, hD, hpw, _⟩ := h.map_.entries keyP
  obtain ⟨es', hD', hko⟩ := h.map_.keysOf
  obtain rfl : es = es' := by rw [hD] at hD'; simpa using hD'
  have hk : ∀ p ∈ es, ∃ x, p.1 = .int .i64 x := fun p hp => by obtain ⟨v, hv⟩ := hko p hp; obtain ⟨x, _, hx, _⟩ := Go.Maps.keyOf_i64 Try.underlying3 hv; exact ⟨x, hx⟩
  constructor
  · rw [hD]
    show (es.map fun p => Go.intOf p.1).Nodup
    refine List.pairwise_map.2 (hpw.imp_of_mem fun {p q} hp' hq' hne e => hne ?_)
    obtain ⟨a, ha⟩ := hk p hp'
    obtain ⟨c, hc⟩ := hk q hq'
    rw [ha, hc] at e ⊢
    exact congrArg _ e
  · intro x
    have hx := h.has x
    rw [hD] at hx ⊢
    rw [Go.Maps.has_eq] at hx
    have h2 : F x ≠ [] ↔ (es.any fun p => p.1.sameKey (.int .i64 x)) = true := by rw [hx]; simp
    rw [h2, List.any_eq_true]
    show x ∈ es.map (fun p => Go.intOf p.1) ↔ _
    rw [List.mem_map]
    constructor
    · rintro ⟨p, hp, rfl⟩
      obtain ⟨a, ha⟩ := hk p hp
      exact ⟨p, hp, by rw [ha]; simp [Lit.sameKey, Go.intOf]⟩
    · rintro ⟨p, hp, hs⟩
      obtain ⟨a, ha⟩ := hk p hp
      rw [ha] at hs
      exact ⟨p, hp, by rw [ha]; simpa [Lit.sameKey, Go.intOf] using hs⟩
end
end Go.Proofs.Ytofokljhlcdebaa
