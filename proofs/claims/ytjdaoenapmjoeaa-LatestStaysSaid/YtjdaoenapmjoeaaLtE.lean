/-
  LAYER 19: a map from numbers to rows of finds.
-/
import Derived.Test.YtjdaoenapmjoeaaLtC
import Derived.Test.YtjdaoenapmjoeaaLtD
import Derived.Maps.RangeWalk
namespace Go.Proofs.Ytjdaoenapmjoeaa
open Go.RowKit
open Go.Maps (Keyed IsMap)
set_option maxRecDepth 8000

/-- An element of the map, as it is. -/
def rawV (v : Value) : Option (DataW Value × List MemPlace) := some (.held v, [])
theorem keyF : Keyed Try.prog 3 := keyI
theorem zeroFs (w : World) : (zeroValue 22).run Try.prog w = .ok (.slice none 0 0) w := by kernel_rfl
/-- At each key of the map b the row of the finds that F says; V: the slices. -/
structure Vs (W : World) (b n : Nat) (D : DataW Value) (V : Int → Value) (F : Int → List Fo) : Prop where
  map_ : W.ownsMap Try.prog 3 rawV b n D
  is : IsMap D
  at_ : ∀ lp : Int, D.atKey (.int .i64 lp) (.held (.slice none 0 0)) = .held (V lp)
  has : ∀ lp : Int, Maps.has D (.int .i64 lp) = decide (F lp ≠ [])
  own : ∀ lp : Int, W.ownsRow (b + 1) 34 9 (V lp) (F lp).length (rowO (F lp))
  apart : ∀ x y g, x ≠ y → (V x).ownBlock = some g → (V y).ownBlock ≠ some g
section
variable {W W' : World} {b n : Nat} {D : DataW Value} {V : Int → Value} {F : Int → List Fo}
theorem Vs.made (w : World) : Vs (w.alloc (.map #[] 0)) w.heap.size 0 (.map []) (fun _ => .slice none 0 0) (fun _ => []) where
  map_ := World.ownsMap_made _ _ _ _
  is := Go.Maps.isMap_empty
  at_ := fun _ => rfl
  has := fun _ => rfl
  own := fun _ => World.ownsRow_nil _ _ _ _
  apart := fun _ _ _ _ h => by cases h
theorem ownsMap_later {P : Program} {k : TypeId} {R : Value → Option (DataW Value × List MemPlace)} (h : W.ownsMap P k R b n D) (hb : Below W.heap.size W W') : W'.ownsMap P k R b n D := by
  have hlt := h.lt
  obtain ⟨es, clock, h4, h5⟩ := h
  exact ⟨es, clock, (hb.block b hlt).trans h4, h5⟩
theorem Vs.later (h : Vs W b n D V F) (hb : Below W.heap.size W W') : Vs W' b n D V F :=
  ⟨ownsMap_later h.map_ hb, h.is, h.at_, h.has, fun lp => own_keepT (h.own lp) hb, h.apart⟩
theorem Vs.look (h : Vs W b n D V F) {lp : Int} (hl : -9223372036854775808 ≤ lp ∧ lp ≤ 9223372036854775807) :
    (Instr.lookup 51 (.map (some b)) (.int .i64 lp) false).run Try.prog W = .ok (V lp) W := by
  obtain ⟨v, ps, hrun, hat⟩ := h.map_.lookup keyF Try.underlying51 (zeroFs W) (zd := .held (.slice none 0 0)) (zp := []) rfl (key_int hl)
  rw [h.at_ lp] at hat
  injection hat with hat
  injection hat with hat _
  injection hat with hat
  rw [← hat]
  exact hrun
/-- A find more at its key. -/
theorem Vs.more {W5 W6 W7 : World} {A : Option Addr} {c : Nat} {f : Fo} (h : Vs W b n D V F) (hb : Below W.heap.size W W5)
    (hown : W6.ownsRow (b + 1) 34 9 (.slice A ((F f.lp).length + 1) c) ((F f.lp).length + 1) (rowO (F f.lp) ++ f.cells)) (hg : W5.grownBy W6 (V f.lp).ownBlock)
    (hat : (Value.slice A ((F f.lp).length + 1) c).ownBlock = (V f.lp).ownBlock ∨ (Value.slice A ((F f.lp).length + 1) c).ownBlock = some W5.heap.size)
    (hm : W7.ownsMap Try.prog 3 rawV b (n + 1) (D.put (.int .i64 f.lp) (.held (.slice A ((F f.lp).length + 1) c)))) (hg7 : W6.grownBy W7 (some b)) :
    Vs W7 b (n + 1) (D.put (.int .i64 f.lp) (.held (.slice A ((F f.lp).length + 1) c))) (fun x => if x = f.lp then .slice A ((F f.lp).length + 1) c else V x) (fun x => if x = f.lp then F f.lp ++ [f] else F x) := by
  have h5 := h.later hb
  have hlow := fun x => own_lowS (h5.own x)
  refine ⟨hm, h.is.put _ _, fun x => ?_, fun x => ?_, fun x => ?_, fun x y g hxy hx hy => ?_⟩
  · by_cases hx : x = f.lp
    · rw [if_pos hx, hx]
      exact Go.Maps.atKey_put_same h.is (by simp [Go.WideAt.IsKeyLit]) _ _
    · rw [if_neg hx, Go.Maps.atKey_put_other (by intro e; injection e with _ e; exact hx e)]
      exact h.at_ x
  · by_cases hx : x = f.lp
    · rw [if_pos hx, hx, Go.Maps.has_put_same h.is (by simp [Go.WideAt.IsKeyLit])]
      simp
    · rw [if_neg hx, Go.Maps.has_put_other (by intro e; injection e with _ e; exact hx e)]
      exact h.has x
  · by_cases hx : x = f.lp
    · simp only [if_pos hx]
      rw [rowO_app]
      have : ((F f.lp) ++ [f]).length = (F f.lp).length + 1 := by simp
      rw [this]
      exact hown.kept hg7 (by
        cases hv : (Value.slice A ((F f.lp).length + 1) c).ownBlock with
        | none => exact .inl rfl
        | some j => exact .inr (fun e => by injection e with e; have := (own_lowS hown j hv).1; omega))
    · simp only [if_neg hx]
      refine ((h5.own x).kept hg ?_).kept hg7 ?_
      · cases hv : (V x).ownBlock with
        | none => exact .inl rfl
        | some j => exact .inr (fun e => h.apart x f.lp j hx hv e.symm)
      · cases hv : (V x).ownBlock with
        | none => exact .inl rfl
        | some j => exact .inr (fun e => by injection e with e; have := (hlow x j hv).1; omega)
  · have key : ∀ z g, z ≠ f.lp → (V z).ownBlock = some g → (Value.slice A ((F f.lp).length + 1) c).ownBlock ≠ some g := by
      intro z g hz h1 h2
      rcases hat with e | e
      · exact h.apart z f.lp g hz h1 (e ▸ h2)
      · rw [e] at h2
        injection h2 with h2
        have := (hlow z g h1).2
        omega
    by_cases h1 : x = f.lp
    · have h2 : ¬ y = f.lp := fun e => hxy (h1.trans e.symm)
      simp only [if_pos h1, if_neg h2] at hx hy
      exact key y g h2 hy hx
    · by_cases h2 : y = f.lp
      · simp only [if_neg h1, if_pos h2] at hx hy
        exact key x g h1 hx hy
      · simp only [if_neg h1, if_neg h2] at hx hy
        exact h.apart x y g hxy hx hy
end
end Go.Proofs.Ytjdaoenapmjoeaa
