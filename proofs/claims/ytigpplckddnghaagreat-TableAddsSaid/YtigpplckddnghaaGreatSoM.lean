/-
  SORTING, plain mathematics: what pdqsort does to a list of fewer than fifty elements that are in order but for the last one. Nothing here speaks of one program.
-/
import Derived.Below
namespace Go.Proofs.YtigpplckddnghaaGreat
namespace So

section
variable {α : Type} (lt : α → α → Bool) (df : α)
def swp (d : List α) (i j : Nat) : List α := (d.set i (d.getD j df)).set j (d.getD i df)
def insI (a : Nat) : Nat → List α → List α
  | 0, d => d
  | j + 1, d => if decide (a < j + 1) && lt (d.getD (j + 1) df) (d.getD j df) then insI a j (swp df d (j + 1) j) else d
def insO (a : Nat) : Nat → Nat → List α → List α
  | 0, _, d => d
  | m + 1, i, d => insO a m (i + 1) (insI lt df a i d)
def insSort (d : List α) (a b : Nat) : List α := insO lt df a (b - (a + 1)) (a + 1) d
def up (d : List α) (a j : Nat) : Nat → Nat → Nat
  | 0, i => i
  | m + 1, i => if decide (i ≤ j) && lt (d.getD i df) (d.getD a df) then up d a j m (i + 1) else i
def dn (d : List α) (a i : Nat) : Nat → Nat
  | 0 => 0
  | j + 1 => if decide (i ≤ j + 1) && !lt (d.getD (j + 1) df) (d.getD a df) then dn d a i j else j + 1
def plp (a : Nat) : Nat → Nat → Nat → List α → Option (Nat × List α)
  | 0, _, _, _ => none
  | m + 1, i, j, d =>
    let i2 := up lt df d a j (j + 1 - i) i
    let j2 := dn lt df d a i2 j
    if j2 < i2 then some (j2, d) else plp a m (i2 + 1) (j2 - 1) (swp df d i2 j2)
def partM (d : List α) (a b p : Nat) : Option (Nat × Bool × List α) :=
  let d1 := swp df d a p
  let i := up lt df d1 a (b - 1) (b - 1 + 1 - (a + 1)) (a + 1)
  let j := dn lt df d1 a i (b - 1)
  if j < i then some (j, true, swp df d1 j a) else
    match plp lt df a 64 (i + 1) (j - 1) (swp df d1 i j) with
    | none => none
    | some r => some (r.1, false, swp df r.2 r.1 a)
def psc (d : List α) (b : Nat) : Nat → Nat → Nat
  | 0, i => i
  | m + 1, i => if decide (i < b) && !lt (d.getD i df) (d.getD (i - 1) df) then psc d b m (i + 1) else i
def pdqM : Nat → List α → Nat → Nat → Bool → Bool → Option (List α)
  | 0, _, _, _, _, _ => none
  | f + 1, d, a, b, wb, wp =>
    if b - a ≤ 12 then some (insSort lt df d a b)
    else if wb = false then none
    else if 50 ≤ b - a then none
    else if lt (d.getD (a + (b - a) / 4 * 2) df) (d.getD (a + (b - a) / 4) df) = true then none
    else if lt (d.getD (a + (b - a) / 4 * 3) df) (d.getD (a + (b - a) / 4 * 2) df) = true then none
    else if wp = true ∧ psc lt df d b (b - (a + 1)) (a + 1) = b then some d
    else if 0 < a ∧ lt (d.getD (a - 1) df) (d.getD (a + (b - a) / 4 * 2) df) = false then none
    else match partM lt df d a b (a + (b - a) / 4 * 2) with
      | none => none
      | some (mid, al, d2) =>
        if mid < a ∨ b ≤ mid then none
        else if mid - a < b - mid then
          match pdqM f d2 a mid true true with
          | none => none
          | some d3 => pdqM f d3 (mid + 1) b (decide ((b - a) / 8 ≤ mid - a)) al
        else
          match pdqM f d2 (mid + 1) b true true with
          | none => none
          | some d3 => pdqM f d3 a mid (decide ((b - a) / 8 ≤ b - mid)) al

/-! ### lengths -/
theorem swp_len (d : List α) (i j : Nat) : (swp df d i j).length = d.length := by simp [swp]
theorem insI_len (a : Nat) : ∀ (j : Nat) (d : List α), (insI lt df a j d).length = d.length
  | 0, d => rfl
  | j + 1, d => by
    rw [insI]
    split
    · rw [insI_len a j, swp_len]
    · rfl
theorem insO_len (a : Nat) : ∀ (m i : Nat) (d : List α), (insO lt df a m i d).length = d.length
  | 0, _, _ => rfl
  | m + 1, i, d => by rw [insO, insO_len a m, insI_len]
end

/-! ### the same on other names -/
section
variable {α β : Type} (lt : α → α → Bool) (df : α) (e : α → β) (lt' : β → β → Bool) (he : ∀ x y, lt' (e x) (e y) = lt x y)
theorem getD_map (d : List α) (i : Nat) : (d.map e).getD i (e df) = e (d.getD i df) := by
  rw [List.getD_eq_getElem?_getD, List.getD_eq_getElem?_getD, List.getElem?_map]
  cases d[i]? <;> rfl
theorem swp_map (d : List α) (i j : Nat) : swp (e df) (d.map e) i j = (swp df d i j).map e := by
  simp only [swp, getD_map, List.map_set]
include he
theorem insI_map (a : Nat) : ∀ (j : Nat) (d : List α), insI lt' (e df) a j (d.map e) = (insI lt df a j d).map e
  | 0, d => rfl
  | j + 1, d => by
    rw [insI, insI, getD_map, getD_map, he, swp_map, insI_map a j]
    split <;> rfl
theorem insO_map (a : Nat) : ∀ (m i : Nat) (d : List α), insO lt' (e df) a m i (d.map e) = (insO lt df a m i d).map e
  | 0, _, _ => rfl
  | m + 1, i, d => by rw [insO, insO, insI_map lt df e lt' he, insO_map a m]
theorem up_map (d : List α) (a j : Nat) : ∀ m i, up lt' (e df) (d.map e) a j m i = up lt df d a j m i
  | 0, _ => rfl
  | m + 1, i => by rw [up, up, getD_map, getD_map, he, up_map d a j m]
theorem dn_map (d : List α) (a i : Nat) : ∀ j, dn lt' (e df) (d.map e) a i j = dn lt df d a i j
  | 0 => rfl
  | j + 1 => by rw [dn, dn, getD_map, getD_map, he, dn_map d a i j]
theorem plp_map (a : Nat) : ∀ (m i j : Nat) (d : List α), plp lt' (e df) a m i j (d.map e) = (plp lt df a m i j d).map fun r => (r.1, r.2.map e)
  | 0, _, _, _ => rfl
  | m + 1, i, j, d => by
    rw [plp, plp]
    rw [up_map lt df e lt' he, dn_map lt df e lt' he, swp_map, plp_map a m]
    split <;> rfl
theorem partM_map (d : List α) (a b p : Nat) : partM lt' (e df) (d.map e) a b p = (partM lt df d a b p).map fun r => (r.1, r.2.1, r.2.2.map e) := by
  simp only [partM, swp_map, up_map lt df e lt' he, dn_map lt df e lt' he, plp_map lt df e lt' he]
  split
  · rfl
  · cases plp lt df a 64 _ _ _ with
    | none => rfl
    | some r => simp only [Option.map_some, swp_map]
theorem psc_map (d : List α) (b : Nat) : ∀ m i, psc lt' (e df) (d.map e) b m i = psc lt df d b m i
  | 0, _ => rfl
  | m + 1, i => by rw [psc, psc, getD_map, getD_map, he, psc_map d b m]
theorem pdqM_map : ∀ (f : Nat) (d : List α) (a b : Nat) (wb wp : Bool), pdqM lt' (e df) f (d.map e) a b wb wp = (pdqM lt df f d a b wb wp).map fun r => r.map e
  | 0, _, _, _, _, _ => rfl
  | f + 1, d, a, b, wb, wp => by
    rw [pdqM, pdqM, getD_map, getD_map, getD_map, getD_map, he, he, he, psc_map lt df e lt' he, partM_map lt df e lt' he]
    by_cases h1 : b - a ≤ 12
    · rw [if_pos h1, if_pos h1, insSort, insSort, insO_map lt df e lt' he, Option.map_some]
    rw [if_neg h1, if_neg h1]
    by_cases h2 : wb = false
    · rw [if_pos h2, if_pos h2]; rfl
    rw [if_neg h2, if_neg h2]
    by_cases h3 : 50 ≤ b - a
    · rw [if_pos h3, if_pos h3]; rfl
    rw [if_neg h3, if_neg h3]
    by_cases h4 : lt (d.getD (a + (b - a) / 4 * 2) df) (d.getD (a + (b - a) / 4) df) = true
    · rw [if_pos h4, if_pos h4]; rfl
    rw [if_neg h4, if_neg h4]
    by_cases h5 : lt (d.getD (a + (b - a) / 4 * 3) df) (d.getD (a + (b - a) / 4 * 2) df) = true
    · rw [if_pos h5, if_pos h5]; rfl
    rw [if_neg h5, if_neg h5]
    by_cases h6 : wp = true ∧ psc lt df d b (b - (a + 1)) (a + 1) = b
    · rw [if_pos h6, if_pos h6]; rfl
    rw [if_neg h6, if_neg h6]
    by_cases h7 : 0 < a ∧ lt (d.getD (a - 1) df) (d.getD (a + (b - a) / 4 * 2) df) = false
    · rw [if_pos h7, if_pos h7]; rfl
    rw [if_neg h7, if_neg h7]
    cases partM lt df d a b (a + (b - a) / 4 * 2) with
    | none => rfl
    | some r =>
      obtain ⟨mid, al, d2⟩ := r
      simp only [Option.map_some]
      by_cases g1 : mid < a ∨ b ≤ mid
      · rw [if_pos g1, if_pos g1]; rfl
      rw [if_neg g1, if_neg g1]
      by_cases g2 : mid - a < b - mid
      · rw [if_pos g2, if_pos g2, pdqM_map f]
        cases pdqM lt df f d2 a mid true true with
        | none => rfl
        | some d3 => simp only [Option.map_some]; rw [pdqM_map f]
      · rw [if_neg g2, if_neg g2, pdqM_map f]
        cases pdqM lt df f d2 (mid + 1) b true true with
        | none => rfl
        | some d3 => simp only [Option.map_some]; rw [pdqM_map f]
end

/-! ### ranks -/
/-- A list of numbers in order, but for the last one. -/
def base (n r : Nat) : List Nat := ((List.range n).filter fun i => decide (i ≠ r)) ++ [r]
def okN (n r : Nat) : Bool := decide (pdqM (fun x y => decide (x < y)) 0 8 (base n r) 0 n true true = some (List.range n))
def okAll (n : Nat) : Bool := (List.range n).all (okN n)
end So
end Go.Proofs.YtigpplckddnghaaGreat
