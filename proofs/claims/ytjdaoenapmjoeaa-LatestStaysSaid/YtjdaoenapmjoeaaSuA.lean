/-
  SORTING at uint64, plain: what the walks of round 16 reckon on lists is what the library's own plain twin of pdqsort reckons on arrays.
-/
import Derived.Test.YtjdaoenapmjoeaaSoC
import Derived.Sort.AssemblyPlain
namespace Go.Proofs.Ytjdaoenapmjoeaa
open Go.RowKit
set_option maxRecDepth 8000
namespace So
abbrev ltZ : Int → Int → Bool := fun x y => decide (x < y)
theorem swoZ : Sort.SWO ltZ := Sort.swo_ltInt
theorem arr_at (D : Array Int) (k : Nat) : D.toList.getD k 0 = D[k]! := by
  rw [List.getD_eq_getElem?_getD, Array.getElem?_toList, Array.getElem!_eq_getD, Array.getD_eq_getD_getElem?]; rfl
theorem arr_swp (D : Array Int) (i j : Nat) : swp 0 D.toList i j = (Sort.swp D i j).toList := by
  unfold swp Sort.swp
  rw [Array.toList_setIfInBounds, Array.toList_setIfInBounds, arr_at, arr_at]
theorem arr_insI (a : Nat) : ∀ (j : Nat) (D : Array Int), insI ltZ 0 a j D.toList = (Sort.insInner ltZ a j D).toList
  | 0, D => by rw [insI, Sort.insInner]
  | j + 1, D => by
    rw [insI, Sort.insInner, arr_at, arr_at, arr_swp]
    by_cases h : (decide (j + 1 > a) && ltZ D[j + 1]! D[j]!) = true
    · rw [if_pos h, if_pos h]; exact arr_insI a j _
    · rw [if_neg h, if_neg h]
theorem arr_insO (a b : Nat) : ∀ (m i : Nat) (D : Array Int), b - i = m → insO ltZ 0 a m i D.toList = (Sort.insOuter ltZ a b i D).toList
  | 0, i, D, h => by rw [insO, Sort.insOuter, if_neg (by omega)]
  | m + 1, i, D, h => by rw [insO, Sort.insOuter, if_pos (by omega), arr_insI]; exact arr_insO a b m (i + 1) _ (by omega)
theorem arr_ins (D : Array Int) (a b : Nat) : insSort ltZ 0 D.toList a b = (Sort.insertionSort ltZ D a b).toList := arr_insO a b _ _ D rfl
theorem arr_up (D : Array Int) (a j : Nat) : ∀ m i, j + 1 - i = m → up ltZ 0 D.toList a j m i = Sort.scanUp (fun x => ltZ x D[a]!) D j i
  | 0, i, h => by
    rw [up, Sort.scanUp, if_neg (by simp; omega)]
  | m + 1, i, h => by
    rw [up, Sort.scanUp, arr_at, arr_at, arr_up D a j m (i + 1) (by omega)]
theorem arr_dn (D : Array Int) (a i : Nat) : ∀ j, dn ltZ 0 D.toList a i j = Sort.scanDown (fun x => !ltZ x D[a]!) D i j
  | 0 => by rw [dn, Sort.scanDown]
  | j + 1 => by rw [dn, Sort.scanDown, arr_at, arr_at, arr_dn D a i j]
theorem arr_plp (a : Nat) : ∀ (m i j : Nat) (D : Array Int), j + 1 - i < m → plp ltZ 0 a m i j D.toList = some ((Sort.partLoop ltZ a i j D).1, (Sort.partLoop ltZ a i j D).2.toList)
  | 0, _, _, _, h => by omega
  | m + 1, i, j, D, h => by
    rw [plp, Sort.partLoop_eq]
    simp only [arr_up D a j _ i rfl, arr_dn]
    have hu := Sort.scanUp_ge (fun x => ltZ x D[a]!) D j i
    have hd := Sort.scanDown_le (fun x => !ltZ x D[a]!) D (Sort.scanUp (fun x => ltZ x D[a]!) D j i) j
    generalize Sort.scanUp (fun x => ltZ x D[a]!) D j i = i2 at *
    generalize Sort.scanDown (fun x => !ltZ x D[a]!) D i2 j = j2 at *
    by_cases hc : i2 > j2
    · rw [if_pos hc, if_pos hc]
    · rw [if_neg hc, if_neg hc, arr_swp]
      exact arr_plp a m _ _ _ (by omega)
theorem arr_part (D : Array Int) (a b p : Nat) (h : b - a < 60) : partM ltZ 0 D.toList a b p = some ((Sort.partition ltZ D a b p).1, (Sort.partition ltZ D a b p).2.1, (Sort.partition ltZ D a b p).2.2.toList) := by
  unfold partM Sort.partition
  simp only [arr_swp, arr_up _ a (b - 1) _ (a + 1) rfl, arr_dn]
  have hu := Sort.scanUp_ge (fun x => ltZ x (Sort.swp D a p)[a]!) (Sort.swp D a p) (b - 1) (a + 1)
  have hd := Sort.scanDown_le (fun x => !ltZ x (Sort.swp D a p)[a]!) (Sort.swp D a p) (Sort.scanUp (fun x => ltZ x (Sort.swp D a p)[a]!) (Sort.swp D a p) (b - 1) (a + 1)) (b - 1)
  generalize Sort.scanUp (fun x => ltZ x (Sort.swp D a p)[a]!) (Sort.swp D a p) (b - 1) (a + 1) = i2 at *
  generalize Sort.scanDown (fun x => !ltZ x (Sort.swp D a p)[a]!) (Sort.swp D a p) i2 (b - 1) = j2 at *
  by_cases hc : j2 < i2
  · rw [if_pos hc, if_pos (show i2 > j2 from hc)]
  · rw [if_neg hc, if_neg (show ¬ i2 > j2 from hc), arr_plp a 64 _ _ _ (by omega)]
    simp only [arr_swp]
theorem arr_psc (D : Array Int) (b : Nat) : ∀ m i, b - i = m → psc ltZ 0 D.toList b m i = Sort.scanSorted ltZ D b i
  | 0, i, h => by rw [psc, Sort.scanSorted, if_neg (by simp; omega)]
  | m + 1, i, h => by rw [psc, Sort.scanSorted, arr_at, arr_at, arr_psc D b m (i + 1) (by omega)]
theorem psc_sorted (D : Array Int) (a b : Nat) (hab : a < b) (h : psc ltZ 0 D.toList b (b - (a + 1)) (a + 1) = b) : Sort.SortedIn ltZ a b D := by
  rw [arr_psc D b _ _ rfl] at h
  have h3 := Sort.scanSorted_spec swoZ a b D _ (a + 1) rfl (by omega) (fun i j h1 h2 h3 => by omega)
  rw [h] at h3
  exact h3.2.2

/-- The row that is sorted, by an array. -/
abbrev Sa (base g c N : Nat) (W0 : World) (D : Array Int) (W : World) : Prop := Sd 26 .u64 base g c N W0 D.toList W
section
variable {base g c N : Nat} {W0 W : World} {D : Array Int}
theorem Sa.size (h : Sa base g c N W0 D W) : D.size = N := by have := Sd.len h; simpa using this
theorem Sa.at (h : Sa base g c N W0 D W) {k : Nat} (hk : k < N) : W.cell? ⟨g, k, none⟩ = some (.int .u64 D[k]!) := by
  rw [← arr_at]; exact Sd.at (df := 0) h hk
theorem Sa.swap (h : Sa base g c N W0 D W) (i j : Nat) : Sa base g c N W0 (Sort.swp D i j) ((W.setCell ⟨g, i, none⟩ (.int .u64 D[j]!)).setCell ⟨g, j, none⟩ (.int .u64 D[i]!)) := by
  have h2 := Sd.set (Sd.set h i D[j]!) j D[i]!
  show Sd _ _ _ _ _ _ _ (Sort.swp D i j).toList _
  unfold Sort.swp
  rw [Array.toList_setIfInBounds, Array.toList_setIfInBounds]
  exact h2
theorem Sa.drewN (h : Sa base g c N W0 D W) (q : Nat) : Sa base g c N W0 D (W.drewN q) := Sd.drewN h q
theorem Sa.froz (h : Sa base g c N W0 D W) (k : Nat) : W.frozen? ⟨g, k, none⟩ = false := Sd.froz h k
end
end So
end Go.Proofs.Ytjdaoenapmjoeaa
