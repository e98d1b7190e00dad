/-
  Sorting: a list in a row that is being sorted. (By gen/SoI.gen.py.)
-/
import Derived.Test.YtjdaoenapmjoeaaMid
import Derived.Test.YtjdaoenapmjoeaaTch
import Derived.Test.YtjdaoenapmjoeaaRowK
import Derived.RegionTactic
import Derived.Deep.QuietTactic
import Derived.BigQuiet
import Derived.Deep.CutBlock
namespace Go.Proofs.Ytjdaoenapmjoeaa
open Go.RowKit
set_option maxRecDepth 8000
namespace So
theorem addr_own {w : World} {base g : Nat} {e : TypeId} {n m c : Nat} {xs : List Value} (h : w.ownsRow base e 1 (.slice (some ⟨g, 0, none⟩) m c) n xs) {k : Nat} {u : Value} (hu : xs[k]? = some u) : w.cell? ⟨g, k, none⟩ = some u := by
  have h := h.cells rfl k u hu
  have e : ((⟨g, 0, none⟩ : Addr).add k) = ⟨g, k, none⟩ := by unfold Addr.add; by_cases hq : k = 0 <;> simp [hq]
  rwa [e] at h
/-- The list lies in the row that is being sorted, and nothing else was touched. -/
def Sd (t : TypeId) (K : IntKind) (base g c N : Nat) (W0 : World) (d : List Int) (W : World) : Prop := W.ownsRow base t 1 (.slice (some ⟨g, 0, none⟩) N c) N (nums K d) ∧ W0.grownBy W (some g)
section
variable {df : Int} {t : TypeId} {K : IntKind} {base g c N : Nat} {W0 W : World} {d : List Int}
theorem Sd.len (h : Sd t K base g c N W0 d W) : d.length = N := by have := h.1.1; rwa [nums_len, Nat.mul_one] at this
theorem Sd.at (h : Sd t K base g c N W0 d W) {k : Nat} (hk : k < N) : W.cell? ⟨g, k, none⟩ = some (.int K (d.getD k df)) := by
  have hl := h.len
  refine addr_own h.1 ?_
  rw [nums, List.getElem?_map, List.getElem?_eq_getElem (by omega), List.getD_eq_getElem?_getD, List.getElem?_eq_getElem (by omega)]; rfl
theorem Sd.drewN (h : Sd t K base g c N W0 d W) (q : Nat) : Sd t K base g c N W0 d (W.drewN q) :=
  ⟨h.1.kept (row := none) (grown_below (bel_drewN (Below.refl _ _) _)) (by by_cases q : (Value.slice (some ⟨g, 0, none⟩) N c).ownBlock = none <;> simp [q]), h.2.trans (grown_below (bel_drewN (Below.refl _ _) _))⟩
theorem Sd.set (h : Sd t K base g c N W0 d W) (k : Nat) (x : Int) : Sd t K base g c N W0 (d.set k x) (W.setCell ⟨g, k, none⟩ (.int K x)) := by
  obtain ⟨h2, h3⟩ := h.1.stored k (.int K x)
  refine ⟨?_, h.2.trans h3⟩
  rw [nums, List.map_set]; exact h2
theorem Sd.froz (h : Sd t K base g c N W0 d W) (k : Nat) : W.frozen? ⟨g, k, none⟩ = false := h.1.frozenAt k
theorem swp_comm {d : List Int} (i j : Nat) : (d.set j (d.getD i df)).set i (d.getD j df) = swp df d i j := by
  unfold swp
  by_cases h : i = j
  · subst h; rfl
  · exact List.set_comm _ _ (fun q => h q.symm)
end
theorem measS {j b : Nat} (h : j < b) : b - (intOf (.int .i64 ((j : Int) + 1))).toNat < b - (intOf (.int .i64 (j : Int))).toNat := by
  show b - (j + 1) < b - j
  omega
theorem Sd.alloc {t : TypeId} {K : IntKind} {base g c N : Nat} {W0 W : World} {d : List Int} (h : Sd t K base g c N W0 d W) (v : List Value) (ty : TypeId) : Sd t K base g c N W0 d (W.alloc (.cells v.toArray ty)) :=
  ⟨h.1.kept (row := none) (grown_below ((Below.refl _ _).alloc (Nat.le_refl _) _)) (by by_cases q : (Value.slice (some ⟨g, 0, none⟩) N c).ownBlock = none <;> simp [q]), h.2.trans (grown_below ((Below.refl _ _).alloc (Nat.le_refl _) _))⟩
theorem w6n2 {x : Nat} (h : x ≤ 1000) : wrap64 ((x : Int) + 1) = ((x + 1 : Nat) : Int) := by unfold wrap64; omega
theorem w6n {x : Nat} (h : x ≤ 1000) : wrap64 (x : Int) = (x : Int) := by unfold wrap64; omega
end So
end Go.Proofs.Ytjdaoenapmjoeaa
