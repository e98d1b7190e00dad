/-
  LAYER 22, mathematics: how many places are in a block; which of two blocks is collected first.
-/
import Derived.Test.YtabancgcokcfdaaPkC
import Derived.Test.YtabancgcokcfdaaWrM
import Derived.Sort.AssemblyPlain
namespace Go.Proofs.Ytabancgcokcfdaa
open Go.RowKit
namespace Vc

/-- Below 0: x is collected first. -/
def cfV (L : List Pl2) (x y : Int) : Int := orY (cmpY (cntB x L : Int) (cntB y L : Int)) (cmpY x y)
def ltV (L : List Pl2) (x y : Int) : Bool := decide (cntB x L < cntB y L ∨ cntB x L = cntB y L ∧ x < y)
theorem cf_lt (L : List Pl2) (x y : Int) : decide (cfV L x y < 0) = ltV L x y := by
  unfold cfV ltV
  rw [cmpY_or]
  apply decide_eq_decide.2
  constructor
  · rintro (h | ⟨h1, h2⟩)
    · exact .inl (by omega)
    · exact .inr ⟨by omega, h2⟩
  · rintro (h | ⟨h1, h2⟩)
    · exact .inl (by omega)
    · exact .inr ⟨by omega, h2⟩
theorem swoV (L : List Pl2) : Sort.SWO (ltV L) where
  irrefl x := by unfold ltV; simp
  trans x y z h1 h2 := by unfold ltV at *; rw [decide_eq_true_eq] at *; omega
  ntrans x y z h1 h2 := by unfold ltV at *; rw [decide_eq_false_iff_not] at *; omega
theorem nodup_len : ∀ (l S : List Int), l.Nodup → (∀ x ∈ l, x ∈ S) → l.length ≤ S.length
  | [], _, _, _ => Nat.zero_le _
  | x :: l, S, hn, hs => by
    have hx : x ∈ S := hs x (List.mem_cons_self ..)
    rw [List.nodup_cons] at hn
    have h := nodup_len l (S.erase x) hn.2 (fun y hy => (List.mem_erase_of_ne (fun e => hn.1 (by rw [← e]; exact hy))).2 (hs y (List.mem_cons_of_mem _ hy)))
    rw [List.length_erase_of_mem hx] at h
    have : 0 < S.length := List.length_pos_of_mem hx
    rw [List.length_cons]
    omega
/-- How many pages are gained. -/
def gainZ (L : List Pl2) (b p : Int) : Int := if p ≤ (cntB b L : Int) then 0 else p - (cntB b L : Int)
end Vc
end Go.Proofs.Ytabancgcokcfdaa
