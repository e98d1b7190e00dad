/-
  ROWS THAT ARE KEPT; measures of loops. Nothing here speaks of one function. (Cut out of TbQ, TbF.)
-/
import Derived.Test.YtabancgcokcfdaaWords
namespace Go.Proofs.Ytabancgcokcfdaa
open Go.RowKit

theorem own_keepT {w w' : World} {B k n : Nat} {e : TypeId} {v : Value} {xs : List Value} (h : w.ownsRow B e k v n xs) (hb : Below w.heap.size w w') : w'.ownsRow B e k v n xs :=
  h.kept (row := none) (grown_below hb) (by cases hv : v.ownBlock <;> simp)
theorem measT {K Z : Nat} (h : K < Z) : Z - (intOf (.int .i64 ((K + 1 : Nat) : Int))).toNat < Z - (intOf (.int .i64 (K : Int))).toNat := by
  show Z - (((K + 1 : Nat) : Int)).toNat < Z - ((K : Int)).toNat
  rw [Int.toNat_natCast, Int.toNat_natCast]
  omega
theorem measT2 {K Z : Nat} {z : Int} (e : z = ((K + 1 : Nat) : Int)) (h : K < Z) : Z - (intOf (.int .i64 z)).toNat < Z - (intOf (.int .i64 (K : Int))).toNat := by
  rw [e]; exact measT h
theorem own_lowS {w : World} {base n size : Nat} {e : TypeId} {v : Value} {xs : List Value} (h : w.ownsRow base e size v n xs) : ∀ q, v.ownBlock = some q → base ≤ q ∧ q < w.heap.size := by
  intro q e
  rcases h.2 with ⟨hv, _⟩ | ⟨g2, cap, cur, hv, h3, h4, _⟩
  · rw [hv] at e; cases e
  · rw [hv] at e
    have e' : some g2 = some q := e
    injection e' with e'
    have := (Array.getElem?_eq_some_iff.1 h4).1
    omega
end Go.Proofs.Ytabancgcokcfdaa
