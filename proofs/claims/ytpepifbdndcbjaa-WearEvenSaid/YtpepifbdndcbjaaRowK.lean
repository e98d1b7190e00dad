/-
  ROWS THAT ARE KEPT; measures of loops. Nothing here speaks of one function. (Cut out of TbQ, TbF.)
-/
import Derived.Test.YtpepifbdndcbjaaWords
namespace Go.Proofs.Ytpepifbdndcbjaa
open Go.RowKit

theorem own_keepT {w w' : World} {B k n : Nat} {e : TypeId} {v : Value} {xs : List Value} (h : w.ownsRow B e k v n xs) (hb : Below w.heap.size w w') : w'.ownsRow B e k v n xs :=
  h.kept (row := none) (grown_below hb) (by cases hv : v.ownBlock <;> simp)
theorem measT {K Z : Nat} (h : K < Z) : Z - (intOf (.int .i64 ((K + 1 : Nat) : Int))).toNat < Z - (intOf (.int .i64 (K : Int))).toNat := by
  show Z - (((K + 1 : Nat) : Int)).toNat < Z - ((K : Int)).toNat
  rw [Int.toNat_natCast, Int.toNat_natCast]
  omega
theorem measT2 {K Z : Nat} {z : Int} (e : z = ((K + 1 : Nat) : Int)) (h : K < Z) : Z - (intOf (.int .i64 z)).toNat < Z - (intOf (.int .i64 (K : Int))).toNat := by
  rw [e]; exact measT h
end Go.Proofs.Ytpepifbdndcbjaa
