/-
  PAGES AS BYTES, plain mathematics: heads, the bytes of a page, what is read of them; whatever covers a page, and is another one, is none.
-/
import Derived.Test.YtabancgcokcfdaaNum
import Derived.Test.YtabancgcokcfdaaBits
namespace Go.Proofs.Ytabancgcokcfdaa

/-- A head. -/
structure Hd where
  kind : Int
  index : Int
  count : Int
  batch : Nat
  opn : Nat
  lpn : Int
  len : Int
deriving DecidableEq
def Hd.May (h : Hd) : Prop := 1 ≤ h.kind ∧ h.kind ≤ 5 ∧ 1 ≤ h.count ∧ h.count ≤ 16 ∧ 0 ≤ h.index ∧ h.index < h.count ∧ h.batch < 2147483648 ∧ h.opn < 2147483648 ∧ 0 ≤ h.lpn ∧ h.lpn ≤ 65535 ∧ 0 ≤ h.len ∧ h.len ≤ 228
instance (h : Hd) : Decidable h.May := by unfold Hd.May; infer_instance

end Go.Proofs.Ytabancgcokcfdaa
