/-
  PROMISES of a region that draws (Flow), for calls that make bytes.
-/
import Derived.Test.YtfpooljpbncogaaGreatFlow
import Derived.Test.YtfpooljpbncogaaGreatBytes
namespace Go.Proofs.YtfpooljpbncogaaGreat
open Go.RowKit

/-- A slice of k bytes that turns into a string. -/
def SliceStr (k : Nat) (l : List UInt8) : Value → World → Prop := fun v w => ∃ A c, v = .slice A k c ∧ (convert 29 9 v).run Tryz.prog w = .ok (.string (str l)) w
/-- A call that makes bytes. -/
def Makes (f : FuncId) (args : Array Value) (W : World) (k : Nat) (l : List UInt8) : Prop :=
  Calls Tryz.prog f args W fun e w' => ∃ v, e = .returned v ∧ Below W.heap.size W w' ∧ Keeps (SliceStr k l) v w'
theorem Makes.of {f : FuncId} {args : Array Value} {W : World} {k : Nat} {l : List UInt8} (hk : k = l.length)
    (h : Calls Tryz.prog f args W fun e w' => ∃ A' c', e = .returned (.slice A' k c') ∧ w'.ownsRow W.heap.size 5 1 (.slice A' k c') k (bys l) ∧ Below W.heap.size W w') : Makes f args W k l :=
  h.mono fun _ _ ⟨A', c', he, ho, hb'⟩ => ⟨_, he, hb', fun _ hW => ⟨A', c', rfl, strU8 c' ((Lies.of_own ho).below hW) hk⟩⟩

end Go.Proofs.YtfpooljpbncogaaGreat
