/-
  No cell of these rows narrows 'for every input' (looked for: loops, veiled, ifaces, maps, wideKeys, modest, calm, conditions, laid).
  DERIVED. THE GIVEN ROWS OF THIS SEAT. 4 by the template 'for every input the law returns true; each argument reads behind the call as it read before'; 0 by the template 'total and deterministic' (their statements: YtbcplfdbnfmhoaaTotals.lean).
  GIVEN WITH THE SEED: the statements are not yours to turn. If you find one false, say at which input.
  Laid BY PROGRAM, IN A SANDBOX (cutbox-rows.mjs): the forced cells as the released guide's own fill.sh prints them over the translation 87c964a1265d32fd… (all of the seat's roots in one cut). By AI agents, Wed Nov 11 2026. No macro, syntax, notation, axiom, sorry.
-/
import Derived.Test.YtbcplfdbnfmhoaaChecked
import GoSem.Claim
import GoSem.ClaimJoined
import GoSem.ClaimMapViews
import Derived.JoinedTies
import Derived.KernelRfl
namespace Go.Proofs.Ytbcplfdbnfmhoaa
/- THE CELL 'sum', in the pinned program and in every row, IS THE sha256 OF THE DUMP (.gsa) THAT YtbcplfdbnfmhoaaProg.lean LOADS. Nothing in Lean hashes anything: it is a label: what it is worth is what the hold of that sum in a sandbox is worth. -/
noncomputable def Try.pinned : Pinned := { name := "ytbcplfdbnfmhoaa", sum := "87c964a1265d32fdc90f71cc0f33e21f9524f82e65de8802f6b5d896c7482a11", checked := Try.checked }
namespace Rows
def none {H : Type} : Left H := { results := [], args := [] }

/-- 'wagtaillaw02.ZerosCount': WHATEVER THE INPUT: true; the input reads as it did. -/
def zerosCountSpec : ChangeSpec := { name := "zerosCount", fn := fun _ => fun
  | [d1, d2] => { results := [.lit (.bool true)], args := [d1, d2] }
  | _ => none }
def zerosCountRow : OpenClaim := { program := "ytbcplfdbnfmhoaa", sum := "87c964a1265d32fdc90f71cc0f33e21f9524f82e65de8802f6b5d896c7482a11", func := "wagtail/wagtaillaw02.ZerosCount", spec := "zerosCount", inPlace := ["internal/bytealg.MakeNoZero"], unfollowed := true, recurses := true, apart := false }
def ZerosCountSaid : Prop := zerosCountRow.holds Try.pinned (OpenSpec.ofChange zerosCountSpec)

/-- ITS FALSE NEIGHBOUR: 'it returns false'. Refute it at one input. -/
def zerosCountWrong : ChangeSpec := { name := "zerosCount", fn := fun _ => fun
  | [d1, d2] => { results := [.lit (.bool false)], args := [d1, d2] }
  | _ => none }
def ZerosCountWrongFalsely : Prop := zerosCountRow.holds Try.pinned (OpenSpec.ofChange zerosCountWrong)

/-- 'wagtaillaw02.ZerosProgram': WHATEVER THE INPUT: true; the input reads as it did. -/
def zerosProgramSpec : ChangeSpec := { name := "zerosProgram", fn := fun _ => fun
  | [d1, d2, d3] => { results := [.lit (.bool true)], args := [d1, d2, d3] }
  | _ => none }
def zerosProgramRow : OpenClaim := { program := "ytbcplfdbnfmhoaa", sum := "87c964a1265d32fdc90f71cc0f33e21f9524f82e65de8802f6b5d896c7482a11", func := "wagtail/wagtaillaw02.ZerosProgram", spec := "zerosProgram", inPlace := ["internal/bytealg.MakeNoZero"], unfollowed := true, recurses := true, apart := false }
def ZerosProgramSaid : Prop := zerosProgramRow.holds Try.pinned (OpenSpec.ofChange zerosProgramSpec)

/-- ITS FALSE NEIGHBOUR: 'it returns false'. Refute it at one input. -/
def zerosProgramWrong : ChangeSpec := { name := "zerosProgram", fn := fun _ => fun
  | [d1, d2, d3] => { results := [.lit (.bool false)], args := [d1, d2, d3] }
  | _ => none }
def ZerosProgramWrongFalsely : Prop := zerosProgramRow.holds Try.pinned (OpenSpec.ofChange zerosProgramWrong)

/-- 'wagtaillaw02.ZerosErase': WHATEVER THE INPUT: true; the input reads as it did. -/
def zerosEraseSpec : ChangeSpec := { name := "zerosErase", fn := fun _ => fun
  | [d1, d2, d3] => { results := [.lit (.bool true)], args := [d1, d2, d3] }
  | _ => none }
def zerosEraseRow : OpenClaim := { program := "ytbcplfdbnfmhoaa", sum := "87c964a1265d32fdc90f71cc0f33e21f9524f82e65de8802f6b5d896c7482a11", func := "wagtail/wagtaillaw02.ZerosErase", spec := "zerosErase", inPlace := ["internal/bytealg.MakeNoZero"], unfollowed := true, recurses := true, apart := false }
def ZerosEraseSaid : Prop := zerosEraseRow.holds Try.pinned (OpenSpec.ofChange zerosEraseSpec)

/-- ITS FALSE NEIGHBOUR: 'it returns false'. Refute it at one input. -/
def zerosEraseWrong : ChangeSpec := { name := "zerosErase", fn := fun _ => fun
  | [d1, d2, d3] => { results := [.lit (.bool false)], args := [d1, d2, d3] }
  | _ => none }
def ZerosEraseWrongFalsely : Prop := zerosEraseRow.holds Try.pinned (OpenSpec.ofChange zerosEraseWrong)

/-- 'wagtaillaw02.ZerosOneWay': WHATEVER THE INPUT: true; the input reads as it did. -/
def zerosOneWaySpec : ChangeSpec := { name := "zerosOneWay", fn := fun _ => fun
  | [d1, d2, d3] => { results := [.lit (.bool true)], args := [d1, d2, d3] }
  | _ => none }
def zerosOneWayRow : OpenClaim := { program := "ytbcplfdbnfmhoaa", sum := "87c964a1265d32fdc90f71cc0f33e21f9524f82e65de8802f6b5d896c7482a11", func := "wagtail/wagtaillaw02.ZerosOneWay", spec := "zerosOneWay", inPlace := ["internal/bytealg.MakeNoZero"], unfollowed := true, recurses := true, apart := false }
def ZerosOneWaySaid : Prop := zerosOneWayRow.holds Try.pinned (OpenSpec.ofChange zerosOneWaySpec)

/-- ITS FALSE NEIGHBOUR: 'it returns false'. Refute it at one input. -/
def zerosOneWayWrong : ChangeSpec := { name := "zerosOneWay", fn := fun _ => fun
  | [d1, d2, d3] => { results := [.lit (.bool false)], args := [d1, d2, d3] }
  | _ => none }
def ZerosOneWayWrongFalsely : Prop := zerosOneWayRow.holds Try.pinned (OpenSpec.ofChange zerosOneWayWrong)

/- THE SECOND FORM. 'bulk': how many values and letters a reading holds, each counted each time it is reached (what is shared counts as often as it is met; a slice's spare places count too). A statement '..UptoSaid' is the law's where the arguments, and the package variables that the reading takes, are together of bulk at most 1048576: NARROWER than '..Said'. Prove '..Said' where nothing that the law and all that it calls make is longer than what came in: it says more and counts as full. Else prove '..UptoSaid'. A law counts once. -/
mutual
def uptoBulk {H : Type} : DataW H → Nat
  | .lit (.string bytes) => bytes.length + 1
  | .lit _ => 1
  | .nil => 1
  | .ptr d => uptoBulk d + 1
  | .slice elems spare => uptoBulkAll elems + uptoBulkAll spare + 1
  | .agg parts => uptoBulkAll parts + 1
  | .iface _ d => uptoBulk d + 1
  | .map entries => uptoBulkEntries entries + 1
  | .held _ => 1
def uptoBulkAll {H : Type} : List (DataW H) → Nat
  | [] => 0
  | d :: r => uptoBulk d + uptoBulkAll r
def uptoBulkEntries {H : Type} : List (Lit × DataW H) → Nat
  | [] => 0
  | x :: r => uptoBulkEntry x + uptoBulkEntries r
def uptoBulkEntry {H : Type} : Lit × DataW H → Nat
  | (.string bytes, d) => bytes.length + uptoBulk d + 1
  | (_, d) => uptoBulk d + 1
 end
def uptoSmall : (H : Type) → List (DataW H) → Bool := fun _ ds => decide (uptoBulkAll ds ≤ 1048576)
def OpenSpec.upto (s : _root_.Go.ChangeSpec) : _root_.Go.OpenSpec := { _root_.Go.OpenSpec.ofChange s with cond := some uptoSmall }

/-- 'wagtaillaw02.ZerosCount', WHERE WHAT IT READS IS OF BULK AT MOST 1048576: true; the input reads as it did. -/
def zerosCountUptoRow : OpenClaim := { program := "ytbcplfdbnfmhoaa", sum := "87c964a1265d32fdc90f71cc0f33e21f9524f82e65de8802f6b5d896c7482a11", func := "wagtail/wagtaillaw02.ZerosCount", spec := "zerosCount", inPlace := ["internal/bytealg.MakeNoZero"], unfollowed := true, recurses := true, apart := false, narrowed := true }
def ZerosCountUptoSaid : Prop := zerosCountUptoRow.holds Try.pinned (OpenSpec.upto zerosCountSpec)

/-- 'wagtaillaw02.ZerosProgram', WHERE WHAT IT READS IS OF BULK AT MOST 1048576: true; the input reads as it did. -/
def zerosProgramUptoRow : OpenClaim := { program := "ytbcplfdbnfmhoaa", sum := "87c964a1265d32fdc90f71cc0f33e21f9524f82e65de8802f6b5d896c7482a11", func := "wagtail/wagtaillaw02.ZerosProgram", spec := "zerosProgram", inPlace := ["internal/bytealg.MakeNoZero"], unfollowed := true, recurses := true, apart := false, narrowed := true }
def ZerosProgramUptoSaid : Prop := zerosProgramUptoRow.holds Try.pinned (OpenSpec.upto zerosProgramSpec)

/-- 'wagtaillaw02.ZerosErase', WHERE WHAT IT READS IS OF BULK AT MOST 1048576: true; the input reads as it did. -/
def zerosEraseUptoRow : OpenClaim := { program := "ytbcplfdbnfmhoaa", sum := "87c964a1265d32fdc90f71cc0f33e21f9524f82e65de8802f6b5d896c7482a11", func := "wagtail/wagtaillaw02.ZerosErase", spec := "zerosErase", inPlace := ["internal/bytealg.MakeNoZero"], unfollowed := true, recurses := true, apart := false, narrowed := true }
def ZerosEraseUptoSaid : Prop := zerosEraseUptoRow.holds Try.pinned (OpenSpec.upto zerosEraseSpec)

/-- 'wagtaillaw02.ZerosOneWay', WHERE WHAT IT READS IS OF BULK AT MOST 1048576: true; the input reads as it did. -/
def zerosOneWayUptoRow : OpenClaim := { program := "ytbcplfdbnfmhoaa", sum := "87c964a1265d32fdc90f71cc0f33e21f9524f82e65de8802f6b5d896c7482a11", func := "wagtail/wagtaillaw02.ZerosOneWay", spec := "zerosOneWay", inPlace := ["internal/bytealg.MakeNoZero"], unfollowed := true, recurses := true, apart := false, narrowed := true }
def ZerosOneWayUptoSaid : Prop := zerosOneWayUptoRow.holds Try.pinned (OpenSpec.upto zerosOneWaySpec)

end Rows
end Go.Proofs.Ytbcplfdbnfmhoaa
