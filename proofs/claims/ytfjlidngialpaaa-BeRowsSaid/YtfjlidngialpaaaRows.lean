/-
  No cell of these rows narrows 'for every input' (looked for: loops, veiled, ifaces, maps, wideKeys, modest, calm, conditions, laid).
  DERIVED. THE GIVEN ROWS OF THIS SEAT. 3 by the template 'for every input the law returns true; each argument reads behind the call as it read before'; 0 by the template 'total and deterministic' (their statements: YtfjlidngialpaaaTotals.lean).
  GIVEN WITH THE SEED: the statements are not yours to turn. If you find one false, say at which input.
  Laid BY PROGRAM, IN A SANDBOX (cutbox-rows.mjs): the forced cells as the released guide's own fill.sh prints them over the translation 9db92d768efd4da2… (all of the seat's roots in one cut). By AI agents, Wed Nov 11 2026. No macro, syntax, notation, axiom, sorry.
-/
import Derived.Test.YtfjlidngialpaaaChecked
import GoSem.Claim
import GoSem.ClaimJoined
import GoSem.ClaimMapViews
import Derived.JoinedTies
import Derived.KernelRfl
namespace Go.Proofs.Ytfjlidngialpaaa
/- THE CELL 'sum', in the pinned program and in every row, IS THE sha256 OF THE DUMP (.gsa) THAT YtfjlidngialpaaaProg.lean LOADS. Nothing in Lean hashes anything: it is a label: what it is worth is what the hold of that sum in a sandbox is worth. -/
noncomputable def Try.pinned : Pinned := { name := "ytfjlidngialpaaa", sum := "9db92d768efd4da27ce6861b667ea483b7017b7e95750d9d15912476f82f21ec", checked := Try.checked }
namespace Rows
def none {H : Type} : Left H := { results := [], args := [] }

/-- 'wagtaillaw01.BeLays': WHATEVER THE INPUT: true; the input reads as it did. -/
def beLaysSpec : ChangeSpec := { name := "beLays", fn := fun _ => fun
  | [d] => { results := [.lit (.bool true)], args := [d] }
  | _ => none }
def beLaysRow : OpenClaim := { program := "ytfjlidngialpaaa", sum := "9db92d768efd4da27ce6861b667ea483b7017b7e95750d9d15912476f82f21ec", func := "wagtail/wagtaillaw01.BeLays", spec := "beLays", unfollowed := true, recurses := true, apart := false }
def BeLaysSaid : Prop := beLaysRow.holds Try.pinned (OpenSpec.ofChange beLaysSpec)

/-- ITS FALSE NEIGHBOUR: 'it returns false'. Refute it at one input. -/
def beLaysWrong : ChangeSpec := { name := "beLays", fn := fun _ => fun
  | [d] => { results := [.lit (.bool false)], args := [d] }
  | _ => none }
def BeLaysWrongFalsely : Prop := beLaysRow.holds Try.pinned (OpenSpec.ofChange beLaysWrong)

/-- 'wagtaillaw01.BeRows': WHATEVER THE INPUT: true; the input reads as it did. -/
def beRowsSpec : ChangeSpec := { name := "beRows", fn := fun _ => fun
  | [d] => { results := [.lit (.bool true)], args := [d] }
  | _ => none }
def beRowsRow : OpenClaim := { program := "ytfjlidngialpaaa", sum := "9db92d768efd4da27ce6861b667ea483b7017b7e95750d9d15912476f82f21ec", func := "wagtail/wagtaillaw01.BeRows", spec := "beRows", unfollowed := true, recurses := true, apart := false }
def BeRowsSaid : Prop := beRowsRow.holds Try.pinned (OpenSpec.ofChange beRowsSpec)

/-- ITS FALSE NEIGHBOUR: 'it returns false'. Refute it at one input. -/
def beRowsWrong : ChangeSpec := { name := "beRows", fn := fun _ => fun
  | [d] => { results := [.lit (.bool false)], args := [d] }
  | _ => none }
def BeRowsWrongFalsely : Prop := beRowsRow.holds Try.pinned (OpenSpec.ofChange beRowsWrong)

/-- 'wagtaillaw01.BeReads': WHATEVER THE INPUT: true; the input reads as it did. -/
def beReadsSpec : ChangeSpec := { name := "beReads", fn := fun _ => fun
  | [d1, d2] => { results := [.lit (.bool true)], args := [d1, d2] }
  | _ => none }
def beReadsRow : OpenClaim := { program := "ytfjlidngialpaaa", sum := "9db92d768efd4da27ce6861b667ea483b7017b7e95750d9d15912476f82f21ec", func := "wagtail/wagtaillaw01.BeReads", spec := "beReads", unfollowed := true, recurses := true, apart := false }
def BeReadsSaid : Prop := beReadsRow.holds Try.pinned (OpenSpec.ofChange beReadsSpec)

/-- ITS FALSE NEIGHBOUR: 'it returns false'. Refute it at one input. -/
def beReadsWrong : ChangeSpec := { name := "beReads", fn := fun _ => fun
  | [d1, d2] => { results := [.lit (.bool false)], args := [d1, d2] }
  | _ => none }
def BeReadsWrongFalsely : Prop := beReadsRow.holds Try.pinned (OpenSpec.ofChange beReadsWrong)

/- THE SECOND FORM. 'bulk': how many values and letters a reading holds, each counted each time it is reached (what is shared counts as often as it is met; a slice's spare places count too). A statement '..UptoSaid' is the law's where the arguments, and the package variables that the reading takes, are together of bulk at most 1048576: NARROWER than '..Said'. Prove '..Said' where nothing that the law and all that it calls make is longer than what came in: it says more and counts as full. Else prove '..UptoSaid'. A law counts once. -/
mutual
def uptoBulk {H : Type} : DataW H → Nat
  | .lit (.string bytes) => bytes.length + 1
  | .lit _ => 1
  | .nil => 1
  | .ptr d => uptoBulk d + 1
  | .slice elems spare => uptoBulkAll elems + uptoBulkAll spare + 1
  | .agg parts => uptoBulkAll parts + 1
  | .iface _ d => uptoBulk d + 1
  | .map entries => uptoBulkEntries entries + 1
  | .held _ => 1
def uptoBulkAll {H : Type} : List (DataW H) → Nat
  | [] => 0
  | d :: r => uptoBulk d + uptoBulkAll r
def uptoBulkEntries {H : Type} : List (Lit × DataW H) → Nat
  | [] => 0
  | x :: r => uptoBulkEntry x + uptoBulkEntries r
def uptoBulkEntry {H : Type} : Lit × DataW H → Nat
  | (.string bytes, d) => bytes.length + uptoBulk d + 1
  | (_, d) => uptoBulk d + 1
 end
def uptoSmall : (H : Type) → List (DataW H) → Bool := fun _ ds => decide (uptoBulkAll ds ≤ 1048576)
def OpenSpec.upto (s : _root_.Go.ChangeSpec) : _root_.Go.OpenSpec := { _root_.Go.OpenSpec.ofChange s with cond := some uptoSmall }

/-- 'wagtaillaw01.BeLays', WHERE WHAT IT READS IS OF BULK AT MOST 1048576: true; the input reads as it did. -/
def beLaysUptoRow : OpenClaim := { program := "ytfjlidngialpaaa", sum := "9db92d768efd4da27ce6861b667ea483b7017b7e95750d9d15912476f82f21ec", func := "wagtail/wagtaillaw01.BeLays", spec := "beLays", unfollowed := true, recurses := true, apart := false, narrowed := true }
def BeLaysUptoSaid : Prop := beLaysUptoRow.holds Try.pinned (OpenSpec.upto beLaysSpec)

/-- 'wagtaillaw01.BeRows', WHERE WHAT IT READS IS OF BULK AT MOST 1048576: true; the input reads as it did. -/
def beRowsUptoRow : OpenClaim := { program := "ytfjlidngialpaaa", sum := "9db92d768efd4da27ce6861b667ea483b7017b7e95750d9d15912476f82f21ec", func := "wagtail/wagtaillaw01.BeRows", spec := "beRows", unfollowed := true, recurses := true, apart := false, narrowed := true }
def BeRowsUptoSaid : Prop := beRowsUptoRow.holds Try.pinned (OpenSpec.upto beRowsSpec)

/-- 'wagtaillaw01.BeReads', WHERE WHAT IT READS IS OF BULK AT MOST 1048576: true; the input reads as it did. -/
def beReadsUptoRow : OpenClaim := { program := "ytfjlidngialpaaa", sum := "9db92d768efd4da27ce6861b667ea483b7017b7e95750d9d15912476f82f21ec", func := "wagtail/wagtaillaw01.BeReads", spec := "beReads", unfollowed := true, recurses := true, apart := false, narrowed := true }
def BeReadsUptoSaid : Prop := beReadsUptoRow.holds Try.pinned (OpenSpec.upto beReadsSpec)

end Rows
end Go.Proofs.Ytfjlidngialpaaa
