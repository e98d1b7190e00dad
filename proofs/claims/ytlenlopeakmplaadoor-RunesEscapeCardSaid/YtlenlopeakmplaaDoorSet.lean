/-
  WHAT THE CARD LISTS, for every law alike: the listed variables as the walks use them; one world that fits.
-/
import Derived.Test.YtlenlopeakmplaaDoorNumd
import Derived.Test.YtlenlopeakmplaaDoorOpen
import Derived.Test.YtlenlopeakmplaaDoorTie
import Derived.SizedLaws
import Derived.ChangeSame
import Derived.ChangeVars
import Derived.ChangeMaps5
import Derived.JoinedOf
import Derived.JoinedAt
import Derived.RowKit
import Derived.RowKit3
import Derived.RowKitTokens
import Derived.LaidLaws
import Derived.Deep.DeepLaidRun
import Derived.Stop.LaidErr
import Derived.SevenTiedAt
namespace Go.Proofs.YtlenlopeakmplaaDoor
open Go.ChangeShapes Go.WideShapes Go.ChangeAt Go.RowKit

theorem gES : Tryd.prog.globalNamed "strconv.ErrSyntax" = some 0 := by kernel_rfl
theorem gER : Tryd.prog.globalNamed "strconv.ErrRange" = some 1 := by kernel_rfl
theorem gTz : Tryd.prog.globalNamed "math/bits.deBruijn64tab" = some 5 := by kernel_rfl
theorem gESt : (Tryd.prog.globals[0]?).map (·.type) = some 49 := by kernel_rfl
theorem gERt : (Tryd.prog.globals[1]?).map (·.type) = some 49 := by kernel_rfl
theorem gTzt : (Tryd.prog.globals[5]?).map (·.type) = some 107 := by kernel_rfl
theorem gPowt : (Tryd.prog.globals[2]?).map (·.type) = some 94 := by kernel_rfl
theorem cellsES : Tryd.prog.cellsOf 102 = 1 := by kernel_rfl
theorem cellsStr : Tryd.prog.cellsOf 9 = 1 := by kernel_rfl
theorem starES : "*" ++ "errors.errorString" = "*errors.errorString" := by decide
theorem rowES (u : TypeId) (h : Tryd.prog.typeName? 3 u = some "*errors.errorString") : u = 100 :=
  typeName_ptr_named (nm := "errors.errorString") (by rw [starES]; kernel_rfl) (by kernel_rfl) (by decide) u (by rw [starES]; exact h)

def tz64 : List Int := [0, 1, 56, 2, 57, 49, 28, 3, 61, 58, 42, 50, 38, 29, 17, 4, 62, 47, 59, 36, 45, 43, 51, 22, 53, 39, 33, 30, 24, 18, 12, 5, 63, 55, 48, 27, 60, 41, 37, 16, 46, 35, 44, 21, 52, 32, 23, 11, 54, 26, 40, 15, 34, 20, 31, 10, 25, 14, 19, 9, 13, 8, 7, 6]

theorem ready_of_laid {w : World} (h : laidMet Tryd.prog Rows.runesLookRow.laid w) : Ready w := by
  have h1 : laidMet Tryd.prog [("math/bits.deBruijn32tab", Rows.laid_math_bits_deBruijn32tab), ("math/bits.deBruijn64tab", Lib.tabData .u8 tz64), ("internal/strconv.uint64pow10", Lib.tabData .u64 Lib.pow10Tab), ("strconv.ErrRange", Rows.laid_strconv_ErrRange), ("strconv.ErrSyntax", Rows.laid_strconv_ErrSyntax)] w := h
  have ht := Lib.tabIs_of_head gTz gTzt Tryd.underlying107 Tryd.underlying5 (by kernel_rfl) (by kernel_rfl) h1.tail
  have hp := Lib.tabIs_of_head gPow gPowt Tryd.underlying94 Tryd.underlying53 (by kernel_rfl) (by kernel_rfl) h1.tail.tail
  obtain ⟨a0, s0, hv0, -, -, -⟩ := laid_sentinel h1.tail.tail.tail gER gERt Tryd.underlying49 rowES Tryd.underlying100 Tryd.underlying102 rfl rfl Tryd.underlying9 cellsES cellsStr
  obtain ⟨a1, s1, hv1, -, -, -⟩ := laid_sentinel h1.tail.tail.tail.tail gES gESt Tryd.underlying49 rowES Tryd.underlying100 Tryd.underlying102 rfl rfl Tryd.underlying9 cellsES cellsStr
  refine ⟨?_, hp, ⟨100, .pointer (some a1), ?_⟩, ⟨100, .pointer (some a0), ?_⟩⟩
  · exact ht.cell gTz 15 (by decide)
  · have := World.var?_cell gES hv1 0; simpa using this
  · have := World.var?_cell gER hv0 0; simpa using this

def tz32 : List Int := [0, 1, 28, 2, 29, 14, 24, 3, 30, 22, 20, 15, 25, 17, 4, 8, 31, 27, 13, 23, 21, 19, 16, 7, 26, 12, 18, 6, 11, 5, 10, 9]
abbrev synS : ByteArray := { data := #[105, 110, 118, 97, 108, 105, 100, 32, 115, 121, 110, 116, 97, 120] }
abbrev rngS : ByteArray := { data := #[118, 97, 108, 117, 101, 32, 111, 117, 116, 32, 111, 102, 32, 114, 97, 110, 103, 101] }
/-- So many blocks has the settled world. -/
noncomputable def low : Nat := (World.holding Tryd.prog default ⟨#[], #[], []⟩).heap.size
def setBlock (h : Array Obj) (g : Nat) (cs : Array Value) : Array Obj := h.modify g fun
  | .cells _ t frozen => .cells cs t frozen
  | o => o
def intCells (k : IntKind) (zs : List Int) : Array Value := (zs.map fun z => Value.int k z).toArray
/-- The settled world with two blocks more, each an errorString; the listed variables as their initialisers lay them. -/
noncomputable def laidWorld (os : Os) : World :=
  let w0 := World.holding Tryd.prog os ⟨#[.cells #[.string synS] 102, .cells #[.string rngS] 102], #[], []⟩
  { w0 with heap := setBlock (setBlock (setBlock (setBlock (setBlock w0.heap 0 #[.iface 100 (.pointer (some ⟨low, 0, none⟩))]) 1 #[.iface 100 (.pointer (some ⟨low + 1, 0, none⟩))])
      2 (intCells .u64 Lib.pow10Tab)) 4 (intCells .u8 tz32)) 5 (intCells .u8 tz64) }

set_option maxRecDepth 100000 in
theorem laidWorld_met (os : Os) (args : Array Value) : laidMet Tryd.prog Rows.runesLookRow.laid ((laidWorld os).forCall (fun _ _ => 0) ⟨#[], args, []⟩).memory :=
  laidMet_of_run3 8 (by kernel_rfl) (by kernel_rfl) (by kernel_rfl)

end Go.Proofs.YtlenlopeakmplaaDoor
