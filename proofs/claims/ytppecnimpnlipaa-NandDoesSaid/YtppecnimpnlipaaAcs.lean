/-
  CALLS that came in to the laws of layer 14; texts made.
-/
import Derived.Test.YtppecnimpnlipaaPlan
import Derived.Test.YtppecnimpnlipaaGeoP
import Derived.Test.YtppecnimpnlipaaBig
import Derived.Deep.DeepCutAuto
namespace Go.Proofs.Ytppecnimpnlipaa
open Go.RowKit
open Go.Sort

/-- A call that came in. -/
structure Ac where
  kind : Int
  x : Int
  y : Int
  A : Option Addr
  n : Nat
  c : Nat
  m : List UInt8
def Ac.cells (a : Ac) : List Value := [.int .i64 a.kind, .int .i64 a.x, .int .i64 a.y, .slice a.A a.n a.c]
theorem Ac.cells_len (a : Ac) : a.cells.length = 4 := rfl
structure Ac.Ok (w : World) (B : Nat) (a : Ac) : Prop where
  lies : Lies w B a.A (bys a.m)
  len : a.n = a.m.length
theorem Ac.Ok.below {w w' : World} {B : Nat} {a : Ac} (h : a.Ok w B) (hb : Below B w w') : a.Ok w' B := ⟨h.lies.below hb, h.len⟩

theorem infoStr : (Try.prog.info? 9).map (fun i => (i.zero, i.size, i.bytes)) = some (some (.string ⟨#[]⟩), 1, 16) := by kernel_rfl
theorem make_strs (w : World) (n : Nat) (hn : n ≤ 1088) :
    (Instr.makeSlice 43 (.int .i64 (n : Int)) (.int .i64 (n : Int))).run Try.prog w = .ok (.slice (some ⟨w.heap.size, 0, none⟩) n n) (w.alloc (.cells (madeCells #[.string ⟨#[]⟩] n) 9)) ∧
      RowF (w.alloc (.cells (madeCells #[.string ⟨#[]⟩] n) 9)) w.heap.size 9 n (fun _ => .string (str [])) := by
  obtain ⟨i0, hi, hz0, hz1, hz2⟩ := info_parts infoStr
  constructor
  · have := run_make (P := Try.prog) w 43 9 i0 _ Try.underlying43 hi hz0 .i64 .i64 (n : Int) (n : Int) (by omega) (Int.le_refl _) (by rw [hz2]; omega) (by omega)
    rw [hz1, Int.toNat_natCast, Nat.mul_one] at this
    exact this
  · refine RowF.new w _ _ _ _ (by rw [size_madeCells]) (fun j hj => ?_)
    rw [made_at _ _ _ hj]
    have h3 : (#[Value.string ⟨#[]⟩] : Array Value).size = 1 := rfl
    rw [h3, Nat.mod_one]
    rfl

theorem infoPlan : (Try.prog.info? 27).map (·.size) = some 5 := by kernel_rfl

end Go.Proofs.Ytppecnimpnlipaa
