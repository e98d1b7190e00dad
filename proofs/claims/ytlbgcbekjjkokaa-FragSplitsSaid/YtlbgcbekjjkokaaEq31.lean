/-
  THE REFERENCE's Same of bundles (wagtailref11).
-/
import Derived.Test.YtlbgcbekjjkokaaStra
namespace Go.Proofs.Ytlbgcbekjjkokaa
open Go.RowKit

def Bk.eqB (x y : Bk) : Bool := ((x.ty : Int) == (y.ty : Int)) && (((x.num : Int) == (y.num : Int)) && (((x.fl : Int) == (y.fl : Int)) && ((x.crc == y.crc) && (x.data.toList == y.data.toList))))
theorem Bk.eqB_iff (x y : Bk) : x.eqB y = true ↔ x = y := by
  unfold Bk.eqB
  rcases x with ⟨a, b, c, d, e⟩
  rcases y with ⟨a', b', c', d', e'⟩
  simp only [Bool.and_eq_true, beq_iff_eq, Bk.mk.injEq]
  have : e.toList = e'.toList ↔ e = e' := by
    rw [ByteArray.toList_eq, ByteArray.toList_eq]
    exact ⟨fun h => ByteArray.ext (Array.toList_inj.1 h), fun h => by rw [h]⟩
  rw [this]
  constructor
  · rintro ⟨h1, h2, h3, h4, h5⟩
    exact ⟨by omega, by omega, by omega, h4, h5⟩
  · rintro ⟨h1, h2, h3, h4, h5⟩
    exact ⟨by omega, by omega, by omega, h4, h5⟩
theorem eqStr (d : Nat) (a b : ByteArray) (w : World) : (Op.equalIn (d + 1) 9 (.string a) (.string b)).run Try.prog w = .ok (a.toList == b.toList) w := run_equalIn_string w d _ _ _ Try.underlying9
theorem eq31d (d : Nat) (x y : Bk) (w : World) : (Op.equalIn (d + 2) 31 (.agg x.cells.toArray) (.agg y.cells.toArray)).run Try.prog w = .ok (x.eqB y) w := by
  have hS : Try.prog.underlying 31 = some (.struct (Try.prog.fieldsOf 31)) := by kernel_rfl
  have hp : Try.prog.stoodInHeld 31 = false := by kernel_rfl
  have hres : x.eqB y = (((x.ty : Int) == (y.ty : Int)) && (((x.num : Int) == (y.num : Int)) && (((x.fl : Int) == (y.fl : Int)) && ((x.crc == y.crc) && ((x.data.toList == y.data.toList) && true))))) := by
    unfold Bk.eqB; simp only [Bool.and_true]
  rw [hres]
  unfold Bk.cells
  rw [run_equalIn_agg w (d + 1) 31 _ _ hS hp]
  simp only [Program.fieldsOf, Try.underlying31]
  clear hS
  exact eqF_and (by decide) (by go_simp) (by go_simp) (eqI d x.ty y.ty w)
    (eqF_and (by decide) (by go_simp) (by go_simp) (eqI d x.num y.num w)
    (eqF_and (by decide) (by go_simp) (by go_simp) (eqI d x.fl y.fl w)
    (eqF_and (by decide) (by go_simp) (by go_simp) (eqI3 d x.crc y.crc w)
    (eqF_and (by decide) (by go_simp) (by go_simp) (eqStr d x.data y.data w) eqF_nil))))
theorem neq31 (x y : Bk) (w : World) : (binOp .neq 31 (.agg x.cells.toArray) (.agg y.cells.toArray)).run Try.prog w = .ok (.bool (!x.eqB y)) w := by
  rw [run_neq_struct, show (10000 : Nat) = 9998 + 2 from rfl, eq31d 9998 x y w]
  rfl
theorem neq28 (x y : Pr) (w : World) : (binOp .neq 28 (.agg x.cells.toArray) (.agg y.cells.toArray)).run Try.prog w = .ok (.bool (!x.eqB y)) w := by
  rw [run_neq_struct, show (10000 : Nat) = 9996 + 4 from rfl]
  rw [show (Op.equalIn (9996 + 4) 28 (.agg x.cells.toArray) (.agg y.cells.toArray)).run Try.prog w = .ok (x.eqB y) w from eq28d 9996 x y w]
  rfl

end Go.Proofs.Ytlbgcbekjjkokaa
