/-
  '==' of two first blocks, as the model tells it.
-/
import Derived.Test.YtlbgcbekjjkokaaEidr
namespace Go.Proofs.Ytlbgcbekjjkokaa
open Go.RowKit

/-- The same names; the same first blocks. -/
def Nm.eqB (x y : Nm) : Bool := (x.sch == y.sch) && ((x.name.toList == y.name.toList) && (((x.node : Int) == (y.node : Int)) && ((x.svc : Int) == (y.svc : Int))))
def Pr.eqB (x y : Pr) : Bool :=
  ((x.fl : Int) == (y.fl : Int)) && ((x.crc == y.crc) && (x.dst.eqB y.dst && (x.src.eqB y.src && (x.rep.eqB y.rep && (((x.time : Int) == (y.time : Int)) && (((x.seq : Int) == (y.seq : Int)) && (((x.life : Int) == (y.life : Int)) && (((x.off : Int) == (y.off : Int)) && ((x.tot : Int) == (y.tot : Int))))))))))

theorem eqN (d : Nat) (x y : Nm) (w : World) : (Op.equalIn (d + 2) 24 (.agg #[.int .i64 x.sch, .string x.name, .int .u64 (x.node : Int), .int .u64 (x.svc : Int)]) (.agg #[.int .i64 y.sch, .string y.name, .int .u64 (y.node : Int), .int .u64 (y.svc : Int)])).run Try.prog w = .ok (x.eqB y) w := by
  have u3 := Try.underlying3
  have u9 := Try.underlying9
  have u22 := Try.underlying22
  have hS : Try.prog.underlying 24 = some (.struct (Try.prog.fieldsOf 24)) := by kernel_rfl
  have hp : Try.prog.stoodInHeld 24 = false := by kernel_rfl
  rcases x with ⟨a, b, c, e⟩
  rcases y with ⟨a', b', c', e'⟩
  unfold Nm.eqB
  rw [run_equalIn_agg w (d + 1) 24 _ _ hS hp]
  simp only [Program.fieldsOf, Try.underlying24]
  go_simp
  by_cases h1 : a = a' <;> by_cases h2 : b.toList = b'.toList <;> by_cases h3 : (c : Int) = c' <;> by_cases h4 : (e : Int) = e' <;> simp [h1, h2, h3, h4]

set_option maxHeartbeats 2000000 in

theorem eqF_and {P : Program} {d : Nat} {xs ys : Array Value} {f : Field} {fs : List Field} {w : World} {a b : Value} {r s : Bool} (hn : f.name ≠ "_") (ha : (part f.type xs f.offset).run P w = .ok a w) (hb : (part f.type ys f.offset).run P w = .ok b w)
    (hr : (Op.equalIn d f.type a b).run P w = .ok r w) (hs : (Op.eqFields d xs ys fs).run P w = .ok s w) : (Op.eqFields d xs ys (f :: fs)).run P w = .ok (r && s) w := by
  simp only [Op.eqFields, if_pos hn, Sem.run_bind, ha, hb, hr, Result.andThen_ok]
  cases r
  · simp
  · simp [hs]
theorem eqF_nil {P : Program} {d : Nat} {xs ys : Array Value} {w : World} : (Op.eqFields d xs ys []).run P w = .ok true w := by simp [Op.eqFields]
theorem eqI (d : Nat) (a b : Nat) (w : World) : (Op.equalIn (d + 1) 22 (.int .u64 (a : Int)) (.int .u64 (b : Int))).run Try.prog w = .ok ((a : Int) == (b : Int)) w := run_equalIn_int w d _ _ _ _ _ Try.underlying22
theorem eqI3 (d : Nat) (a b : Int) (w : World) : (Op.equalIn (d + 1) 3 (.int .i64 a) (.int .i64 b)).run Try.prog w = .ok (a == b) w := run_equalIn_int w d _ _ _ _ _ Try.underlying3
theorem eqS (d : Nat) (a b a' b' : Nat) (w : World) : (Op.equalIn (d + 2) 26 (.agg #[.int .u64 (a : Int), .int .u64 (b : Int)]) (.agg #[.int .u64 (a' : Int), .int .u64 (b' : Int)])).run Try.prog w = .ok (((a : Int) == (a' : Int)) && (((b : Int) == (b' : Int)) && true)) w := by
  have hS2 : Try.prog.underlying 26 = some (.struct (Try.prog.fieldsOf 26)) := by kernel_rfl
  have hp2 : Try.prog.stoodInHeld 26 = false := by kernel_rfl
  rw [run_equalIn_agg w (d + 1) 26 _ _ hS2 hp2]
  simp only [Program.fieldsOf, Try.underlying26]
  clear hS2
  exact eqF_and (by decide) (by go_simp) (by go_simp) (eqI d a a' w) (eqF_and (by decide) (by go_simp) (by go_simp) (eqI d b b' w) eqF_nil)

set_option maxRecDepth 100000 in
theorem eq28d (d : Nat) (x y : Pr) (w : World) : (Op.equalIn (d + 4) 28 x.val y.val).run Try.prog w = .ok (x.eqB y) w := by
  have hS : Try.prog.underlying 28 = some (.struct (Try.prog.fieldsOf 28)) := by kernel_rfl
  have hp : Try.prog.stoodInHeld 28 = false := by kernel_rfl
  have hres : x.eqB y = (((x.fl : Int) == (y.fl : Int)) && ((x.crc == y.crc) && (x.dst.eqB y.dst && (x.src.eqB y.src && (x.rep.eqB y.rep && ((((x.time : Int) == (y.time : Int)) && (((x.seq : Int) == (y.seq : Int)) && true)) && (((x.life : Int) == (y.life : Int)) && (((x.off : Int) == (y.off : Int)) && (((x.tot : Int) == (y.tot : Int)) && true))))))))) := by
    unfold Pr.eqB; simp only [Bool.and_true, Bool.and_assoc]
  rw [hres]
  unfold Pr.val Pr.cells
  rw [run_equalIn_agg w (d + 3) 28 _ _ hS hp]
  simp only [Program.fieldsOf, Try.underlying28]
  clear hS
  exact eqF_and (by decide) (by go_simp) (by go_simp) (eqI (d + 2) x.fl y.fl w)
    (eqF_and (by decide) (by go_simp) (by go_simp) (eqI3 (d + 2) x.crc y.crc w)
    (eqF_and (by decide) (by go_simp) (by go_simp) (eqN (d + 1) x.dst y.dst w)
    (eqF_and (by decide) (by go_simp) (by go_simp) (eqN (d + 1) x.src y.src w)
    (eqF_and (by decide) (by go_simp) (by go_simp) (eqN (d + 1) x.rep y.rep w)
    (eqF_and (by decide) (by go_simp) (by go_simp) (eqS (d + 1) x.time x.seq y.time y.seq w)
    (eqF_and (by decide) (by go_simp) (by go_simp) (eqI (d + 2) x.life y.life w)
    (eqF_and (by decide) (by go_simp) (by go_simp) (eqI (d + 2) x.off y.off w)
    (eqF_and (by decide) (by go_simp) (by go_simp) (eqI (d + 2) x.tot y.tot w) eqF_nil))))))))

theorem eq28 (x y : Pr) (w : World) : (binOp .eql 28 x.val y.val).run Try.prog w = .ok (.bool (x.eqB y)) w := by
  unfold Pr.val
  rw [run_eql_struct, show (10000 : Nat) = 9996 + 4 from rfl]
  rw [show (Op.equalIn (9996 + 4) 28 (.agg x.cells.toArray) (.agg y.cells.toArray)).run Try.prog w = .ok (x.eqB y) w from eq28d 9996 x y w]
  rfl

theorem Nm.eqB_iff (x y : Nm) : x.eqB y = true ↔ x = y := by
  unfold Nm.eqB
  rcases x with ⟨a, b, c, e⟩
  rcases y with ⟨a', b', c', e'⟩
  simp only [Bool.and_eq_true, beq_iff_eq, Nm.mk.injEq]
  have : b.toList = b'.toList ↔ b = b' := by
    rw [ByteArray.toList_eq, ByteArray.toList_eq]
    exact ⟨fun h => ByteArray.ext (Array.toList_inj.1 h), fun h => by rw [h]⟩
  rw [this]
  constructor
  · rintro ⟨h1, h2, h3, h4⟩
    exact ⟨h1, h2, by omega, by omega⟩
  · rintro ⟨h1, h2, h3, h4⟩
    exact ⟨h1, h2, by omega, by omega⟩
theorem Pr.eqB_iff (x y : Pr) : x.eqB y = true ↔ x = y := by
  unfold Pr.eqB
  rcases x with ⟨fl, crc, d, s, r, time, seq, life, off, tot⟩
  rcases y with ⟨fl', crc', d', s', r', time', seq', life', off', tot'⟩
  simp only [Bool.and_eq_true, beq_iff_eq, Pr.mk.injEq, Nm.eqB_iff]
  constructor
  · rintro ⟨h1, h2, h3, h4, h5, h6, h7, h8, h9, h10⟩
    exact ⟨by omega, h2, h3, h4, h5, by omega, by omega, by omega, by omega, by omega⟩
  · rintro ⟨h1, h2, h3, h4, h5, h6, h7, h8, h9, h10⟩
    exact ⟨by omega, h2, h3, h4, h5, by omega, by omega, by omega, by omega, by omega⟩

end Go.Proofs.Ytlbgcbekjjkokaa
