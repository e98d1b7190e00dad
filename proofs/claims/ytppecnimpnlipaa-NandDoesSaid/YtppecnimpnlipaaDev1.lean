/-
  CONTRACTS of package nand: block, and what is looked at (Marked, Next, Wear, Ops, Down, Sides, Power); of a nil device, too.
-/
import Derived.Test.YtppecnimpnlipaaDev
import Derived.Test.YtppecnimpnlipaaMid
namespace Go.Proofs.Ytppecnimpnlipaa
open Go.RowKit

theorem i64w {n : Int} (h : -9223372036854775808 ≤ n ∧ n ≤ 9223372036854775807) : wrap64 n = n := by unfold wrap64; omega

/-- A result that lies in a cell of its own. -/
theorem results_cell1 {fn : Func} {p : Tmp} {ty : TypeId} (h : fn.results = #[.cell p ty]) (tmps : Array Value) (P : Program) (w : World) :
    (results fn tmps).run P w = ((asAddr (tmps.getD p undef)).run P w).andThen fun a w₁ => (loadVar ty a).run P w₁ := by
  simp only [results, h]
  simp [Sem.run_bind, Result.andThen]

theorem block_nil (z : Int) (w : World) : Calls Try.prog 47 #[.pointer none, .int .i64 z] w fun e w' => e = .returned (.pointer none) ∧ w = w' := by
  go_enter Try.func47, Try.ntmps47
  go_wp2
  go_ret
  exact ⟨rfl, rfl⟩

section
variable {w : World} {B0 B : Nat} {D : Dv} {k kb kp km : Nat}
theorem block_none (h : DevAt w B0 B D k kb kp km) (z : Int) (hz : ¬ (0 ≤ z ∧ z < (D.nb : Int))) : Calls Try.prog 47 #[.pointer (some ⟨k, 0, none⟩), .int .i64 z] w fun e w' => e = .returned (.pointer none) ∧ w = w' := by
  have c3 := h.c3
  clear h
  generalize D.nb = n at *
  by_cases h0 : z < 0
  · clear hz
    go_enter Try.func47, Try.ntmps47
    go_wp2
    go_ret
    exact ⟨rfl, rfl⟩
  · have h1 : (n : Int) ≤ z := by omega
    clear hz
    go_enter Try.func47, Try.ntmps47
    go_wp2
    go_ret
    exact ⟨rfl, rfl⟩
theorem block_some (h : DevAt w B0 B D k kb kp km) (i : Nat) (hi : i < D.nb) : Calls Try.prog 47 #[.pointer (some ⟨k, 0, none⟩), .int .i64 (i : Int)] w fun e w' => e = .returned (.pointer (some ⟨kb, i * 3, none⟩)) ∧ w = w' := by
  have c3 := h.c3
  clear h
  generalize D.nb = n at *
  have h0 : ¬ (i : Int) < 0 := by omega
  have h1 : ¬ (n : Int) ≤ (i : Int) := by omega
  have h2 : (i : Int) < (n : Int) := by omega
  clear hi
  go_enter Try.func47, Try.ntmps47
  go_wp2
  go_ret
  exact ⟨rfl, rfl⟩

theorem marked_none (h : DevAt w B0 B D k kb kp km) (z : Int) (hz : ¬ (0 ≤ z ∧ z < (D.nb : Int))) : Calls Try.prog 42 #[.pointer (some ⟨k, 0, none⟩), .int .i64 z] w fun e w' => e = .returned (.bool false) ∧ w = w' := by
  have fb := block_none h z hz
  clear h hz
  go_enter Try.func42, Try.ntmps42
  go_wp2_with (go_at_call 47; (with_reducible refine fb.mono ?_); rintro e w2 ⟨rfl, rfl⟩; clear fb)
  go_ret
  exact ⟨rfl, rfl⟩
theorem marked_some (h : DevAt w B0 B D k kb kp km) (i : Nat) (hi : i < D.nb) : Calls Try.prog 42 #[.pointer (some ⟨k, 0, none⟩), .int .i64 (i : Int)] w fun e w' => e = .returned (.bool (D.bad i)) ∧ w = w' := by
  have fb := block_some h i hi
  have c := h.b0 hi
  clear h
  go_enter Try.func42, Try.ntmps42
  go_wp2_with (go_at_call 47; (with_reducible refine fb.mono ?_); rintro e w2 ⟨rfl, rfl⟩; clear fb)
  go_ret
  exact ⟨rfl, rfl⟩

theorem next_none (h : DevAt w B0 B D k kb kp km) (z : Int) (hz : ¬ (0 ≤ z ∧ z < (D.nb : Int))) : Calls Try.prog 43 #[.pointer (some ⟨k, 0, none⟩), .int .i64 z] w fun e w' => e = .returned (.int .i64 0) ∧ w = w' := by
  have fb := block_none h z hz
  clear h hz
  go_enter Try.func43, Try.ntmps43
  go_wp2_with (go_at_call 47; (with_reducible refine fb.mono ?_); rintro e w2 ⟨rfl, rfl⟩; clear fb)
  go_ret
  exact ⟨rfl, rfl⟩
theorem next_some (h : DevAt w B0 B D k kb kp km) (i : Nat) (hi : i < D.nb) : Calls Try.prog 43 #[.pointer (some ⟨k, 0, none⟩), .int .i64 (i : Int)] w fun e w' => e = .returned (.int .i64 (D.nx i : Int)) ∧ w = w' := by
  have fb := block_some h i hi
  have c := h.b1 hi
  clear h
  go_enter Try.func43, Try.ntmps43
  go_wp2_with (go_at_call 47; (with_reducible refine fb.mono ?_); rintro e w2 ⟨rfl, rfl⟩; clear fb)
  go_ret
  exact ⟨rfl, rfl⟩

theorem wear_none (h : DevAt w B0 B D k kb kp km) (z : Int) (hz : ¬ (0 ≤ z ∧ z < (D.nb : Int))) : Calls Try.prog 59 #[.pointer (some ⟨k, 0, none⟩), .int .i64 z] w fun e w' => e = .returned (.int .i64 0) ∧ w = w' := by
  have fb := block_none h z hz
  clear h hz
  go_enter Try.func59, Try.ntmps59
  go_wp2_with (go_at_call 47; (with_reducible refine fb.mono ?_); rintro e w2 ⟨rfl, rfl⟩; clear fb)
  go_ret
  exact ⟨rfl, rfl⟩
theorem wear_some (h : DevAt w B0 B D k kb kp km) (i : Nat) (hi : i < D.nb) : Calls Try.prog 59 #[.pointer (some ⟨k, 0, none⟩), .int .i64 (i : Int)] w fun e w' => e = .returned (.int .i64 (D.we i : Int)) ∧ w = w' := by
  have fb := block_some h i hi
  have c := h.b2 hi
  clear h
  go_enter Try.func59, Try.ntmps59
  go_wp2_with (go_at_call 47; (with_reducible refine fb.mono ?_); rintro e w2 ⟨rfl, rfl⟩; clear fb)
  go_ret
  exact ⟨rfl, rfl⟩

theorem ops_any (h : DevAt w B0 B D k kb kp km) : Calls Try.prog 44 #[.pointer (some ⟨k, 0, none⟩)] w fun e w' => e = .returned (.int .i64 (D.ops : Int)) ∧ w = w' := by
  have c := h.c6
  clear h
  go_enter Try.func44, Try.ntmps44
  go_wp2
  go_ret
  exact ⟨rfl, rfl⟩

theorem down_any (h : DevAt w B0 B D k kb kp km) : Calls Try.prog 41 #[.pointer (some ⟨k, 0, none⟩)] w fun e w' => e = .returned (.bool D.dn) ∧ w = w' := by
  have c := h.c7
  clear h
  go_enter Try.func41, Try.ntmps41
  go_wp2
  go_ret
  exact ⟨rfl, rfl⟩

theorem infoG : (Try.prog.info? 23).map (·.size) = some 3 := by kernel_rfl
theorem sides_any (h : DevAt w B0 B D k kb kp km) : Calls Try.prog 12 #[.pointer (some ⟨k, 0, none⟩)] w fun e w' => e = .returned D.g.val ∧ Below w.heap.size w w' := by
  have R := World.rangeAt_alloc h.range (.cells #[.int .i64 0, .int .i64 0, .int .i64 0] 23)
  have Hb := hide (fun o => (Below.refl w.heap.size w).alloc (Nat.le_refl _) o)
  clear h
  unfold Gm.val Gm.cells at *
  go_enter Try.func12, Try.ntmps12
  go_wp2_with (with_reducible refine wpl_load_mid rfl 23 (.tmp 8) rfl k 0 _ R rfl _ Try.underlying23 rfl 3 infoG (by with_unfolding_all rfl) ?_)
  refine bodyPost_ret (v := .agg #[.int .i64 D.g.b, .int .i64 D.g.p, .int .i64 D.g.r]) ?_ rfl ⟨rfl, ?_⟩
  · rw [results_cell1 rfl]
    go_simp
  · repeat (refine Below.setCell ?_ (by simp) _)
    exact Hb.out _

theorem power_any (h : DevAt w B0 B D k kb kp km) (hB : B ≤ w.heap.size) : Calls Try.prog 19 #[.pointer (some ⟨k, 0, none⟩)] w fun e w' => e = .returned (.tuple #[]) ∧ DevAt w' B0 B { D with dn := false } k kb kp km ∧ Tch [k, kb, kp] w w' := by
  have c7 := h.c7
  have f7 := h.f 7
  have Hn := hide (h.set_down hB false)
  clear h
  go_enter Try.func19, Try.ntmps19
  go_wp2
  go_end0
  exact ⟨rfl, Hn.out, Tch.set (by simp) _⟩
end

theorem marked_nil (z : Int) (w : World) : Calls Try.prog 42 #[.pointer none, .int .i64 z] w fun e w' => e = .returned (.bool false) ∧ w = w' := by
  have fb := block_nil z w
  go_enter Try.func42, Try.ntmps42
  go_wp2_with (go_at_call 47; (with_reducible refine fb.mono ?_); rintro e w2 ⟨rfl, rfl⟩; clear fb)
  go_ret
  exact ⟨rfl, rfl⟩
theorem next_nil (z : Int) (w : World) : Calls Try.prog 43 #[.pointer none, .int .i64 z] w fun e w' => e = .returned (.int .i64 0) ∧ w = w' := by
  have fb := block_nil z w
  go_enter Try.func43, Try.ntmps43
  go_wp2_with (go_at_call 47; (with_reducible refine fb.mono ?_); rintro e w2 ⟨rfl, rfl⟩; clear fb)
  go_ret
  exact ⟨rfl, rfl⟩
theorem wear_nil (z : Int) (w : World) : Calls Try.prog 59 #[.pointer none, .int .i64 z] w fun e w' => e = .returned (.int .i64 0) ∧ w = w' := by
  have fb := block_nil z w
  go_enter Try.func59, Try.ntmps59
  go_wp2_with (go_at_call 47; (with_reducible refine fb.mono ?_); rintro e w2 ⟨rfl, rfl⟩; clear fb)
  go_ret
  exact ⟨rfl, rfl⟩
theorem ops_nil (w : World) : Calls Try.prog 44 #[.pointer none] w fun e w' => e = .returned (.int .i64 0) ∧ w = w' := by
  go_enter Try.func44, Try.ntmps44
  go_wp2
  go_ret
  exact ⟨rfl, rfl⟩
theorem down_nil (w : World) : Calls Try.prog 41 #[.pointer none] w fun e w' => e = .returned (.bool false) ∧ w = w' := by
  go_enter Try.func41, Try.ntmps41
  go_wp2
  go_ret
  exact ⟨rfl, rfl⟩
theorem sides_nil (w : World) : Calls Try.prog 12 #[.pointer none] w fun e w' => e = .returned (.agg #[.int .i64 0, .int .i64 0, .int .i64 0]) ∧ Below w.heap.size w w' := by
  have Hb := hide (fun o => (Below.refl w.heap.size w).alloc (Nat.le_refl _) o)
  go_enter Try.func12, Try.ntmps12
  go_wp2
  refine bodyPost_ret (v := .agg #[.int .i64 0, .int .i64 0, .int .i64 0]) ?_ rfl ⟨rfl, ?_⟩
  · rw [results_cell1 rfl]
    go_simp
  · repeat (refine Below.setCell ?_ (by simp) _)
    exact Hb.out _
theorem power_nil (w : World) : Calls Try.prog 19 #[.pointer none] w fun e w' => e = .returned (.tuple #[]) ∧ w = w' := by
  go_enter Try.func19, Try.ntmps19
  go_wp2
  go_end0
  exact ⟨rfl, rfl⟩

end Go.Proofs.Ytppecnimpnlipaa
