/-
  MirrorWrites: for every plan and every row of tables, the law of package mirror's writes one behind the other answers true, and its arguments read afterwards as they read before. No condition.
-/
import Derived.Test.YtigpplckddnghaaGreatMrG
import Derived.Test.YtigpplckddnghaaGreatOpnN
import Derived.Test.YtigpplckddnghaaGreatOpnM
namespace Go.Proofs.YtigpplckddnghaaGreat
open Go.ChangeShapes Go.WideShapes Go.ChangeAt Go.RowKit Go.Joins Go.Deep

theorem mirrorWrites_any (q : Pn) (A : Option Addr) (n c : Nat) (l : List Tl) (w : World) (hq : q.Ok w w.heap.size) (hA : Lies w w.heap.size A (rowT l)) (hn : n = l.length) (hnc : n ≤ 9223372036854775807) (hok : ∀ x ∈ l, x.Ok w w.heap.size ∧ x.Long) :
    Calls Tryz.prog 4 #[q.val, .slice A n c] w fun e w' => e = .returned (.bool true) ∧ Below w.heap.size w w' := by
  by_cases h : q.light = true ∧ q.g.Right
  · exact mwrites_on q A n c l w hq h.1 h.2 hA hn hnc (fun x hx => (hok x hx).1) (fun x hx => (hok x hx).2)
  · exact mwrites_off q A n c w hq h

set_option maxRecDepth 100000 in
theorem mirrorWrites_lifted (os : Os) (started : os.Started) (H : Type) (enc : TypeId × Value → H) :
    ReturnsInHanded {} Tryz.checked os 4 .any (Rows.mirrorWritesSpec.pre6 enc Tryz.prog Tryz.f4 Rows.mirrorWritesRow.domain false) (Rows.mirrorWritesSpec.post enc Tryz.prog Tryz.f4 false true false false) := by
  refine returnsInHanded_of_change (C := Tryz.checked) Tryz.own started (by kernel_rfl) Tryz.func4
    (ChangeSpec.witness6 (enc := enc) (C := Tryz.checked) false ⟨#[], #[.agg #[.int .i64 0, .int .i64 0, .int .i64 0, .slice none 0 0, .slice none 0 0], .slice none 0 0], []⟩ 8 (by kernel_rfl) (by kernel_rfl) (by kernel_rfl) (by kernel_rfl)) ?_
  intro W base args ds gs before hval0 hW hcnd _
  have hval : ∀ (j : Nat) t v, Tryz.f4.params[j]? = some t → args[j]? = some v → Value.okWide Tryz.prog W .any base t v := hval0
  have hW' := hW
  obtain ⟨p, q, hA0, hV, rfl, hfz, hnd⟩ := hW
  have hA : DataW.TrodAll enc Tryz.prog W 0 (fun _ => true) true Tryz.f4.params.toList args.toList ds p := hA0
  rw [Tryz.params4] at hA hval
  obtain ⟨v0, v1, d0, d1, p0, p1, rfl, rfl, rfl, h0, h1⟩ := trodAll_two hA
  obtain ⟨rfl, rfl⟩ := trodVars_none hV
  obtain ⟨cs0, rfl, _⟩ := okWide_struct Tryz.underlying43 (hval 0 _ v0 rfl rfl)
  obtain ⟨fuel0, h0⟩ := h0
  obtain ⟨pl, e0, hpl⟩ := open_plan h0
  have hcs0 : cs0 = pl.cells.toArray := by simpa [Value.cells] using congrArg List.toArray e0
  subst hcs0
  obtain ⟨fuel1, h1⟩ := h1
  obtain ⟨A1, m1, c1, l1, e1, hl1, hm1, hmc1, hcc1, hok⟩ := open_tables h1
  obtain rfl : v1 = .slice A1 m1 c1 := slice_of_cells (hval 1 _ v1 rfl rfl) Tryz.underlying44 e1
  have hwalk : Calls Tryz.prog 4 #[.agg pl.cells.toArray, .slice A1 m1 c1] W fun e w' => e = .returned (.bool true) ∧ Below W.heap.size W w' :=
    mirrorWrites_any pl A1 m1 c1 l1 W hpl hl1 hm1 (Nat.le_trans hmc1 hcc1) hok
  refine hwalk.mono fun e W' ⟨he, hb⟩ => ⟨_, he, ?_⟩
  exact law_post (tb := 4) Tryz.laidOut (by kernel_rfl) rfl Tryz.underlying4 rfl rfl hW' hb

theorem mirrorWrites_holds : Rows.MirrorWritesSaid :=
  OpenClaim.holds_of_wide 4 Tryz.f4 rfl rfl rfl rfl rfl rfl rfl ⟨rfl, rfl, rfl, rfl, rfl⟩ rfl rfl rfl rfl rfl (by kernel_rfl) Tryz.func4 (by kernel_rfl)
    (of_decide_eq_true (by kernel_rfl)) (by unfold Func.isWrapper; first | (rw [if_pos (by decide +kernel)]; kernel_rfl) | (rw [if_neg (by decide +kernel)]; exact ⟨rfl, rfl⟩))
    (fun os started H enc _ => mirrorWrites_lifted os started H enc)

end Go.Proofs.YtigpplckddnghaaGreat
