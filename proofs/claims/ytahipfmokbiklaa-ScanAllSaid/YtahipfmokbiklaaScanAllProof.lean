/-
  ScanAll: for every plan and every row of pages laid, the law of what is found on a device answers true, and its arguments read afterwards as they read before. No condition.
-/
import Derived.Test.YtahipfmokbiklaaScX
import Derived.Test.YtahipfmokbiklaaScO
import Derived.Test.YtahipfmokbiklaaOpnN
namespace Go.Proofs.Ytahipfmokbiklaa
open Go.ChangeShapes Go.WideShapes Go.ChangeAt Go.RowKit Go.Joins Go.Deep

theorem scanAll_any (q : Pn) (A : Option Addr) (n c : Nat) (al : List Ly) (w : World) (hq : q.Ok w w.heap.size) (hA : Lies w w.heap.size A (al.flatMap Ly.cells)) (hn : n = al.length) :
    Calls Try.prog 3 #[q.val, .slice A n c] w fun e w' => e = .returned (.bool true) ∧ Below w.heap.size w w' := by
  by_cases h : q.light = true ∧ q.g.Right
  · exact scanAll_on q A n c al w hq h.1 h.2 hA hn
  · exact scanAll_off q A n c w hq h

set_option maxRecDepth 100000 in
theorem scanAll_lifted (os : Os) (started : os.Started) (H : Type) (enc : TypeId × Value → H) :
    ReturnsInHanded {} Try.checked os 3 .any (Rows.scanAllSpec.pre6 enc Try.prog Try.f3 Rows.scanAllRow.domain false) (Rows.scanAllSpec.post enc Try.prog Try.f3 false true false false) := by
  refine returnsInHanded_of_change (C := Try.checked) Try.own started (by kernel_rfl) Try.func3
    (ChangeSpec.witness6 (enc := enc) (C := Try.checked) false ⟨#[], #[.agg #[.int .i64 0, .int .i64 0, .int .i64 0, .slice none 0 0, .slice none 0 0], .slice none 0 0], []⟩ 8 (by kernel_rfl) (by kernel_rfl) (by kernel_rfl) (by kernel_rfl)) ?_
  intro W base args ds gs before hval0 hW hcnd _
  have hval : ∀ (j : Nat) t v, Try.f3.params[j]? = some t → args[j]? = some v → Value.okWide Try.prog W .any base t v := hval0
  have hW' := hW
  obtain ⟨p, q, hA0, hV, rfl, hfz, hnd⟩ := hW
  have hA : DataW.TrodAll enc Try.prog W 0 (fun _ => true) true Try.f3.params.toList args.toList ds p := hA0
  rw [Try.params3] at hA hval
  obtain ⟨v0, v1, d0, d1, p0, p1, rfl, rfl, rfl, h0, h1⟩ := trodAll_two hA
  obtain ⟨rfl, rfl⟩ := trodVars_none hV
  obtain ⟨cs0, rfl, _⟩ := okWide_struct Try.underlying27 (hval 0 _ v0 rfl rfl)
  obtain ⟨fuel0, h0⟩ := h0
  obtain ⟨pl, e0, hpl⟩ := open_plan h0
  have hcs0 : cs0 = pl.cells.toArray := by simpa [Value.cells] using congrArg List.toArray e0
  subst hcs0
  obtain ⟨fuel1, h1⟩ := h1
  obtain ⟨A1, m1, c1, l1, e1, hl1, hm1⟩ := open_lays h1
  obtain rfl : v1 = .slice A1 m1 c1 := slice_of_cells (hval 1 _ v1 rfl rfl) Try.underlying28 e1
  have hwalk : Calls Try.prog 3 #[.agg pl.cells.toArray, .slice A1 m1 c1] W fun e w' => e = .returned (.bool true) ∧ Below W.heap.size W w' :=
    scanAll_any pl A1 m1 c1 l1 W hpl hl1 hm1
  refine hwalk.mono fun e W' ⟨he, hb⟩ => ⟨_, he, ?_⟩
  exact law_post (tb := 4) Try.laidOut (by kernel_rfl) rfl Try.underlying4 rfl rfl hW' hb

theorem scanAll_holds : Rows.ScanAllSaid :=
  OpenClaim.holds_of_wide 3 Try.f3 rfl rfl rfl rfl rfl rfl rfl ⟨rfl, rfl, rfl, rfl, rfl⟩ rfl rfl rfl rfl rfl (by kernel_rfl) Try.func3 (by kernel_rfl)
    (of_decide_eq_true (by kernel_rfl)) (by unfold Func.isWrapper; first | (rw [if_pos (by decide +kernel)]; kernel_rfl) | (rw [if_neg (by decide +kernel)]; exact ⟨rfl, rfl⟩))
    (fun os started H enc _ => scanAll_lifted os started H enc)

end Go.Proofs.Ytahipfmokbiklaa
