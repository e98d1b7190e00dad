/-
  ScanBlocks: for every plan, every row of pages laid, and every number of a block, the law of blocks that are marked, blank, and of their finds answers true, and its arguments read afterwards as they read before. No condition.
-/
import Derived.Test.YtahipfmokbiklaaScY
import Derived.Test.YtahipfmokbiklaaScO
import Derived.Test.YtahipfmokbiklaaOpnN
namespace Go.Proofs.Ytahipfmokbiklaa
open Go.ChangeShapes Go.WideShapes Go.ChangeAt Go.RowKit Go.Joins Go.Deep

theorem scanBlocks_any (q : Pn) (A : Option Addr) (n c : Nat) (al : List Ly) (b : Int) (w : World) (hq : q.Ok w w.heap.size) (hA : Lies w w.heap.size A (al.flatMap Ly.cells)) (hn : n = al.length) (hb : i64s_ok b) :
    Calls Try.prog 4 #[q.val, .slice A n c, .int .i64 b] w fun e w' => e = .returned (.bool true) ∧ Below w.heap.size w w' := by
  by_cases h : q.light = true ∧ q.g.Right
  · exact scanBlocks_on q A n c al b w hq h.1 h.2 hA hn hb
  · exact scanBlocks_off q A n c b w hq h

set_option maxRecDepth 100000 in
theorem scanBlocks_lifted (os : Os) (started : os.Started) (H : Type) (enc : TypeId × Value → H) :
    ReturnsInHanded {} Try.checked os 4 .any (Rows.scanBlocksSpec.pre6 enc Try.prog Try.f4 Rows.scanBlocksRow.domain false) (Rows.scanBlocksSpec.post enc Try.prog Try.f4 false true false false) := by
  refine returnsInHanded_of_change (C := Try.checked) Try.own started (by kernel_rfl) Try.func4
    (ChangeSpec.witness6 (enc := enc) (C := Try.checked) false ⟨#[], #[.agg #[.int .i64 0, .int .i64 0, .int .i64 0, .slice none 0 0, .slice none 0 0], .slice none 0 0, .int .i64 0], []⟩ 8 (by kernel_rfl) (by kernel_rfl) (by kernel_rfl) (by kernel_rfl)) ?_
  intro W base args ds gs before hval0 hW hcnd _
  have hval : ∀ (j : Nat) t v, Try.f4.params[j]? = some t → args[j]? = some v → Value.okWide Try.prog W .any base t v := hval0
  have hW' := hW
  obtain ⟨p, q, hA0, hV, rfl, hfz, hnd⟩ := hW
  have hA : DataW.TrodAll enc Try.prog W 0 (fun _ => true) true Try.f4.params.toList args.toList ds p := hA0
  rw [Try.params4] at hA hval
  obtain ⟨v0, v1, v2, d0, d1, d2, p0, p1, p2, rfl, rfl, rfl, h0, h1, h2⟩ := trodAll_three hA
  obtain ⟨rfl, rfl⟩ := trodVars_none hV
  obtain ⟨cs0, rfl, _⟩ := okWide_struct Try.underlying27 (hval 0 _ v0 rfl rfl)
  obtain ⟨fuel0, h0⟩ := h0
  obtain ⟨pl, e0, hpl⟩ := open_plan h0
  have hcs0 : cs0 = pl.cells.toArray := by simpa [Value.cells] using congrArg List.toArray e0
  subst hcs0
  obtain ⟨fuel1, h1⟩ := h1
  obtain ⟨A1, m1, c1, l1, e1, hl1, hm1⟩ := open_lays h1
  obtain rfl : v1 = .slice A1 m1 c1 := slice_of_cells (hval 1 _ v1 rfl rfl) Try.underlying28 e1
  obtain ⟨fuel2, h2⟩ := h2
  obtain ⟨z2, rfl, rfl, rfl, w2⟩ := open_int Try.underlying3 (hval 2 _ v2 rfl rfl) ⟨fuel2, h2⟩
  have b2 : i64s_ok z2 := by
    simp only [Lit.wf, Bool.and_eq_true, decide_eq_true_eq] at w2
    have k1 : IntKind.i64.min = -9223372036854775808 := by rfl
    have k2 : IntKind.i64.max = 9223372036854775807 := by rfl
    rw [k1, k2] at w2
    exact w2
  have hwalk : Calls Try.prog 4 #[.agg pl.cells.toArray, .slice A1 m1 c1, .int .i64 z2] W fun e w' => e = .returned (.bool true) ∧ Below W.heap.size W w' :=
    scanBlocks_any pl A1 m1 c1 l1 z2 W hpl hl1 hm1 b2
  refine hwalk.mono fun e W' ⟨he, hb⟩ => ⟨_, he, ?_⟩
  exact law_post (tb := 4) Try.laidOut (by kernel_rfl) rfl Try.underlying4 rfl rfl hW' hb

theorem scanBlocks_holds : Rows.ScanBlocksSaid :=
  OpenClaim.holds_of_wide 4 Try.f4 rfl rfl rfl rfl rfl rfl rfl ⟨rfl, rfl, rfl, rfl, rfl⟩ rfl rfl rfl rfl rfl (by kernel_rfl) Try.func4 (by kernel_rfl)
    (of_decide_eq_true (by kernel_rfl)) (by unfold Func.isWrapper; first | (rw [if_pos (by decide +kernel)]; kernel_rfl) | (rw [if_neg (by decide +kernel)]; exact ⟨rfl, rfl⟩))
    (fun os started H enc _ => scanBlocks_lifted os started H enc)

end Go.Proofs.Ytahipfmokbiklaa
