/-
  PageTorn: for every head, every text and every row of masks, the law of package page's torn pages answers true, and its arguments read afterwards as they read before. No condition.
-/
import Derived.Test.YtppecnimpnlipaaPgW
import Derived.Test.YtppecnimpnlipaaOpnP
namespace Go.Proofs.Ytppecnimpnlipaa
open Go.ChangeShapes Go.WideShapes Go.ChangeAt Go.RowKit Go.Joins Go.Deep
open Go.ChangeMaps (open_string)

theorem pageTorn_any (h : Hd) (d : List UInt8) (Am : Option Addr) (nm cm : Nat) (ms : List Sl) (w : World) (hM : Lies w w.heap.size Am (ms.flatMap Sl.cells)) (hn : nm = ms.length) (hok : ∀ x ∈ ms, x.Ok w w.heap.size) :
    Calls Try.prog 6 #[h.val, .string (str d), .slice Am nm cm] w fun e w' => e = .returned (.bool true) ∧ Below w.heap.size w w' := by
  by_cases h1 : h.May ∧ (d.length : Int) = h.len ∧ nm ≤ 6
  · exact torn_on h d Am nm cm ms w h1.1 h1.2.1 h1.2.2 hM hn hok
  · exact torn_off h d Am nm cm w h1

set_option maxRecDepth 100000 in
theorem pageTorn_lifted (os : Os) (started : os.Started) (H : Type) (enc : TypeId × Value → H) :
    ReturnsInHanded {} Try.checked os 6 .any (Rows.pageTornSpec.pre6 enc Try.prog Try.f6 Rows.pageTornRow.domain false) (Rows.pageTornSpec.post enc Try.prog Try.f6 false true false false) := by
  refine returnsInHanded_of_change (C := Try.checked) Try.own started (by kernel_rfl) Try.func6
    (ChangeSpec.witness6 (enc := enc) (C := Try.checked) false ⟨#[], #[.agg #[.int .i64 0, .int .i64 0, .int .i64 0, .int .u64 0, .int .u64 0, .int .i64 0, .int .i64 0], .string ⟨#[]⟩, .slice none 0 0], []⟩ 8 (by kernel_rfl) (by kernel_rfl) (by kernel_rfl) (by kernel_rfl)) ?_
  intro W base args ds gs before hval0 hW hcnd _
  have hval : ∀ (j : Nat) t v, Try.f6.params[j]? = some t → args[j]? = some v → Value.okWide Try.prog W .any base t v := hval0
  have hW' := hW
  obtain ⟨p, q, hA0, hV, rfl, hfz, hnd⟩ := hW
  have hA : DataW.TrodAll enc Try.prog W 0 (fun _ => true) true Try.f6.params.toList args.toList ds p := hA0
  rw [Try.params6] at hA hval
  obtain ⟨v0, v1, v2, d0, d1, d2, p0, p1, p2, rfl, rfl, rfl, h0, h1, h2⟩ := trodAll_three hA
  obtain ⟨rfl, rfl⟩ := trodVars_none hV
  obtain ⟨cs0, rfl, _⟩ := okWide_struct Try.underlying57 (hval 0 _ v0 rfl rfl)
  obtain ⟨fuel0, h0⟩ := h0
  obtain ⟨hd, e0⟩ := open_headP h0
  have hcs0 : cs0 = hd.cells.toArray := by simpa [Value.cells] using congrArg List.toArray e0
  subst hcs0
  obtain ⟨s1, rfl, rfl, rfl, hs1⟩ := open_string Try.underlying9 (hval 1 _ v1 rfl rfl) h1
  obtain ⟨fuel2, h2⟩ := h2
  obtain ⟨A2, m2, c2, l2, e2, hl2, hm2, hmc2, hcc2, hok2⟩ := open_masksP h2
  obtain rfl : v2 = .slice A2 m2 c2 := slice_of_cells (hval 2 _ v2 rfl rfl) Try.underlying70 e2
  have hwalk : Calls Try.prog 6 #[.agg hd.cells.toArray, .string s1, .slice A2 m2 c2] W fun e w' => e = .returned (.bool true) ∧ Below W.heap.size W w' := by
    have := pageTorn_any hd s1.data.toList A2 m2 c2 l2 W hl2 hm2 hok2
    rw [← str_of] at this
    exact this
  refine hwalk.mono fun e W' ⟨he, hb⟩ => ⟨_, he, ?_⟩
  exact law_post (tb := 4) Try.laidOut (by kernel_rfl) rfl Try.underlying4 rfl rfl hW' hb

theorem pageTorn_holds : Rows.PageTornSaid :=
  OpenClaim.holds_of_wide 6 Try.f6 rfl rfl rfl rfl rfl rfl rfl ⟨rfl, rfl, rfl, rfl, rfl⟩ rfl rfl rfl rfl rfl (by kernel_rfl) Try.func6 (by kernel_rfl)
    (of_decide_eq_true (by kernel_rfl)) (by unfold Func.isWrapper; first | (rw [if_pos (by decide +kernel)]; kernel_rfl) | (rw [if_neg (by decide +kernel)]; exact ⟨rfl, rfl⟩))
    (fun os started H enc _ => pageTorn_lifted os started H enc)

end Go.Proofs.Ytppecnimpnlipaa
