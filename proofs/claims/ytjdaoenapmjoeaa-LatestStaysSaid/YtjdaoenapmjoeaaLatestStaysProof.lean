/-
  LatestStays: for every row of finds, every list of void batches, and every row of finds more, the law of what changes no version answers true, and its arguments read afterwards as they read before. No condition.
-/
import Derived.Test.YtjdaoenapmjoeaaLtW
import Derived.Test.YtjdaoenapmjoeaaOpnF
import Derived.Test.YtjdaoenapmjoeaaOpen
namespace Go.Proofs.Ytjdaoenapmjoeaa
open Go.ChangeShapes Go.WideShapes Go.ChangeAt Go.RowKit Go.Joins Go.Deep
set_option maxRecDepth 8000

set_option maxHeartbeats 4000000 in
theorem latestStays_off (A A2 A3 : Option Addr) (n c n2 c2 n3 c3 : Nat) (w : World) (h : ¬ ((n ≤ 80 ∧ n2 ≤ 40) ∧ n3 ≤ 20)) :
    Calls Try.prog 3 #[.slice A n c, .slice A2 n2 c2, .slice A3 n3 c3] w fun e w' => e = .returned (.bool true) ∧ Below w.heap.size w w' := by
  have FA := awake19_any
  have FL := light19_any A A2 n c n2 c2 w
  by_cases h1 : n ≤ 80 ∧ n2 ≤ 40
  · rw [decide_eq_true h1] at FL
    have h2 : ¬ n3 ≤ 20 := fun x => h ⟨h1, x⟩
    have g1 : decide ((20 : Int) < (n3 : Int)) = true := decide_eq_true (by omega)
    have g2 : decide (20 < n3) = true := decide_eq_true (by omega)
    clear h h1 h2
    go_enter Try.func3, Try.ntmps3
    go_wp2_with fail
    (with_reducible refine FL.mono ?_)
    rintro e w' ⟨rfl, rfl⟩
    clear FL
    go_wp2_with fail
    (with_reducible refine (FA _).mono ?_)
    rintro e w2 ⟨rfl, hb⟩
    go_wp2
    go_ret
    exact ⟨rfl, hb⟩
  · rw [decide_eq_false h1] at FL
    clear h h1
    go_enter Try.func3, Try.ntmps3
    go_wp2_with fail
    (with_reducible refine FL.mono ?_)
    rintro e w' ⟨rfl, rfl⟩
    clear FL
    go_wp2_with fail
    (with_reducible refine (FA _).mono ?_)
    rintro e w2 ⟨rfl, hb⟩
    go_wp2
    go_ret
    exact ⟨rfl, hb⟩
theorem latestStays_any (A A2 A3 : Option Addr) (n c n2 c2 n3 c3 : Nat) (l more : List Fo) (vs : List Int) (w : World) (hl : Lies w w.heap.size A (rowO l)) (hv : Lies w w.heap.size A2 (nums .u64 vs)) (hm : Lies w w.heap.size A3 (rowO more)) (hn : n = l.length) (hn2 : n2 = vs.length) (hn3 : n3 = more.length) (hok : ∀ f ∈ l, f.Ok) (hokm : ∀ f ∈ more, f.Ok) :
    Calls Try.prog 3 #[.slice A n c, .slice A2 n2 c2, .slice A3 n3 c3] w fun e w' => e = .returned (.bool true) ∧ Below w.heap.size w w' := by
  by_cases h : (n ≤ 80 ∧ n2 ≤ 40) ∧ n3 ≤ 20
  · exact latestStays_on A A2 A3 n c n2 c2 n3 c3 l more vs w hl hv hm hn hn2 hn3 hok hokm h.1.1 h.1.2 h.2
  · exact latestStays_off A A2 A3 n c n2 c2 n3 c3 w h

set_option maxRecDepth 100000 in
theorem latestStays_lifted (os : Os) (started : os.Started) (H : Type) (enc : TypeId × Value → H) :
    ReturnsInHanded {} Try.checked os 3 .any (Rows.latestStaysSpec.pre6 enc Try.prog Try.f3 Rows.latestStaysRow.domain false) (Rows.latestStaysSpec.post enc Try.prog Try.f3 false true false false) := by
  refine returnsInHanded_of_change (C := Try.checked) Try.own started (by kernel_rfl) Try.func3
    (ChangeSpec.witness6 (enc := enc) (C := Try.checked) false ⟨#[], #[.slice none 0 0, .slice none 0 0, .slice none 0 0], []⟩ 8 (by kernel_rfl) (by kernel_rfl) (by kernel_rfl) (by kernel_rfl)) ?_
  intro W base args ds gs before hval0 hW hcnd _
  have hval : ∀ (j : Nat) t v, Try.f3.params[j]? = some t → args[j]? = some v → Value.okWide Try.prog W .any base t v := hval0
  have hW' := hW
  obtain ⟨p, q, hA0, hV, rfl, hfz, hnd⟩ := hW
  have hA : DataW.TrodAll enc Try.prog W 0 (fun _ => true) true Try.f3.params.toList args.toList ds p := hA0
  rw [Try.params3] at hA hval
  obtain ⟨v0, v1, v2, d0, d1, d2, p0, p1, p2, rfl, rfl, rfl, h0, h1, h2⟩ := trodAll_three hA
  obtain ⟨rfl, rfl⟩ := trodVars_none hV
  obtain ⟨fuel0, h0⟩ := h0
  obtain ⟨A0, m0, c0, l0, e0, hl0, hm0, _, _, hok0⟩ := open_finds h0
  obtain rfl : v0 = .slice A0 m0 c0 := slice_of_cells (hval 0 _ v0 rfl rfl) Try.underlying22 e0
  obtain ⟨fuel1, h1⟩ := h1
  obtain ⟨A1, m1, c1, l1, e1, hl1, hm1, _, _, _⟩ := open_u64sR h1
  obtain rfl : v1 = .slice A1 m1 c1 := slice_of_cells (hval 1 _ v1 rfl rfl) Try.underlying23 e1
  obtain ⟨fuel2, h2⟩ := h2
  obtain ⟨A2, m2, c2, l2, e2, hl2, hm2, _, _, hok2⟩ := open_finds h2
  obtain rfl : v2 = .slice A2 m2 c2 := slice_of_cells (hval 2 _ v2 rfl rfl) Try.underlying22 e2
  have hwalk : Calls Try.prog 3 #[.slice A0 m0 c0, .slice A1 m1 c1, .slice A2 m2 c2] W fun e w' => e = .returned (.bool true) ∧ Below W.heap.size W w' :=
    latestStays_any A0 A1 A2 m0 c0 m1 c1 m2 c2 l0 l2 l1 W hl0 hl1 hl2 hm0 hm1 hm2 hok0 hok2
  refine hwalk.mono fun e W' ⟨he, hb⟩ => ⟨_, he, ?_⟩
  exact law_post (tb := 4) Try.laidOut (by kernel_rfl) rfl Try.underlying4 rfl rfl hW' hb

theorem latestStays_holds : Rows.LatestStaysSaid :=
  OpenClaim.holds_of_wide 3 Try.f3 rfl rfl rfl rfl rfl rfl rfl ⟨rfl, rfl, rfl, rfl, rfl⟩ rfl rfl rfl rfl rfl (by kernel_rfl) Try.func3 (by kernel_rfl)
    (of_decide_eq_true (by kernel_rfl)) (by unfold Func.isWrapper; first | (rw [if_pos (by decide +kernel)]; kernel_rfl) | (rw [if_neg (by decide +kernel)]; exact ⟨rfl, rfl⟩))
    (fun os started H enc _ => latestStays_lifted os started H enc)

end Go.Proofs.Ytjdaoenapmjoeaa
