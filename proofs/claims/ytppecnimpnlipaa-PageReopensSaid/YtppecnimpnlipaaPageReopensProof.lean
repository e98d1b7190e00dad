/-
  PageReopens: for every head, text, number and row of bytes, the law of package page's classes, sums and reopened pages answers true, and its argument reads afterwards as it read before. No condition.
-/
import Derived.Test.YtppecnimpnlipaaPgUA
import Derived.Test.YtppecnimpnlipaaPgUC
import Derived.Test.YtppecnimpnlipaaOpnP
namespace Go.Proofs.Ytppecnimpnlipaa
open Go.ChangeShapes Go.WideShapes Go.ChangeAt Go.RowKit Go.Joins Go.Deep

theorem class_len (b : List UInt8) (h : classN b ≠ 2) : b.length = 256 := by
  by_cases h0 : b = List.replicate 256 255
  · rw [h0, List.length_replicate]
  · by_cases h1 : rightB b = true
    · unfold rightB at h1
      exact (of_decide_eq_true h1).1
    · exact absurd (by unfold classN; rw [if_neg h0, if_neg h1]) h

theorem pageReopens_any (h : Hd) (dt : List UInt8) (opn : Nat) (A : Option Addr) (n c : Nat) (b : List UInt8) (w : World) (hl : Lies w w.heap.size A (bys b)) (hn : n = b.length) (hc : n ≤ c) :
    Calls Try.prog 7 #[.agg (fourC h dt opn A n c).toArray] w fun e w' => e = .returned (.bool true) ∧ Below w.heap.size w w' := by
  by_cases hbig : 300 < n
  · exact reopens_off h dt opn A n c b w hl hn hc hbig
  have hsm : n ≤ 300 := by omega
  rcases (show classN b = 0 ∨ classN b = 1 ∨ classN b = 2 by have := class_le b; omega) with hk | hk | hk
  · have hne : n ≠ 252 := by have := class_len b (by omega); omega
    by_cases hm : h.May
    · by_cases hd : (dt.length : Int) = h.len
      · by_cases ho : opn < 2147483648
        · exact reopens_0n_m3 h dt opn A n c b w hl hn hc hsm hk hne hm hd ho
        · exact reopens_0n_m2 h dt opn A n c b w hl hn hc hsm hk hne hm hd ho
      · exact reopens_0n_m1 h dt opn A n c b w hl hn hc hsm hk hne hm hd
    · exact reopens_0n_m0 h dt opn A n c b w hl hn hc hsm hk hne hm
  · have hne : n ≠ 252 := by have := class_len b (by omega); omega
    by_cases hm : h.May
    · by_cases hd : (dt.length : Int) = h.len
      · by_cases ho : opn < 2147483648
        · exact reopens_1n_m3 h dt opn A n c b w hl hn hc hsm hk hne hm hd ho
        · exact reopens_1n_m2 h dt opn A n c b w hl hn hc hsm hk hne hm hd ho
      · exact reopens_1n_m1 h dt opn A n c b w hl hn hc hsm hk hne hm hd
    · exact reopens_1n_m0 h dt opn A n c b w hl hn hc hsm hk hne hm
  · by_cases hne : n = 252
    · subst hne
      by_cases hm : h.May
      · by_cases hd : (dt.length : Int) = h.len
        · by_cases ho : opn < 2147483648
          · exact reopens_2e_m3 h dt opn A c b w hl hn hc hsm hk hm hd ho
          · exact reopens_2e_m2 h dt opn A c b w hl hn hc hsm hk hm hd ho
        · exact reopens_2e_m1 h dt opn A c b w hl hn hc hsm hk hm hd
      · exact reopens_2e_m0 h dt opn A c b w hl hn hc hsm hk hm
    · by_cases hm : h.May
      · by_cases hd : (dt.length : Int) = h.len
        · by_cases ho : opn < 2147483648
          · exact reopens_2n_m3 h dt opn A n c b w hl hn hc hsm hk hne hm hd ho
          · exact reopens_2n_m2 h dt opn A n c b w hl hn hc hsm hk hne hm hd ho
        · exact reopens_2n_m1 h dt opn A n c b w hl hn hc hsm hk hne hm hd
      · exact reopens_2n_m0 h dt opn A n c b w hl hn hc hsm hk hne hm

section
variable {H : Type} {enc : TypeId × Value → H} {W : World} {base : Nat} {held : Bool}
theorem cells_strP : Try.prog.cellsOf 9 = 1 := by kernel_rfl
theorem cells_fourP : Try.prog.cellsOf 77 = 10 := by kernel_rfl
theorem reads_strP {cs : List Value} (h : ReadsP enc W base held 9 cs) : ∃ s : List UInt8, cs = [.string (str s)] := by
  obtain ⟨fuel, x, h⟩ := h
  obtain ⟨s, e, _, _⟩ := DataW.trod_string Try.underlying9 h
  exact ⟨s.data.toList, by rw [← str_of]; exact e⟩
set_option maxRecDepth 100000 in
/-- What the law takes in. -/
theorem open_fourP {fuel : Nat} {cs : List Value} {x : DataW H × List MemPlace} (h : DataW.trod enc Try.prog W base (fun _ => true) held fuel 77 cs = some x) :
    ∃ (q : Hd) (s : List UInt8) (opn : Nat) (A : Option Addr) (n c : Nat) (l : List UInt8), cs = fourC q s opn A n c ∧ Lies W W.heap.size A (bys l) ∧ n = l.length ∧ n ≤ c := by
  obtain ⟨hl, hf⟩ := reads_fieldsP Try.underlying77 ⟨fuel, x, h⟩
  rw [cells_fourP] at hl
  have f0 : ReadsP enc W base held 57 ((cs.drop 0).take (Try.prog.cellsOf 57)) := hf 0 _ rfl
  have f1 : ReadsP enc W base held 9 ((cs.drop 7).take (Try.prog.cellsOf 9)) := hf 1 _ rfl
  have f2 : ReadsP enc W base held 55 ((cs.drop 8).take (Try.prog.cellsOf 55)) := hf 2 _ rfl
  have f3 : ReadsP enc W base held 40 ((cs.drop 9).take (Try.prog.cellsOf 40)) := hf 3 _ rfl
  simp only [cells_headP, cells_strP, cells_u64P, cells_u8sP] at f0 f1 f2 f3
  match cs, hl with
  | [v0, v1, v2, v3, v4, v5, v6, v7, v8, v9], _ =>
    obtain ⟨q, e0⟩ := reads_headP f0
    obtain ⟨s, e1⟩ := reads_strP f1
    obtain ⟨o, e2, _⟩ := reads_u64P f2
    obtain ⟨A, n, c, l, e3, h1, h2, h3⟩ := reads_u8sP f3
    refine ⟨q, s, o, A, n, c, l, ?_, h1, h2, h3⟩
    rcases q with ⟨a, b, c, d, e, f, g⟩
    simp [Hd.cells] at e0 e1 e2 e3
    obtain ⟨rfl, rfl, rfl, rfl, rfl, rfl, rfl⟩ := e0
    subst e1
    subst e2
    subst e3
    rfl
end

set_option maxRecDepth 100000 in
theorem pageReopens_lifted (os : Os) (started : os.Started) (H : Type) (enc : TypeId × Value → H) :
    ReturnsInHanded {} Try.checked os 7 .any (Rows.pageReopensSpec.pre6 enc Try.prog Try.f7 Rows.pageReopensRow.domain false) (Rows.pageReopensSpec.post enc Try.prog Try.f7 false true false false) := by
  refine returnsInHanded_of_change (C := Try.checked) Try.own started (by kernel_rfl) Try.func7
    (ChangeSpec.witness6 (enc := enc) (C := Try.checked) false ⟨#[], #[.agg #[.int .i64 0, .int .i64 0, .int .i64 0, .int .u64 0, .int .u64 0, .int .i64 0, .int .i64 0, .string ⟨#[]⟩, .int .u64 0, .slice none 0 0]], []⟩ 8 (by kernel_rfl) (by kernel_rfl) (by kernel_rfl) (by kernel_rfl)) ?_
  intro W base args ds gs before hval0 hW hcnd _
  have hval : ∀ (j : Nat) t v, Try.f7.params[j]? = some t → args[j]? = some v → Value.okWide Try.prog W .any base t v := hval0
  have hW' := hW
  obtain ⟨p, q, hA0, hV, rfl, hfz, hnd⟩ := hW
  have hA : DataW.TrodAll enc Try.prog W 0 (fun _ => true) true Try.f7.params.toList args.toList ds p := hA0
  rw [Try.params7] at hA hval
  obtain ⟨v0, d0, rfl, rfl, h0⟩ := trodAll_one hA
  obtain ⟨rfl, rfl⟩ := trodVars_none hV
  obtain ⟨cs0, rfl, _⟩ := okWide_struct Try.underlying77 (hval 0 _ v0 rfl rfl)
  obtain ⟨fuel0, h0⟩ := h0
  obtain ⟨hd, s0, o0, A0, n0, c0, l0, e0, hl0, hn0, hc0⟩ := open_fourP h0
  have hcs0 : cs0 = (fourC hd s0 o0 A0 n0 c0).toArray := by simpa [Value.cells] using congrArg List.toArray e0
  subst hcs0
  have hwalk : Calls Try.prog 7 #[.agg (fourC hd s0 o0 A0 n0 c0).toArray] W fun e w' => e = .returned (.bool true) ∧ Below W.heap.size W w' := pageReopens_any hd s0 o0 A0 n0 c0 l0 W hl0 hn0 hc0
  refine hwalk.mono fun e W' ⟨he, hb⟩ => ⟨_, he, ?_⟩
  exact law_post (tb := 4) Try.laidOut (by kernel_rfl) rfl Try.underlying4 rfl rfl hW' hb

theorem pageReopens_holds : Rows.PageReopensSaid :=
  OpenClaim.holds_of_wide 7 Try.f7 rfl rfl rfl rfl rfl rfl rfl ⟨rfl, rfl, rfl, rfl, rfl⟩ rfl rfl rfl rfl rfl (by kernel_rfl) Try.func7 (by kernel_rfl)
    (of_decide_eq_true (by kernel_rfl)) (by unfold Func.isWrapper; first | (rw [if_pos (by decide +kernel)]; kernel_rfl) | (rw [if_neg (by decide +kernel)]; exact ⟨rfl, rfl⟩))
    (fun os started H enc _ => pageReopens_lifted os started H enc)

end Go.Proofs.Ytppecnimpnlipaa
