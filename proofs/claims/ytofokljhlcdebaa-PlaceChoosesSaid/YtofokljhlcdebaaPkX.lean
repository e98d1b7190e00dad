/-
  LAYER 20: PlaceChooses.
-/
import Derived.Test.YtofokljhlcdebaaPkW
namespace Go.Proofs.Ytofokljhlcdebaa
open Go.RowKit Go.Sort
set_option maxRecDepth 8000

theorem fewL_has (l : List Cq) : (fewL l).filter hasPl = fewL l := by
  rw [List.filter_eq_self]
  intro q hq
  unfold hasPl
  exact decide_eq_true (fewL_ps hq).2.1
theorem placeChooses_off (A A2 : Option Addr) (n c n2 c2 : Nat) (w : World) (h : ¬ n2 ≤ 20) :
    Calls Try.prog 4 #[.slice A n c, .slice A2 n2 c2] w fun e w' => e = .returned (.bool true) ∧ Below w.heap.size w w' := by
  have FA := awake20_any
  have g1 : decide ((20 : Int) < (n2 : Int)) = true := decide_eq_true (by omega)
  have g2 : decide (20 < n2) = true := decide_eq_true (by omega)
  clear h
  go_enter Try.func4, Try.ntmps4
  go_wp2_with fail
  (with_reducible refine (FA _).mono ?_)
  rintro e w2 ⟨rfl, hb⟩
  go_wp2
  go_ret
  exact ⟨rfl, hb⟩
set_option maxHeartbeats 8000000 in
theorem placeChooses_on (A A2 : Option Addr) (n c n2 c2 : Nat) (l0 : List Cq) (bad : List Int) (w : World) (hl : Vq w w.heap.size A l0) (hb : Lies w w.heap.size A2 (nums .i64 bad)) (hn : n = l0.length) (hn2 : n2 = bad.length) (hok : ∀ q ∈ l0, ∀ p ∈ q.ps, Ok64 p.1) (h : n2 ≤ 20) :
    Calls Try.prog 4 #[.slice A n c, .slice A2 n2 c2] w fun e w' => e = .returned (.bool true) ∧ Below w.heap.size w w' := by
  have FA := awake20_any
  have FW := hide (few20_any A n c w.heap.size l0 w hl (Nat.le_refl _) hn)
  obtain ⟨l, hle⟩ : ∃ l, fewL l0 = l := ⟨_, rfl⟩
  have h40 : l.length ≤ 40 := by rw [← hle]; exact fewL_len l0
  have hhas : l.filter hasPl = l := by rw [← hle]; exact fewL_has l0
  have hpsL : ∀ q ∈ l, 0 < q.ps.length ∧ q.ps.length ≤ 1000 ∧ ∀ p ∈ q.ps, Ok64 p.1 := by
    intro q hq
    rw [← hle] at hq
    have h3 := fewL_ps hq
    exact ⟨h3.2.1, Nat.le_trans h3.2.2 (by decide), hok q h3.1⟩
  rw [hle] at FW
  have F1 := hide (fun (A5 : Option Addr) (c5 : Nat) W (h1 : Vq W W.heap.size A5 l) (h2 : Lies W W.heap.size A2 (nums .i64 bad)) => choose_any A5 A2 l.length c5 n2 c2 l bad W h1 h2 rfl hn2 (Nat.le_trans h40 (by decide)) (Nat.le_trans h (by decide)) (fun q hq => (hpsL q hq).2))
  have F2 := hide (fun (A5 : Option Addr) (c5 : Nat) W (h1 : Vq W W.heap.size A5 l) (h2 : Lies W W.heap.size A2 (nums .i64 bad)) => choose20_any A5 A2 l.length c5 n2 c2 l bad W h1 h2 rfl hn2 (Nat.le_trans h40 (by decide)) (Nat.le_trans h (by decide)) (fun q hq => (hpsL q hq).1) (fun q hq => (hpsL q hq).2))
  have F3 := hide (fun (b : Addr) W (h1 : Lies W W.heap.size (some b) (rowK [⟨3, 0, none, 0, []⟩])) (h2 : Lies W W.heap.size A2 (nums .i64 bad)) => choose_any (some b) A2 1 1 n2 c2 [⟨3, 0, none, 0, []⟩] bad W ⟨h1, fun q hq => by rw [List.mem_singleton] at hq; subst hq; exact .inl rfl⟩ h2 rfl hn2 (by decide) (Nat.le_trans h (by decide)) (fun q hq => by rw [List.mem_singleton] at hq; subst hq; exact ⟨Nat.zero_le _, fun p hp => absurd hp (by simp)⟩))
  have Hhas := hide hhas
  have HB := hide hb
  have H40 := hide h40
  have g1 : decide ((20 : Int) < (n2 : Int)) = false := decide_eq_false (by omega)
  have g2 : decide (20 < n2) = false := decide_eq_false (by omega)
  clear hl hb hn hn2 hok h hle h40 hhas hpsL
  go_enter Try.func4, Try.ntmps4
  go_wp2_with fail
  (with_reducible refine FW.out.mono ?_); rintro e w1 ⟨A5, c5, rfl, hv, b1⟩
  have HV := hide hv
  have W1 := hide b1
  clear FW hv b1
  go_wp2_with fail
  (with_reducible refine (FA _).mono ?_); rintro e w2 ⟨rfl, b2⟩
  have HV2 := hide (show Vq w2 w2.heap.size A5 l from (HV.out.below b2).up b2.size)
  have W2 := hide (W1.out.trans (b2.mono W1.out.size))
  clear HV W1 b2 FA
  go_wp2_with fail
  (with_reducible refine (F1.out A5 c5 w2 HV2.out (HB.out.go W2.out)).mono ?_)
  rintro e w3 ⟨A6, c6, Bl, rfl, hbl, hlc, b3⟩
  rw [Hhas.out] at hbl hlc ⊢
  have HV3 := hide (show Vq w3 w3.heap.size A5 l from (HV2.out.below b3).up b3.size)
  have W3 := hide (W2.out.trans (b3.mono W2.out.size))
  have HL6 := hide hlc
  have Hbl := hide hbl
  clear HV2 W2 b3 F1 hlc hbl
  go_wp2_with fail
  (with_reducible refine (F2.out A5 c5 w3 HV3.out (HB.out.go W3.out)).mono ?_)
  rintro e w4 ⟨A7, c7, Bl2, rfl, hbl, hlc, b4⟩
  have hBe := hbl.same Hbl.out
  subst hBe
  have W4 := hide (W3.out.trans (b4.mono W3.out.size))
  have HL6b := hide (HL6.out.go b4)
  have HL7 := hide hlc
  have Hlen : Hid ((runP (plsC l) bad Bl2 (l.map headP)).length = l.length) := hide (by rw [runP_len _ _ (by rw [List.length_map]; unfold plsC; rw [List.length_map]), List.length_map])
  clear HV3 W3 b4 F2 hbl hlc HL6
  go_wp2_with fail
  (with_reducible refine (places20_same A6 A7 l.length c6 c7 w4.heap.size _ w4 HL6b.out HL7.out Hlen.out.symm (Nat.le_trans H40.out (by decide)) (Nat.le_refl _)).mono ?_)
  rintro e w5 ⟨rfl, b5⟩
  have W5 := hide (W4.out.trans (b5.mono W4.out.size))
  clear W4 HL6b HL7 Hbl b5
  go_wp2_with fail
  obtain ⟨n6, b6⟩ := new20 w5 #[.int .i64 3, .int .i64 0, .slice none 0 0] 42
  generalize w5.alloc (.cells #[.int .i64 3, .int .i64 0, .slice none 0 0] 42) = w6 at *
  have W6 := hide (W5.out.trans (b6.mono W5.out.size))
  (with_reducible refine (F3.out _ w6 n6 (HB.out.go W6.out)).mono ?_)
  rintro e w7 ⟨A8, c8, Bl3, rfl, _, _, b7⟩
  have W7 := hide (W6.out.trans (b7.mono W6.out.size))
  rw [show ([⟨3, 0, none, 0, []⟩] : List Cq).filter hasPl = [] from rfl]
  clear F3 W5 W6 b6 b7 n6
  go_wp2
  go_ret
  exact ⟨rfl, W7.out⟩
theorem placeChooses_any (A A2 : Option Addr) (n c n2 c2 : Nat) (l0 : List Cq) (bad : List Int) (w : World) (hl : Vq w w.heap.size A l0) (hb : Lies w w.heap.size A2 (nums .i64 bad)) (hn : n = l0.length) (hn2 : n2 = bad.length) (hok : ∀ q ∈ l0, ∀ p ∈ q.ps, Ok64 p.1) :
    Calls Try.prog 4 #[.slice A n c, .slice A2 n2 c2] w fun e w' => e = .returned (.bool true) ∧ Below w.heap.size w w' := by
  by_cases h : n2 ≤ 20
  · exact placeChooses_on A A2 n c n2 c2 l0 bad w hl hb hn hn2 hok h
  · exact placeChooses_off A A2 n c n2 c2 w h
end Go.Proofs.Ytofokljhlcdebaa
