/-
  The walk of HeadBegins.
-/
import Derived.Test.YtcllcfjlnaijoaaAwakee
import Derived.Deep.QuietTactic
import Derived.BigQuiet
namespace Go.Proofs.Ytcllcfjlnaijoaa
open Go.RowKit

theorem begins_app (l m : List UInt8) : begins (m ++ l) m = true := by
  unfold begins
  simp

theorem intBeq (x y : Nat) : ((x : Int) == (y : Int)) = decide (x = y) := by
  by_cases h : x = y
  · simp [h]
  · simp [h]; omega

/-- How far the comparison has come. -/
def eqTo (n n2 : Nat) (l m : List UInt8) (j : Nat) : Bool := decide (n2 ≤ n ∧ l.take j = m.take j)
theorem eqTo_zero (n n2 : Nat) (l m : List UInt8) : eqTo n n2 l m 0 = decide (n2 ≤ n) := by simp [eqTo]
theorem eqTo_succ (n n2 : Nat) (l m : List UInt8) (j : Nat) (hn : n = l.length) (hn2 : n2 = m.length) (hj : j < n2) (h : eqTo n n2 l m j = true) :
    n2 ≤ n ∧ eqTo n n2 l m (j + 1) = decide ((l.getD j 0).toNat = (m.getD j 0).toNat) := by
  have h1 := of_decide_eq_true h
  refine ⟨h1.1, ?_⟩
  have hjl : j < l.length := by omega
  have hjm : j < m.length := by omega
  unfold eqTo
  rw [List.take_add_one, List.take_add_one, h1.2, List.getElem?_eq_getElem hjl, List.getElem?_eq_getElem hjm, List.getD_eq_getElem?_getD, List.getD_eq_getElem?_getD, List.getElem?_eq_getElem hjl, List.getElem?_eq_getElem hjm]
  congr 1
  simp only [Option.toList_some, Option.getD_some, List.append_cancel_left_eq, List.cons.injEq, and_true, h1.1, true_and]
  exact propext UInt8.toNat_inj.symm
theorem eqTo_end (n n2 : Nat) (l m : List UInt8) (hn : n = l.length) (hn2 : n2 = m.length) : eqTo n n2 l m n2 = begins l m := by
  unfold eqTo begins
  rw [← hn, ← hn2, hn2, List.take_length]
theorem eqTo_false (n n2 : Nat) (l m : List UInt8) (j : Nat) (hn : n = l.length) (hn2 : n2 = m.length) (hj : j ≤ n2) (h : eqTo n n2 l m j = false) : begins l m = false := by
  rw [← eqTo_end n n2 l m hn hn2]
  have h1 := of_decide_eq_false h
  refine decide_eq_false fun ⟨h2, h3⟩ => h1 ⟨h2, ?_⟩
  have h4 : l.take n2 = m := by rw [h3, hn2, List.take_length]
  rw [← h4, List.take_take, Nat.min_eq_left hj]

set_option maxHeartbeats 2000000 in
theorem headBegins_any (A A2 : Option Addr) (n c n2 c2 B : Nat) (l m : List UInt8) (w : World) (h : Lies w B A (bys l)) (hn : n = l.length) (hc : n ≤ c) (hcm : c ≤ maxLen) (h2 : Lies w B A2 (bys m)) (hn2 : n2 = m.length) (hB : B ≤ w.heap.size) :
    Calls Try.prog 5 #[.slice A n c, .slice A2 n2 c2] w fun e w' => e = .returned (.bool true) ∧ Below w.heap.size w w' := by
  by_cases h100 : 100 < n
  · have h1 : (100 : Int) < (n : Int) := by omega
    clear h hn hcm h2 hn2
    go_enter Try.func5, Try.ntmps5
    go_wp2_with fail
    (with_reducible refine (awake5_any _).mono ?_)
    rintro e w1 ⟨rfl, hb⟩
    go_wp2
    go_ret
    exact ⟨rfl, hb⟩
  have h1 : ¬ (100 : Int) < (n : Int) := by omega
  by_cases h200 : 100 < n2
  · have h3 : (100 : Int) < (n2 : Int) := by omega
    clear h hn hcm h2 hn2
    go_enter Try.func5, Try.ntmps5
    go_wp2_with fail
    (with_reducible refine (awake5_any _).mono ?_)
    rintro e w1 ⟨rfl, hb⟩
    go_wp2
    go_ret
    exact ⟨rfl, hb⟩
  have h3 : ¬ (100 : Int) < (n2 : Int) := by omega
  have Hn := hide hn
  have Hl := hide h
  have Hn2 := hide hn2
  have Hl2 := hide h2
  have Hcm := hide hcm
  have Hsucc := hide (fun j hj he => eqTo_succ n n2 l m j hn hn2 hj he)
  have Hend := hide (eqTo_end n n2 l m hn hn2)
  have Hfalse := hide (fun j hj he => eqTo_false n n2 l m j hn hn2 hj he)
  have h0 : decide (n2 ≤ n) = eqTo n n2 l m 0 := (eqTo_zero n n2 l m).symm
  generalize eqTo n n2 l m = F at *
  clear hn h hn2 h2 hcm
  go_enter Try.func5, Try.ntmps5
  go_wp2
  go_loopw [5, 6] (fun s i wr => ∃ j : Nat, j ≤ n2 ∧ i = .int .i64 (j : Int) ∧ s = .bool (F j) ∧ Below w.heap.size w wr) (fun _ i _ => n2 - (intOf i).toNat)
  case atStart => exact ⟨0, Nat.zero_le _, rfl, by rw [← h0], Below.refl _ _⟩
  case round =>
    obtain ⟨j, hj, rfl, rfl, hb⟩ := hrel
    have Hb := hide hb
    have hz := hb.size
    have hBr : B ≤ wr.heap.size := Nat.le_trans hB hz
    have HL := hide (Hl.out.below (hb.mono hB))
    have HL2 := hide (Hl2.out.below (hb.mono hB))
    clear hb
    by_cases hgo : j < n2 ∧ F j = true
    · obtain ⟨hlt, hF⟩ := hgo
      obtain ⟨hle, hS⟩ := Hsucc.out j hlt hF
      rw [hF]
      have h4 : (j : Int) < (n2 : Int) := by omega
      have h5 : (j : Int) < (n : Int) := by omega
      obtain ⟨a, rfl, _, hc1⟩ := HL.out.byte (k := j) (by have := Hn.out; omega)
      obtain ⟨a2, rfl, _, hc2⟩ := HL2.out.byte (k := j) (by have := Hn2.out; omega)
      generalize (l.getD j 0).toNat = x at *
      generalize (m.getD j 0).toNat = y at *
      have HS := hide hS
      clear hS hle hF
      go_wp2_with fail
      go_quiet (fail)
      go_wp2
      refine ⟨⟨j + 1, by omega, by go_num, ?_, bel_drewN Hb.out _⟩, by simp [intOf]; omega⟩
      rw [HS.out, ← intBeq]
    · by_cases hlt : j < n2
      · have hF : F j = false := by
          cases hf : F j with
          | true => exact absurd ⟨hlt, hf⟩ hgo
          | false => rfl
        have Hr := hide (Hfalse.out j hj hF)
        rw [hF]
        have h4 : (j : Int) < (n2 : Int) := by omega
        clear hgo hF
        go_wp2_with fail
        (with_reducible refine (awake5_any _).mono ?_)
        rintro e w1 ⟨rfl, hb1⟩
        have Hb1 := hide (Hb.out.trans (hb1.mono hz))
        have HLb := hide (HL.out.below (hb1.mono hBr))
        have HL2b := hide (HL2.out.below (hb1.mono hBr))
        have hz1 := Hb1.out.size
        have hB1 : B ≤ w1.heap.size := Nat.le_trans hB hz1
        clear hb1 Hb HL HL2
        go_wp2_with fail
        have fp := is_any A A2 n c n2 c2 B B l m w1 HLb.out Hn.out hc HL2b.out Hn2.out Hcm.out
        rw [Hr.out] at fp
        (with_reducible refine fp.mono ?_)
        clear fp
        rintro e w2 ⟨rfl, rfl⟩
        go_wp2_with (first
          | (at_builtin; refine wpl_app_want (by simp [Region.wanted, yielded]) u8elems (.tmp 48) (.tmp 49) rfl w1.heap.size (.slice (some ⟨w1.heap.size, 0, none⟩) 0 0) 0 [] rfl (World.ownsRow_made w1 #[] 0 (Nat.le_refl _) (Nat.zero_le _) rfl) B A2 n2 c2 (bys m) rfl (by rw [bys_len, Nat.mul_one]; exact Hn2.out.symm) (HL2b.out.alloc hB1 _) (bys_one _) (by unfold maxLen; omega) (by omega) (by simp) ?_; simp only [Nat.zero_add, List.nil_append]; intro A3 c3 w3 hown3 hg3 hat3; have Ho3 := hide hown3; have Hb3 := hide (((Below.refl w1.heap.size w1).alloc (Nat.le_refl _) _).grown hg3 (by simp) (by intro k hk; simp [Value.ownBlock] at hk; omega)); have hz3 := Hb3.out.size; clear hown3 hg3 hat3)
          | (at_builtin; refine wpl_app_want (by simp [Region.wanted, yielded]) u8elems (.tmp 50) (.tmp 51) rfl w1.heap.size (.slice A3 n2 c3) n2 (bys m) rfl Ho3.out B A n c (bys l) rfl (by rw [bys_len, Nat.mul_one]; exact Hn.out.symm) (HLb.out.below (Hb3.out.mono hB1)) (bys_one _) (by unfold maxLen; omega) (by omega) hz3 ?_; intro A4 c4 w4 hown4 hg4 hat4; have Ho4 := hide hown4; have Hb4 := hide (Hb3.out.grown hg4 hz3 (fun g hg => (Ho3.out.lt g hg).1)); clear hown4 hg4 hat4))
        have Ho := hide (show Lies w4 w4.heap.size A4 (bys (m ++ l)) by rw [bys_app]; exact Lies.of_own Ho4.out)
        have Hn3 := hide (show n2 + n = (m ++ l).length by rw [List.length_append, ← Hn2.out, ← Hn.out])
        have hform := hide (show n2 + n ≤ c4 ∧ c4 ≤ maxLen from by obtain ⟨A5, c5, he, h8, h9⟩ := own_form Ho4.out; cases he; exact ⟨h8, h9⟩)
        have HL4 := hide (HL2b.out.below (Hb4.out.mono hB1))
        have Hb4' := hide (Hb1.out.trans (Hb4.out.mono hz1))
        have hz4 := Hb4'.out.size
        clear Ho3 Hb3 Ho4 Hb4 HLb HL2b
        go_wp2_with fail
        have fp := is_any A4 A2 (n2 + n) c4 n2 c2 w4.heap.size B (m ++ l) m w4 Ho.out Hn3.out hform.out.1 HL4.out Hn2.out hform.out.2
        rw [begins_app] at fp
        (with_reducible refine fp.mono ?_)
        clear fp
        rintro e w5 ⟨rfl, rfl⟩
        go_wp2_with fail
        (with_reducible refine (break_any w4).mono ?_)
        rintro e w5 ⟨rfl, rfl⟩
        have hs : (convert 23 9 (.slice (some ⟨w4.heap.size, 0, none⟩) 1 1)).run Try.prog (w4.alloc (.cells #[.int .u8 255] 5)) = .ok (.string ⟨#[255]⟩) (w4.alloc (.cells #[.int .u8 255] 5)) :=
          strU8 (l := [255]) 1 (Lies.fresh w4 [255] 5 (0, 0) #[.int .u8 255] rfl w4.heap.size (w4.heap.size + 1) rfl (by omega)) rfl
        have Hb5 := hide (Hb4'.out.alloc hz4 (.cells #[.int .u8 255] 5))
        go_wp2
        go_ret
        exact ⟨rfl, Hb5.out⟩
      · obtain rfl : n2 = j := by omega
        have Hr := hide Hend.out.symm
        generalize F n2 = r at *
        have h4 : ¬ (n2 : Int) < (n2 : Int) := by omega
        clear hgo
        go_wp2_with fail
        (with_reducible refine (awake5_any _).mono ?_)
        rintro e w1 ⟨rfl, hb1⟩
        have Hb1 := hide (Hb.out.trans (hb1.mono hz))
        have HLb := hide (HL.out.below (hb1.mono hBr))
        have HL2b := hide (HL2.out.below (hb1.mono hBr))
        have hz1 := Hb1.out.size
        have hB1 : B ≤ w1.heap.size := Nat.le_trans hB hz1
        clear hb1 Hb HL HL2
        go_wp2_with fail
        have fp := is_any A A2 n c n2 c2 B B l m w1 HLb.out Hn.out hc HL2b.out Hn2.out Hcm.out
        rw [Hr.out] at fp
        (with_reducible refine fp.mono ?_)
        clear fp
        rintro e w2 ⟨rfl, rfl⟩
        go_wp2_with (first
          | (at_builtin; refine wpl_app_want (by simp [Region.wanted, yielded]) u8elems (.tmp 48) (.tmp 49) rfl w1.heap.size (.slice (some ⟨w1.heap.size, 0, none⟩) 0 0) 0 [] rfl (World.ownsRow_made w1 #[] 0 (Nat.le_refl _) (Nat.zero_le _) rfl) B A2 n2 c2 (bys m) rfl (by rw [bys_len, Nat.mul_one]; exact Hn2.out.symm) (HL2b.out.alloc hB1 _) (bys_one _) (by unfold maxLen; omega) (by omega) (by simp) ?_; simp only [Nat.zero_add, List.nil_append]; intro A3 c3 w3 hown3 hg3 hat3; have Ho3 := hide hown3; have Hb3 := hide (((Below.refl w1.heap.size w1).alloc (Nat.le_refl _) _).grown hg3 (by simp) (by intro k hk; simp [Value.ownBlock] at hk; omega)); have hz3 := Hb3.out.size; clear hown3 hg3 hat3)
          | (at_builtin; refine wpl_app_want (by simp [Region.wanted, yielded]) u8elems (.tmp 50) (.tmp 51) rfl w1.heap.size (.slice A3 n2 c3) n2 (bys m) rfl Ho3.out B A n c (bys l) rfl (by rw [bys_len, Nat.mul_one]; exact Hn.out.symm) (HLb.out.below (Hb3.out.mono hB1)) (bys_one _) (by unfold maxLen; omega) (by omega) hz3 ?_; intro A4 c4 w4 hown4 hg4 hat4; have Ho4 := hide hown4; have Hb4 := hide (Hb3.out.grown hg4 hz3 (fun g hg => (Ho3.out.lt g hg).1)); clear hown4 hg4 hat4))
        have Ho := hide (show Lies w4 w4.heap.size A4 (bys (m ++ l)) by rw [bys_app]; exact Lies.of_own Ho4.out)
        have Hn3 := hide (show n2 + n = (m ++ l).length by rw [List.length_append, ← Hn2.out, ← Hn.out])
        have hform := hide (show n2 + n ≤ c4 ∧ c4 ≤ maxLen from by obtain ⟨A5, c5, he, h8, h9⟩ := own_form Ho4.out; cases he; exact ⟨h8, h9⟩)
        have HL4 := hide (HL2b.out.below (Hb4.out.mono hB1))
        have Hb4' := hide (Hb1.out.trans (Hb4.out.mono hz1))
        have hz4 := Hb4'.out.size
        clear Ho3 Hb3 Ho4 Hb4 HLb HL2b
        go_wp2_with fail
        have fp := is_any A4 A2 (n2 + n) c4 n2 c2 w4.heap.size B (m ++ l) m w4 Ho.out Hn3.out hform.out.1 HL4.out Hn2.out hform.out.2
        rw [begins_app] at fp
        (with_reducible refine fp.mono ?_)
        clear fp
        rintro e w5 ⟨rfl, rfl⟩
        go_wp2_with fail
        (with_reducible refine (break_any w4).mono ?_)
        rintro e w5 ⟨rfl, rfl⟩
        have hs : (convert 23 9 (.slice (some ⟨w4.heap.size, 0, none⟩) 1 1)).run Try.prog (w4.alloc (.cells #[.int .u8 255] 5)) = .ok (.string ⟨#[255]⟩) (w4.alloc (.cells #[.int .u8 255] 5)) :=
          strU8 (l := [255]) 1 (Lies.fresh w4 [255] 5 (0, 0) #[.int .u8 255] rfl w4.heap.size (w4.heap.size + 1) rfl (by omega)) rfl
        have Hb5 := hide (Hb4'.out.alloc hz4 (.cells #[.int .u8 255] 5))
        go_wp2
        go_ret
        exact ⟨rfl, Hb5.out⟩

end Go.Proofs.Ytcllcfjlnaijoaa
