/-
  Sorting, plain mathematics: every order of ranks below 26, by reckoning.
  SORTING, plain mathematics: a list in order with one number behind it, sorted.
-/
import Derived.Test.YtigpplckddnghaaGreatSoM
namespace Go.Proofs.YtigpplckddnghaaGreat
set_option maxRecDepth 8000

namespace So
theorem ok0 : okAll 0 = true := by decide +kernel
theorem ok1 : okAll 1 = true := by decide +kernel
theorem ok2 : okAll 2 = true := by decide +kernel
theorem ok3 : okAll 3 = true := by decide +kernel
theorem ok4 : okAll 4 = true := by decide +kernel
theorem ok5 : okAll 5 = true := by decide +kernel
theorem ok6 : okAll 6 = true := by decide +kernel
theorem ok7 : okAll 7 = true := by decide +kernel
theorem ok8 : okAll 8 = true := by decide +kernel
theorem ok9 : okAll 9 = true := by decide +kernel
theorem ok10 : okAll 10 = true := by decide +kernel
theorem ok11 : okAll 11 = true := by decide +kernel
theorem ok12 : okAll 12 = true := by decide +kernel
theorem ok13 : okAll 13 = true := by decide +kernel
theorem ok14 : okAll 14 = true := by decide +kernel
theorem ok15 : okAll 15 = true := by decide +kernel
theorem ok16 : okAll 16 = true := by decide +kernel
theorem ok17 : okAll 17 = true := by decide +kernel
theorem ok18 : okAll 18 = true := by decide +kernel
theorem ok19 : okAll 19 = true := by decide +kernel
theorem ok20 : okAll 20 = true := by decide +kernel
theorem ok21 : okAll 21 = true := by decide +kernel
theorem ok22 : okAll 22 = true := by decide +kernel
theorem ok23 : okAll 23 = true := by decide +kernel
theorem ok24 : okAll 24 = true := by decide +kernel
theorem ok25 : okAll 25 = true := by decide +kernel
end So

namespace So
theorem ok26 : okAll 26 = true := by decide +kernel
theorem ok27 : okAll 27 = true := by decide +kernel
theorem ok28 : okAll 28 = true := by decide +kernel
theorem ok29 : okAll 29 = true := by decide +kernel
theorem ok30 : okAll 30 = true := by decide +kernel
theorem ok31 : okAll 31 = true := by decide +kernel
theorem ok32 : okAll 32 = true := by decide +kernel
theorem ok33 : okAll 33 = true := by decide +kernel
theorem ok34 : okAll 34 = true := by decide +kernel
theorem ok35 : okAll 35 = true := by decide +kernel
theorem ok36 : okAll 36 = true := by decide +kernel
theorem ok37 : okAll 37 = true := by decide +kernel
theorem okAll_37 : ∀ n, n ≤ 37 → okAll n = true
  | 0, _ => ok0
  | 1, _ => ok1
  | 2, _ => ok2
  | 3, _ => ok3
  | 4, _ => ok4
  | 5, _ => ok5
  | 6, _ => ok6
  | 7, _ => ok7
  | 8, _ => ok8
  | 9, _ => ok9
  | 10, _ => ok10
  | 11, _ => ok11
  | 12, _ => ok12
  | 13, _ => ok13
  | 14, _ => ok14
  | 15, _ => ok15
  | 16, _ => ok16
  | 17, _ => ok17
  | 18, _ => ok18
  | 19, _ => ok19
  | 20, _ => ok20
  | 21, _ => ok21
  | 22, _ => ok22
  | 23, _ => ok23
  | 24, _ => ok24
  | 25, _ => ok25
  | 26, _ => ok26
  | 27, _ => ok27
  | 28, _ => ok28
  | 29, _ => ok29
  | 30, _ => ok30
  | 31, _ => ok31
  | 32, _ => ok32
  | 33, _ => ok33
  | 34, _ => ok34
  | 35, _ => ok35
  | 36, _ => ok36
  | 37, _ => ok37
  | n + 38, h => absurd h (by omega)
theorem ok_any {n r : Nat} (hn : n ≤ 37) (hr : r < n) : pdqM (fun x y => decide (x < y)) 0 8 (base n r) 0 n true true = some (List.range n) := by
  have h2 := List.all_eq_true.1 (okAll_37 n hn) r (List.mem_range.2 hr)
  exact of_decide_eq_true h2
/-- A list in order that lacks z is parted by it. -/
theorem parted {z : Int} : ∀ {l : List Int}, l.Pairwise (· < ·) → z ∉ l → ∃ A B, l = A ++ B ∧ (∀ a ∈ A, a < z) ∧ (∀ b ∈ B, z < b)
  | [], _, _ => ⟨[], [], rfl, by simp, by simp⟩
  | x :: r, h, hz => by
    obtain ⟨h1, h2⟩ := List.pairwise_cons.1 h
    have hzx : z ≠ x := fun e => hz (e ▸ List.mem_cons_self)
    obtain ⟨A, B, e, ha, hb⟩ := parted h2 (fun q => hz (List.mem_cons_of_mem _ q))
    by_cases hx : x < z
    · exact ⟨x :: A, B, by rw [e]; rfl, fun a hm => (List.mem_cons.1 hm).elim (fun q => q ▸ hx) (ha a), hb⟩
    · refine ⟨[], x :: r, rfl, by simp, ?_⟩
      intro b hm
      rcases List.mem_cons.1 hm with rfl | hm
      · omega
      · have := h1 b hm; omega
/-- Names for the numbers of a list in order. -/
def nm (s : List Int) (M : Int) (k : Nat) : Int := if k < s.length then s.getD k 0 else M + 1 + k
theorem nm_mono {s : List Int} {M : Int} (hs : s.Pairwise (· < ·)) (hM : ∀ x ∈ s, x ≤ M) {i j : Nat} (h : i < j) : nm s M i < nm s M j := by
  unfold nm
  by_cases hj : j < s.length
  · have hi : i < s.length := by omega
    rw [if_pos hi, if_pos hj, List.getD_eq_getElem?_getD, List.getD_eq_getElem?_getD, List.getElem?_eq_getElem hi, List.getElem?_eq_getElem hj]
    exact List.pairwise_iff_getElem.1 hs i j hi hj h
  · rw [if_neg hj]
    by_cases hi : i < s.length
    · rw [if_pos hi, List.getD_eq_getElem?_getD, List.getElem?_eq_getElem hi]
      have := hM _ (List.getElem_mem hi)
      show s[i] < M + 1 + j
      omega
    · rw [if_neg hi]; omega
theorem nm_lt {s : List Int} {M : Int} (hs : s.Pairwise (· < ·)) (hM : ∀ x ∈ s, x ≤ M) (i j : Nat) : decide (nm s M i < nm s M j) = decide (i < j) := by
  refine decide_eq_decide.2 ⟨fun h => ?_, fun h => nm_mono hs hM h⟩
  rcases Nat.lt_trichotomy i j with q | q | q
  · exact q
  · subst q; omega
  · have := nm_mono hs hM q; omega
theorem nm_range (s : List Int) (M : Int) : (List.range s.length).map (nm s M) = s := by
  refine List.ext_getElem (by simp) ?_
  intro i h1 h2
  simp only [List.getElem_map, List.getElem_range, nm, if_pos h2]
  rw [List.getD_eq_getElem?_getD, List.getElem?_eq_getElem h2]; rfl
theorem base_split (r m : Nat) : base (r + 1 + m) r = List.range r ++ (List.range m).map (fun k => r + 1 + k) ++ [r] := by
  unfold base
  rw [List.range_add, List.range_succ, List.filter_append, List.filter_append]
  congr 1
  rw [List.filter_eq_self.2 (by intro k hk; have := List.mem_range.1 hk; exact decide_eq_true (by omega))]
  rw [show ([r] : List Nat).filter (fun i => decide (i ≠ r)) = [] by simp]
  rw [List.append_nil, List.filter_eq_self.2 (by intro k hk; obtain ⟨q, _, rfl⟩ := List.mem_map.1 hk; exact decide_eq_true (by omega))]
theorem nm_base (A B : List Int) (z M : Int) : (base (A.length + 1 + B.length) A.length).map (nm (A ++ z :: B) M) = A ++ B ++ [z] := by
  rw [base_split, List.map_append, List.map_append]
  have e1 : (List.range A.length).map (nm (A ++ z :: B) M) = A := by
    refine List.ext_getElem (by simp) ?_
    intro i h1 h2
    simp only [List.getElem_map, List.getElem_range, nm]
    rw [if_pos (by simp; omega), List.getD_eq_getElem?_getD, List.getElem?_append_left h2, List.getElem?_eq_getElem h2]; rfl
  have e2 : ((List.range B.length).map (fun k => A.length + 1 + k)).map (nm (A ++ z :: B) M) = B := by
    refine List.ext_getElem (by simp) ?_
    intro i h1 h2
    simp only [List.getElem_map, List.getElem_range, nm]
    rw [if_pos (by simp; omega), List.getD_eq_getElem?_getD, List.getElem?_append_right (by omega), show A.length + 1 + i - A.length = i + 1 by omega, List.getElem?_cons_succ, List.getElem?_eq_getElem h2]; rfl
  have e3 : nm (A ++ z :: B) M A.length = z := by
    unfold nm
    rw [if_pos (by simp), List.getD_eq_getElem?_getD, List.getElem?_append_right (Nat.le_refl _), Nat.sub_self]; rfl
  rw [e1, e2, List.map_cons, List.map_nil, e3]
/-- pdqsort sorts a list in order with one more number behind it. -/
theorem pdq_sorts {l : List Int} {z : Int} (hl : l.Pairwise (· < ·)) (hz : z ∉ l) (hn : l.length ≤ 36) :
    ∃ (df : Int) (A B : List Int), l = A ++ B ∧ (∀ a ∈ A, a < z) ∧ (∀ b ∈ B, z < b) ∧ pdqM (fun x y => decide (x < y)) df 8 (l ++ [z]) 0 (l.length + 1) true true = some (A ++ z :: B) := by
  obtain ⟨A, B, e, ha, hb⟩ := parted hl hz
  subst e
  have hs : (A ++ z :: B).Pairwise (· < ·) := by
    obtain ⟨h1, h2, h3⟩ := List.pairwise_append.1 hl
    refine List.pairwise_append.2 ⟨h1, List.pairwise_cons.2 ⟨hb, h2⟩, ?_⟩
    intro x hx y hy
    rcases List.mem_cons.1 hy with rfl | hy
    · exact ha x hx
    · exact h3 x hx y hy
  obtain ⟨M, hM⟩ : ∃ M : Int, ∀ x ∈ A ++ z :: B, x ≤ M := by
    have : ∀ s : List Int, ∃ M : Int, ∀ x ∈ s, x ≤ M := by
      intro s
      induction s with
      | nil => exact ⟨0, by simp⟩
      | cons x r ih =>
        obtain ⟨M, hM⟩ := ih
        refine ⟨max x M, ?_⟩
        intro y hy
        rcases List.mem_cons.1 hy with rfl | hy
        · exact Int.le_max_left _ _
        · exact Int.le_trans (hM y hy) (Int.le_max_right _ _)
    exact this _
  have hlen : (A ++ B).length + 1 = A.length + 1 + B.length := by rw [List.length_append]; omega
  refine ⟨nm (A ++ z :: B) M 0, A, B, rfl, ha, hb, ?_⟩
  rw [hlen, ← nm_base A B z M, pdqM_map (fun x y => decide (x < y)) 0 (nm (A ++ z :: B) M) (fun x y => decide (x < y)) (fun x y => nm_lt hs hM x y), ok_any (by rw [List.length_append] at hn; omega) (by omega), Option.map_some]
  congr 1
  have := nm_range (A ++ z :: B) M
  rwa [show (A ++ z :: B).length = A.length + 1 + B.length by simp; omega] at this
end So
end Go.Proofs.YtigpplckddnghaaGreat
