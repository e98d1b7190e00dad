/-
  CONTRACTS of package runes, third part: Words, Lines.
-/
import Derived.Test.YtlenlopeakmplaaDoorRun2
namespace Go.Proofs.YtlenlopeakmplaaDoor
open Go.RowKit

theorem cf_words (args : Array Value) (w : World) : (callFunc 29 args).run Tryd.prog w = .ok (.enter 29 args) w := by
  have h1 : Tryd.f29.name ≠ "runtime.NumGoroutine" := by decide +kernel
  obtain ⟨c, hb⟩ : ∃ c, Tryd.f29.body = some c := ⟨_, rfl⟩
  simp [callFunc, Tryd.func29, h1, hb]
theorem cf_lines (args : Array Value) (w : World) : (callFunc 30 args).run Tryd.prog w = .ok (.enter 30 args) w := by
  have h1 : Tryd.f30.name ≠ "runtime.NumGoroutine" := by decide +kernel
  obtain ⟨c, hb⟩ : ∃ c, Tryd.f30.body = some c := ⟨_, rfl⟩
  simp [callFunc, Tryd.func30, h1, hb]

def tkW (p : List UInt8) : List (List UInt8) := if p = [] then [] else [p]
def tkL (p : List UInt8) : List (List UInt8) := [p]
theorem tkW_filter (ls : List (List UInt8)) : ls.flatMap tkW = ls.filter (· != []) := by
  induction ls with
  | nil => rfl
  | cons p ls ih =>
    rw [List.flatMap_cons, List.filter_cons, ih]
    unfold tkW
    by_cases h : p = [] <;> simp [h]
theorem tkL_id (ls : List (List UInt8)) : ls.flatMap tkL = ls := by
  induction ls with
  | nil => rfl
  | cons p ls ih => rw [List.flatMap_cons, ih]; rfl
theorem words_takes (g B : Nat) (hB : B ≤ g) : TakesAs 29 g B tkW := by
  intro n acc p P w hP h hBs hn
  have hc := words1_run g B n acc p P w hP h hBs hB hn
  have e : (tkW p).length = if p = [] then 0 else 1 := by unfold tkW; split <;> rfl
  rw [e]
  exact hc
theorem lines_takes (g B : Nat) (hB : B ≤ g) : TakesAs 30 g B tkL :=
  fun n acc p P w hP h hBs hn => lines1_run g B n acc p P w hP h hBs hB hn

theorem ends_words (c : UInt8) : ends 32 9 c = decide ((c.toNat : Int) ∈ [(32 : Int), 9]) := by
  unfold ends
  rw [Bool.eq_iff_iff]
  simp only [Bool.or_eq_true, beq_iff_eq, decide_eq_true_eq, List.mem_cons, List.not_mem_nil, or_false]
  rw [← UInt8.toNat_inj, ← UInt8.toNat_inj]
  have e1 : (32 : UInt8).toNat = 32 := rfl
  have e2 : (9 : UInt8).toNat = 9 := rfl
  omega
theorem ends_lines (c : UInt8) : ends 10 10 c = decide ((c.toNat : Int) ∈ [(10 : Int)]) := by
  unfold ends
  rw [Bool.eq_iff_iff]
  simp only [Bool.or_eq_true, beq_iff_eq, decide_eq_true_eq, List.mem_cons, List.not_mem_nil, or_false]
  rw [← UInt8.toNat_inj]
  have e1 : (10 : UInt8).toNat = 10 := rfl
  omega

set_option maxRecDepth 100000 in
set_option maxHeartbeats 1000000 in
theorem words_run (s : ByteArray) (w : World) (hs : s.size ≤ 100000) : Calls Tryd.prog 15 #[.string s] w fun e w' => ∃ A c, e = .returned (.slice A (spl 32 9 true [] s.data.toList).length c) ∧
      Lies w' w'.heap.size A (strs (spl 32 9 true [] s.data.toList)) ∧ Below w.heap.size w w' := by
  have hsp : spl 32 9 true [] s.data.toList = (pcs (ends 32 9) [] s.data.toList).flatMap tkW := by rw [spl_few, tkW_filter]
  rw [hsp]
  obtain ⟨R, hR⟩ : ∃ R, R = (pcs (ends 32 9) [] s.data.toList).flatMap tkW := ⟨_, rfl⟩
  have hp := fun w1 hT hE hg => pieces_run s 29 w.heap.size (w.heap.size + 1 + 1) (w.heap.size + 1) w.heap.size [32, 9] (ends 32 9) tkW w1 hs cf_words (words_takes _ _ (Nat.le_refl _)) (fun p => by unfold tkW; split <;> simp) (by decide) ends_words (by decide) hT hE (Nat.le_refl _) hg (by omega) (by omega)
  rw [← hR] at hp ⊢
  clear hR hsp
  have Hp := hide (hp (((w.alloc (.cells #[.slice none 0 0] 23)).alloc (.cells #[.int .i32 32, .int .i32 9] 21)).alloc (.cells #[.slice (some ⟨w.heap.size + 1, 0, none⟩) 2 2] 60))
    ⟨none, 0, by
      rw [Below.heap_alloc _ _ _ (by simp; omega), Below.heap_alloc _ _ _ (by simp)]; exact heap_alloc_new _ _, World.ownsRow_nil _ _ _ _⟩
    ⟨by have := heap_alloc_new ((w.alloc (.cells #[.slice none 0 0] 23)).alloc (.cells #[.int .i32 32, .int .i32 9] 21)) (.cells #[.slice (some ⟨w.heap.size + 1, 0, none⟩) 2 2] 60); simpa using this,
      (0, 0), by
      rw [Below.heap_alloc _ _ _ (by simp)]
      show _ = some (Obj.cells #[Value.int .i32 32, Value.int .i32 9] 21 (0, 0))
      have := heap_alloc_new (w.alloc (.cells #[.slice none 0 0] 23)) (.cells #[.int .i32 32, .int .i32 9] 21); simpa using this⟩
    (by simp; omega))
  clear hp
  go_enter Tryd.func15, Tryd.ntmps15
  go_wp2_with (first | (go_at_call 27; (with_reducible refine Hp.out.mono ?_); rintro e w1 ⟨rfl, ⟨A, c, hv, ho⟩, hb⟩; have Ho := hide ho; have hcell := cell_of_one hv; have Hb := hide hb; clear ho hv hb) | go_in)
  all_goals
    go_ret
    exact ⟨A, c, rfl, Lies.of_own Ho.out, ((((Below.refl _ w).alloc (Nat.le_refl _) _).alloc (by simp) _).alloc (by simp; omega) _).trans Hb.out⟩

theorem pcs_length (e : UInt8 → Bool) : ∀ (l p : List UInt8), (pcs e p l).length ≤ l.length + 1
  | [], p => by unfold pcs; simp
  | c :: r, p => by
    unfold pcs
    split
    · have := pcs_length e r []
      simp; omega
    · have := pcs_length e r (p ++ [c])
      simp; omega

set_option maxRecDepth 100000 in
set_option maxHeartbeats 1000000 in
theorem lines_run (s : ByteArray) (w : World) (hs : s.size ≤ 100000) : Calls Tryd.prog 17 #[.string s] w fun e w' => ∃ A c, e = .returned (.slice A (spl 10 10 false [] s.data.toList).length c) ∧
      Lies w' w'.heap.size A (strs (spl 10 10 false [] s.data.toList)) ∧ Below w.heap.size w w' := by
  have hsp : spl 10 10 false [] s.data.toList = trimLast (pcs (ends 10 10) [] s.data.toList) := spl_all 10 10 _ _
  have hne := pcs_ne (ends 10 10) s.data.toList []
  rw [hsp]
  obtain ⟨R, hR⟩ : ∃ R, R = pcs (ends 10 10) [] s.data.toList := ⟨_, rfl⟩
  have hp := fun w1 hT hE hg => pieces_run s 30 w.heap.size (w.heap.size + 1 + 1) (w.heap.size + 1) w.heap.size [10] (ends 10 10) tkL w1 hs cf_lines (lines_takes _ _ (Nat.le_refl _)) (fun p => by simp [tkL]) (by decide) ends_lines (by decide) hT hE (Nat.le_refl _) hg (by omega) (by omega)
  rw [tkL_id] at hp
  have hRl : R.length ≤ 100001 := by
    rw [hR]
    have := pcs_length (ends 10 10) s.data.toList []
    have e : s.data.toList.length = s.size := by rw [Array.length_toList]; rfl
    omega
  rw [← hR] at hp hne ⊢
  clear hR hsp
  have Hp := hide (hp (((w.alloc (.cells #[.slice none 0 0] 23)).alloc (.cells #[.int .i32 10] 21)).alloc (.cells #[.slice (some ⟨w.heap.size + 1, 0, none⟩) 1 1] 60))
    ⟨none, 0, by
      rw [Below.heap_alloc _ _ _ (by simp; omega), Below.heap_alloc _ _ _ (by simp)]; exact heap_alloc_new _ _, World.ownsRow_nil _ _ _ _⟩
    ⟨by have := heap_alloc_new ((w.alloc (.cells #[.slice none 0 0] 23)).alloc (.cells #[.int .i32 10] 21)) (.cells #[.slice (some ⟨w.heap.size + 1, 0, none⟩) 1 1] 60); simpa using this,
      (0, 0), by
      rw [Below.heap_alloc _ _ _ (by simp)]
      show _ = some (Obj.cells #[Value.int .i32 10] 21 (0, 0))
      have := heap_alloc_new (w.alloc (.cells #[.slice none 0 0] 23)) (.cells #[.int .i32 10] 21); simpa using this⟩
    (by simp; omega))
  clear hp
  obtain ⟨D, q, hRq⟩ : ∃ D q, R = D ++ [q] := ⟨R.dropLast, R.getLast hne, (List.dropLast_concat_getLast hne).symm⟩
  have htrim : trimLast R = if q = [] then D else R := by
    unfold trimLast
    rw [hRq, List.getLast?_concat]
    by_cases hq : q = [] <;> simp [hq]
  rw [htrim]
  obtain ⟨m, hm⟩ : ∃ m, m = D.length := ⟨_, rfl⟩
  have hn : R.length = m + 1 := by rw [hRq, List.length_append, ← hm]; rfl
  rw [hn] at Hp hRl
  have hwm : wrap64 (m : Int) = (m : Int) := wr64 (by omega)
  have Hget := hide (show ∀ h : m < R.length, R[m]'h = q by
    intro h
    subst hRq hm
    simp)
  have Hn := hide hn
  have Hm := hide hm
  have HRq := hide hRq
  clear hne htrim hn hm hRq
  by_cases hq : q = []
  · rw [if_pos hq]
    rw [← Hm.out]
    have hqe : (st q).toList.isEmpty = true := (st_empty q).2 hq
    obtain ⟨Q, hQ⟩ : ∃ Q, Q = st q := ⟨_, rfl⟩
    rw [← hQ] at hqe
    have HQ := hide hQ
    have Hq := hide hq
    clear hQ hq
    go_enter Tryd.func17, Tryd.ntmps17
    go_wp2_with (first | (go_at_call 27; (with_reducible refine Hp.out.mono ?_); rintro e w1 ⟨rfl, ⟨A, c, hv, ho⟩, hb⟩; have Ho := hide ho; have hcell := cell_of_one hv; have Hb := hide hb; obtain ⟨hnc, hcm⟩ : m + 1 ≤ c ∧ c ≤ maxLen := (by obtain ⟨A', c', he, h1, h2⟩ := own_form ho; injection he with _ _ he; subst he; exact ⟨h1, h2⟩); obtain ⟨a, rfl, _, hc⟩ := (Lies.of_own ho).at_ (k := m) (by rw [strs_len, Hn.out]; omega); rw [strs_at _ _ (by rw [Hn.out]; omega), Hget.out, ← HQ.out] at hc; clear ho hv hb; have h1 : (m : Int) < ((m + 1 : Nat) : Int) := (by omega); have h2 : (m : Int) ≤ (c : Int) := (by omega)) | go_in)
    all_goals
      go_ret
      refine ⟨some a, c, rfl, ?_, ((((Below.refl _ w).alloc (Nat.le_refl _) _).alloc (by simp) _).alloc (by simp; omega) _).trans Hb.out⟩
      have hl := (Lies.of_own Ho.out).take D.length
      rw [HRq.out, strs_app, List.take_left' (strs_len D)] at hl
      exact hl
  · rw [if_neg hq]
    rw [Hn.out]
    have hqe : (st q).toList.isEmpty = false := Bool.eq_false_iff.2 fun h => hq ((st_empty q).1 h)
    obtain ⟨Q, hQ⟩ : ∃ Q, Q = st q := ⟨_, rfl⟩
    rw [← hQ] at hqe
    have HQ := hide hQ
    clear hQ
    go_enter Tryd.func17, Tryd.ntmps17
    go_wp2_with (first | (go_at_call 27; (with_reducible refine Hp.out.mono ?_); rintro e w1 ⟨rfl, ⟨A, c, hv, ho⟩, hb⟩; have Ho := hide ho; have hcell := cell_of_one hv; have Hb := hide hb; obtain ⟨hnc, hcm⟩ : m + 1 ≤ c ∧ c ≤ maxLen := (by obtain ⟨A', c', he, h1, h2⟩ := own_form ho; injection he with _ _ he; subst he; exact ⟨h1, h2⟩); obtain ⟨a, rfl, _, hc⟩ := (Lies.of_own ho).at_ (k := m) (by rw [strs_len, Hn.out]; omega); rw [strs_at _ _ (by rw [Hn.out]; omega), Hget.out, ← HQ.out] at hc; clear ho hv hb) | go_in)
    all_goals
      go_ret
      exact ⟨some a, c, rfl, Lies.of_own Ho.out, ((((Below.refl _ w).alloc (Nat.le_refl _) _).alloc (by simp) _).alloc (by simp; omega) _).trans Hb.out⟩

end Go.Proofs.YtlenlopeakmplaaDoor
