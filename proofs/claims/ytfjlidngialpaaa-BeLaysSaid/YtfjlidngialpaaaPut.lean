/-
  CONTRACTS of package be, first part: bytes.Clone, clamp, onto and the function that it makes, Put.
-/
import Derived.Test.YtfjlidngialpaaaWords
import Derived.Test.YtfjlidngialpaaaProg
import Derived.Test.YtfjlidngialpaaaNum

import Derived.Deep.AppendLies
import Derived.Deep.RegionLaw
import Derived.OneCell
import Derived.IntWalk
namespace Go.Proofs.Ytfjlidngialpaaa
open Go.RowKit

theorem u8info : (Try.prog.info? 5).map (fun i => (i.zero, i.size, i.bytes)) = some (some (.int .u8 0), 1, 1) := by kernel_rfl

/-- bytes.Clone: a row of the call's own with the same bytes (nil of nil). -/
theorem clone_any (A : Option Addr) (n c B : Nat) (xs : List Value) (w : World) (h : Lies w B A xs) (hn : n = xs.length) (h1 : ∀ u ∈ xs, u.oneCell' = true) (hbig : n ≤ 140737488355328) :
    Calls Try.prog 20 #[.slice A n c] w fun e w' => ∃ v', e = .returned v' ∧ w'.ownsRow w.heap.size 5 1 v' n xs ∧ Below w.heap.size w w' := by
  obtain ⟨i0, hi, hz0, hz1, hz2⟩ := info_parts u8info
  rcases A with _ | a
  · have hx : xs = [] := by
      rcases h with h | ⟨a, hA, _⟩
      · exact h
      · cases hA
    subst hx
    have hn0 : n = 0 := by simpa using hn
    subst hn0
    clear hn
    have q := fun w n c n' c' => Lib.run_eql_slice_nil (P := Try.prog) w 22 _ none n c n' c' Try.underlying22
    go_enter Try.func20, Try.ntmps20
    go_wp2
    go_ret
    exact ⟨_, rfl, World.ownsRow_nil _ _ _ _, Below.refl _ _⟩
  · have q := fun w n c n' c' => Lib.run_eql_slice_nil (P := Try.prog) w 22 _ (some a) n c n' c' Try.underlying22
    have hc : Hid (∀ j u, xs[j]? = some u → w.cell? (a.add j) = some u) := by
      rcases h with h | ⟨a', hA, _, hc⟩
      · intro j u hu; rw [h] at hu; simp at hu
      · cases hA; exact hc
    have Hn := hide hn
    have H1 := hide h1
    clear h hn h1
    go_enter Try.func20, Try.ntmps20
    go_wp2_with (at_builtin; (refine wpList_append_own _ rfl _ _ 22 rfl w.heap.size 5 i0 (.int .u8 0) 1 1 Try.underlying22 hi hz0 hz1 hz2 rfl (by decide) _ _ _ rfl (World.ownsRow_made w #[] 0 (Nat.le_refl _) (Nat.zero_le _) rfl) a n c xs rfl (by have := Hn.out; omega) ?qc2 H1.out ?qc4 ?qc5 ?qc6 ?_))
    case qc2 => intro j u hj; exact Lib.cell?_alloc_some _ (hc.out j u hj)
    case qc4 => unfold maxLen; omega
    case qc5 => omega
    case qc6 => simp
    intro v' w1 hown hgrow hnil
    go_wp2
    go_ret
    exact ⟨v', rfl, by simpa using hown, ((Below.refl _ w).alloc (Nat.le_refl _) _).grown hgrow (by simp) (by intro k hk; simp [Value.ownBlock] at hk; omega)⟩

theorem clone_nil (n c : Nat) (w : World) : Calls Try.prog 20 #[.slice none n c] w fun e w' => e = .returned (.slice none 0 0) ∧ w = w' := by
  have q := fun w n c n' c' => Lib.run_eql_slice_nil (P := Try.prog) w 22 _ none n c n' c' Try.underlying22
  go_enter Try.func20, Try.ntmps20
  go_wp2
  go_ret
  exact ⟨rfl, rfl⟩

/-- clamp. -/
theorem clamp_any (a : Int) (w : World) : Calls Try.prog 21 #[.int .i64 a] w fun e w' => e = .returned (.int .i64 (min (max a 0) 8)) ∧ w = w' := by
  rcases (by omega : a < 0 ∨ 0 ≤ a ∧ a ≤ 8 ∨ 8 < a) with h | h | h
  all_goals
    go_enter Try.func21, Try.ntmps21
    go_wp2
    all_goals (go_ret; refine ⟨?_, rfl⟩; simp; omega)

theorem onto_any (A : Option Addr) (n c : Nat) (w : World) : Calls Try.prog 19 #[.slice A n c] w fun e w' => e = .returned (.func (.func 24) #[] #[.pointer (some ⟨w.heap.size, 0, none⟩)]) ∧ w.alloc (.cells #[.slice A n c] 22) = w' := by
  go_enter Try.func19, Try.ntmps19
  go_wp2
  go_ret
  exact ⟨rfl, rfl⟩

set_option maxHeartbeats 400000 in
theorem lay_any (g base m : Nat) (v : Value) (xs : List Value) (a n : Int) (w : World) (h0 : 0 ≤ a) (h8 : a ≤ 8) (hn0 : 0 ≤ n)
    (hg : w.heap[g]? = some (.cells #[v] 22 (0, 0))) (hown : w.ownsRow base 5 1 v m xs) (hgb : base ≤ g) (hb : base ≤ w.heap.size) (hm : m ≤ 140737488355000) :
    Calls Try.prog 24 #[.int .i64 a, .int .u64 n, .pointer (some ⟨g, 0, none⟩)] w fun e w' => ∃ v', e = .returned v' ∧ w'.heap[g]? = some (.cells #[v'] 22 (0, 0)) ∧
      w'.ownsRow base 5 1 v' (m + a.toNat) (xs ++ bys (beB a.toNat n.toNat)) ∧ Below base w w' := by
  obtain ⟨i0, hi, hz0, hz1, hz2⟩ := info_parts u8info
  obtain ⟨k, rfl⟩ := Int.eq_ofNat_of_zero_le h0
  go_enter Try.func24, Try.ntmps24
  go_wp2
  go_loopw [6] (fun i wr => ∃ r : Nat, r ≤ k ∧ i = .int .i64 ((r : Int) - 1) ∧ ∃ u, wr.heap[g]? = some (.cells #[u] 22 (0, 0)) ∧
      wr.ownsRow base 5 1 u (m + (k - r)) (xs ++ bys ((beB k n.toNat).take (k - r))) ∧ Below base w wr) (fun i _ => (intOf i + 1).toNat)
  case atStart => exact ⟨k, Nat.le_refl _, rfl, v, hg, by simpa [bys] using hown, Below.refl _ _⟩
  case round =>
    obtain ⟨r, hr, rfl, u, hgu, hou, hbl⟩ := hrel
    have hc := cell_of_one hgu
    have hf := free_of_one hgu
    by_cases hr0 : r = 0
    · subst hr0
      go_wp2
      go_ret
      exact ⟨u, rfl, hgu, by rw [List.take_of_length_le (by simp [beB_len])] at hou; simpa using hou, hbl⟩
    · obtain ⟨s, rfl⟩ : ∃ s, r = s + 1 := ⟨r - 1, by omega⟩
      have e1 : ((s + 1 : Nat) : Int) - 1 = (s : Int) := by omega
      rw [e1]
      clear e1 hr0
      have Hou := hide hou
      have Hgu := hide hgu
      clear hou hgu
      have hsz : base ≤ wr.heap.size := Nat.le_trans hb hbl.size
      have hgl := lt_of_block Hgu.out
      have e8 : IntKind.i64.wrap (8 * (s : Int)) = 8 * (s : Int) := IntWalk.i64_in _ (by omega)
      have p8 : 0 ≤ 8 * (s : Int) := by omega
      go_wp2
      go_region_law (refine step_append_lies _ rfl (.tmp 13) (.tmp 19) 22 rfl base 5 i0 (.int .u8 0) 1 1 Try.underlying22 hi hz0 hz1 hz2 rfl (by decide) u (m + (k - (s + 1))) _ (by simp [Act.eval]) (Hou.out.alloc _) ⟨wr.heap.size, 0, none⟩ 1 1 _ (by simp [Act.eval]) (by rfl) (World.news_of_block (t := 5) (fr := (0, 0)) (heap_alloc_new _ _)) (by simp [Value.oneCell']) (by decide) (by unfold maxLen; omega) (by omega) (by simp; omega) _ rfl ?_; intro g1 c1 w1 hown1 hg1 hat1 hlt1; have Hg1 := hide ((hg1.block g (by simp; omega) (Ne.symm (own_ne Hou.out Hgu.out (by decide)))).trans ((Below.heap_alloc _ _ _ hgl).trans Hgu.out)); have hc1 := cell_of_one Hg1.out; have hf1 := free_of_one Hg1.out; have Ho1 := hide hown1; have Hb1 := hide hg1; clear hat1 hown1 hg1)
      all_goals
        go_wp2
        refine ⟨⟨s, by omega, rfl, _, one_setCell Hg1.out, ?_, ?_⟩, by simp [intOf]⟩
        · have hne := own_ne Ho1.out Hg1.out (by decide)
          have h2 := ownsRow_setCell_other Ho1.out (a := ⟨g, 0, none⟩) hne (.slice (some ⟨g1, 0, none⟩) (m + (k - (s + 1)) + 1) c1)
          have e2 : k - s = k - (s + 1) + 1 := by omega
          rw [u8_of_shr n hn0 s] at h2
          rw [e2, beB_take_succ _ _ _ (by omega), bys_app, ← List.append_assoc, show k - 1 - (k - (s + 1)) = s by omega]
          exact h2
        · exact (((hbl.alloc hsz _).drew).grown Hb1.out (by simp; omega) (fun j hj => (Hou.out.lt j hj).1)).setCell hgb _

/-- Put: b, and behind it the lowest w bytes. -/
theorem put_any (A : Option Addr) (n c B : Nat) (l : List UInt8) (a x : Int) (w : World) (h : Lies w B A (bys l)) (hn : n = l.length) (hbig : n ≤ 140737488350000) (hx0 : 0 ≤ x) :
    Calls Try.prog 7 #[.slice A n c, .int .i64 a, .int .u64 x] w fun e w' => ∃ v', e = .returned v' ∧
      w'.ownsRow w.heap.size 5 1 v' (n + (min (max a 0) 8).toNat) (bys (l ++ beB (min (max a 0) 8).toNat x.toNat)) ∧ Below w.heap.size w w' := by
  have Hn := hide hn
  clear hn
  have hk0 : 0 ≤ min (max a 0) 8 := by omega
  have hk8 : min (max a 0) 8 ≤ 8 := by omega
  go_enter Try.func7, Try.ntmps7
  go_wp2_with fail
  refine (clone_any A n c B (bys l) _ h (by rw [bys_len]; exact Hn.out) (bys_one l) (by omega)).mono ?_
  rintro e w1 ⟨v1, rfl, hown1, hb1⟩
  obtain ⟨A1, c1, rfl, _⟩ := own_form hown1
  have Hown1 := hide hown1
  clear hown1
  go_wp2_with fail
  refine (onto_any A1 n c1 _).mono ?_
  rintro e w2 ⟨rfl, rfl⟩
  go_wp2_with fail
  refine (clamp_any a _).mono ?_
  rintro e w2 ⟨rfl, rfl⟩
  go_wp2_with fail
  refine (lay_any w1.heap.size w.heap.size n (.slice A1 n c1) (bys l) _ x _ hk0 hk8 hx0 (heap_alloc_new _ _) (Hown1.out.alloc _) hb1.size (by have := hb1.size; simp; omega) (by omega)).mono ?_
  rintro e w3 ⟨v3, rfl, _, hown3, hb3⟩
  go_wp2
  go_ret
  refine ⟨v3, rfl, by rw [bys_app]; exact hown3, (hb1.alloc hb1.size _).trans hb3⟩

end Go.Proofs.Ytfjlidngialpaaa
