/-
  CONTRACTS of package be, first part: clamp, onto and the function that it makes.
-/
import Derived.Test.YtigpplckddnghaaGreatBytes
import Derived.Test.YtigpplckddnghaaGreatNum
namespace Go.Proofs.YtigpplckddnghaaGreat
open Go.RowKit

/-- clamp. -/
theorem clamp_any (a : Int) (w : World) : Calls Tryz.prog 151 #[.int .i64 a] w fun e w' => e = .returned (.int .i64 (min (max a 0) 8)) ∧ w = w' := by
  rcases (by omega : a < 0 ∨ 0 ≤ a ∧ a ≤ 8 ∨ 8 < a) with h | h | h
  all_goals
    go_enter Tryz.func151, Tryz.ntmps151
    go_wp2
    all_goals (go_ret; refine ⟨?_, rfl⟩; simp; omega)

theorem onto_any (A : Option Addr) (n c : Nat) (w : World) : Calls Tryz.prog 115 #[.slice A n c] w fun e w' => e = .returned (.func (.func 150) #[] #[.pointer (some ⟨w.heap.size, 0, none⟩)]) ∧ w.alloc (.cells #[.slice A n c] 67) = w' := by
  go_enter Tryz.func115, Tryz.ntmps115
  go_wp2
  go_ret
  exact ⟨rfl, rfl⟩

set_option maxHeartbeats 400000 in
theorem lay_any (g base m : Nat) (v : Value) (xs : List Value) (a n : Int) (w : World) (h0 : 0 ≤ a) (h8 : a ≤ 8) (hn0 : 0 ≤ n)
    (hg : w.heap[g]? = some (.cells #[v] 67 (0, 0))) (hown : w.ownsRow base 5 1 v m xs) (hgb : base ≤ g) (hb : base ≤ w.heap.size) (hm : m ≤ 140737488355000) :
    Calls Tryz.prog 150 #[.int .i64 a, .int .u64 n, .pointer (some ⟨g, 0, none⟩)] w fun e w' => ∃ v', e = .returned v' ∧ w'.heap[g]? = some (.cells #[v'] 67 (0, 0)) ∧
      w'.ownsRow base 5 1 v' (m + a.toNat) (xs ++ bys (beB a.toNat n.toNat)) ∧ Below base w w' := by
  obtain ⟨i0, hi, hz0, hz1, hz2⟩ := info_parts u8info
  obtain ⟨k, rfl⟩ := Int.eq_ofNat_of_zero_le h0
  go_enter Tryz.func150, Tryz.ntmps150
  go_wp2
  go_loopw [6] (fun i wr => ∃ r : Nat, r ≤ k ∧ i = .int .i64 ((r : Int) - 1) ∧ ∃ u, wr.heap[g]? = some (.cells #[u] 67 (0, 0)) ∧
      wr.ownsRow base 5 1 u (m + (k - r)) (xs ++ bys ((beB k n.toNat).take (k - r))) ∧ Below base w wr) (fun i _ => (intOf i + 1).toNat)
  case atStart => exact ⟨k, Nat.le_refl _, rfl, v, hg, by simpa [bys] using hown, Below.refl _ _⟩
  case round =>
    obtain ⟨r, hr, rfl, u, hgu, hou, hbl⟩ := hrel
    have hc := cell_of_one hgu
    have hf := free_of_one hgu
    by_cases hr0 : r = 0
    · subst hr0
      go_wp2
      go_ret
      exact ⟨u, rfl, hgu, by rw [List.take_of_length_le (by simp [beB_len])] at hou; simpa using hou, hbl⟩
    · obtain ⟨s, rfl⟩ : ∃ s, r = s + 1 := ⟨r - 1, by omega⟩
      have e1 : ((s + 1 : Nat) : Int) - 1 = (s : Int) := by omega
      rw [e1]
      clear e1 hr0
      have Hou := hide hou
      have Hgu := hide hgu
      clear hou hgu
      have hsz : base ≤ wr.heap.size := Nat.le_trans hb hbl.size
      have hgl := lt_of_block Hgu.out
      have e8 : IntKind.i64.wrap (8 * (s : Int)) = 8 * (s : Int) := IntWalk.i64_in _ (by omega)
      have p8 : 0 ≤ 8 * (s : Int) := by omega
      go_wp2
      go_region_law (refine step_append_lies _ rfl (.tmp 13) (.tmp 19) 67 rfl base 5 i0 (.int .u8 0) 1 1 Tryz.underlying67 hi hz0 hz1 hz2 rfl (by decide) u (m + (k - (s + 1))) _ (by simp [Act.eval]) (Hou.out.alloc _) ⟨wr.heap.size, 0, none⟩ 1 1 _ (by simp [Act.eval]) (by rfl) (World.news_of_block (t := 5) (fr := (0, 0)) (heap_alloc_new _ _)) (by simp [Value.oneCell']) (by decide) (by unfold maxLen; omega) (by omega) (by simp; omega) _ rfl ?_; intro g1 c1 w1 hown1 hg1 hat1 hlt1; have Hg1 := hide ((hg1.block g (by simp; omega) (Ne.symm (own_ne Hou.out Hgu.out (by decide)))).trans ((Below.heap_alloc _ _ _ hgl).trans Hgu.out)); have hc1 := cell_of_one Hg1.out; have hf1 := free_of_one Hg1.out; have Ho1 := hide hown1; have Hb1 := hide hg1; clear hat1 hown1 hg1)
      all_goals
        go_wp2
        refine ⟨⟨s, by omega, rfl, _, one_setCell Hg1.out, ?_, ?_⟩, by simp [intOf]⟩
        · have hne := own_ne Ho1.out Hg1.out (by decide)
          have h2 := ownsRow_setCell_other Ho1.out (a := ⟨g, 0, none⟩) hne (.slice (some ⟨g1, 0, none⟩) (m + (k - (s + 1)) + 1) c1)
          have e2 : k - s = k - (s + 1) + 1 := by omega
          rw [u8_of_shr n hn0 s] at h2
          rw [e2, beB_take_succ _ _ _ (by omega), bys_app, ← List.append_assoc, show k - 1 - (k - (s + 1)) = s by omega]
          exact h2
        · exact (((hbl.alloc hsz _).drew).grown Hb1.out (by simp; omega) (fun j hj => (Hou.out.lt j hj).1)).setCell hgb _

end Go.Proofs.YtigpplckddnghaaGreat
