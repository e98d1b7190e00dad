/-
  CONTRACTS of bytes.Clone.
-/
import Derived.Test.YtigpplckddnghaaGreatBytes
namespace Go.Proofs.YtigpplckddnghaaGreat
open Go.RowKit

/-- bytes.Clone: a row of the call's own with the same bytes (nil of nil). -/
theorem clone_any (A : Option Addr) (n c B : Nat) (xs : List Value) (w : World) (h : Lies w B A xs) (hn : n = xs.length) (h1 : ∀ u ∈ xs, u.oneCell' = true) (hbig : n ≤ 140737488355328) :
    Calls Tryz.prog 71 #[.slice A n c] w fun e w' => ∃ v', e = .returned v' ∧ w'.ownsRow w.heap.size 5 1 v' n xs ∧ Below w.heap.size w w' := by
  obtain ⟨i0, hi, hz0, hz1, hz2⟩ := info_parts u8info
  rcases A with _ | a
  · have hx : xs = [] := by
      rcases h with h | ⟨a, hA, _⟩
      · exact h
      · cases hA
    subst hx
    have hn0 : n = 0 := by simpa using hn
    subst hn0
    clear hn
    have q := fun w n c n' c' => Lib.run_eql_slice_nil (P := Tryz.prog) w 67 _ none n c n' c' Tryz.underlying67
    go_enter Tryz.func71, Tryz.ntmps71
    go_wp2
    go_ret
    exact ⟨_, rfl, World.ownsRow_nil _ _ _ _, Below.refl _ _⟩
  · have q := fun w n c n' c' => Lib.run_eql_slice_nil (P := Tryz.prog) w 67 _ (some a) n c n' c' Tryz.underlying67
    have hc : Hid (∀ j u, xs[j]? = some u → w.cell? (a.add j) = some u) := by
      rcases h with h | ⟨a', hA, _, hc⟩
      · intro j u hu; rw [h] at hu; simp at hu
      · cases hA; exact hc
    have Hn := hide hn
    have H1 := hide h1
    clear h hn h1
    go_enter Tryz.func71, Tryz.ntmps71
    go_wp2_with (at_builtin; (refine wpList_append_own _ rfl _ _ 67 rfl w.heap.size 5 i0 (.int .u8 0) 1 1 Tryz.underlying67 hi hz0 hz1 hz2 rfl (by decide) _ _ _ rfl (World.ownsRow_made w #[] 0 (Nat.le_refl _) (Nat.zero_le _) rfl) a n c xs rfl (by have := Hn.out; omega) ?qc2 H1.out ?qc4 ?qc5 ?qc6 ?_))
    case qc2 => intro j u hj; exact Lib.cell?_alloc_some _ (hc.out j u hj)
    case qc4 => unfold maxLen; omega
    case qc5 => omega
    case qc6 => simp
    intro v' w1 hown hgrow hnil
    go_wp2
    go_ret
    exact ⟨v', rfl, by simpa using hown, ((Below.refl _ w).alloc (Nat.le_refl _) _).grown hgrow (by simp) (by intro k hk; simp [Value.ownBlock] at hk; omega)⟩

theorem clone_nil (n c : Nat) (w : World) : Calls Tryz.prog 71 #[.slice none n c] w fun e w' => e = .returned (.slice none 0 0) ∧ w = w' := by
  have q := fun w n c n' c' => Lib.run_eql_slice_nil (P := Tryz.prog) w 67 _ none n c n' c' Tryz.underlying67
  go_enter Tryz.func71, Tryz.ntmps71
  go_wp2
  go_ret
  exact ⟨rfl, rfl⟩

end Go.Proofs.YtigpplckddnghaaGreat
