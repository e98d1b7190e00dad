/-
  slices.Sort of a list in order with one number behind it: SortI, SortU.
-/
import Derived.Test.YtigpplckddnghaaGreatSoI2
import Derived.Test.YtigpplckddnghaaGreatSoU2
import Derived.Test.YtigpplckddnghaaGreatSoL
import Derived.Test.YtigpplckddnghaaGreatTbA
namespace Go.Proofs.YtigpplckddnghaaGreat
open Go.RowKit
set_option maxRecDepth 8000
namespace So
theorem bitLen_ne {n : Nat} (h : 0 < n) : ((Lib.bitLen n : Nat) : Int) ≠ 0 := by
  have : Lib.bitLen n ≠ 0 := by
    unfold Lib.bitLen Lib.bitLenAux
    rw [if_neg (by omega)]
    omega
  omega
theorem sort_int {df : Int} (base g c N : Nat) (W0 : World) (d D : List Int) (w : World) (hs : Sd 3 .i64 base g c N W0 d w) (h0 : 0 < N) (hN : N ≤ 1000) (hD : pdqM (fun x y => decide (x < y)) df 8 d 0 N true true = some D) :
    Calls Tryz.prog 66 #[.slice (some ⟨g, 0, none⟩) N c] w fun e w' => e = .returned (.tuple #[]) ∧ Sd 3 .i64 base g c N W0 D w' := by
  have F := hide (fun L hL => pdq_int base g c N W0 L hL hN 8 8 (Nat.le_refl _) 0 N d D w (Nat.zero_le _) (Nat.le_refl _) hD hs)
  have FL := hide (Tryz.bits_Len (N : Int) w (by omega) (by omega))
  have HL := hide (bitLen_ne h0)
  have hw : IntKind.u64.wrap (N : Int) = (N : Int) := by rw [IntKind.wrap_u64]; omega
  clear hs h0 hN hD
  go_enter Tryz.func66, Tryz.ntmps66
  go_wp2_with fail
  (with_reducible refine FL.out.mono ?_)
  rintro e w1 ⟨rfl, rfl⟩
  clear FL
  rw [Int.toNat_natCast]
  generalize ((Lib.bitLen N : Nat) : Int) = L at *
  have F2 := hide (F.out L HL.out)
  rw [show ((0 : Nat) : Int) = 0 from rfl] at F2
  clear F HL
  go_wp2_with fail
  (with_reducible refine F2.out.mono ?_)
  rintro e w1 ⟨rfl, hs⟩
  go_wp2
  go_end0
  exact ⟨rfl, hs⟩
theorem sort_u64 {df : Int} (base g c N : Nat) (W0 : World) (d D : List Int) (w : World) (hs : Sd 22 .u64 base g c N W0 d w) (h0 : 0 < N) (hN : N ≤ 1000) (hD : pdqM (fun x y => decide (x < y)) df 8 d 0 N true true = some D) :
    Calls Tryz.prog 67 #[.slice (some ⟨g, 0, none⟩) N c] w fun e w' => e = .returned (.tuple #[]) ∧ Sd 22 .u64 base g c N W0 D w' := by
  have F := hide (fun L hL => pdq_u64 base g c N W0 L hL hN 8 8 (Nat.le_refl _) 0 N d D w (Nat.zero_le _) (Nat.le_refl _) hD hs)
  have FL := hide (Tryz.bits_Len (N : Int) w (by omega) (by omega))
  have HL := hide (bitLen_ne h0)
  have hw : IntKind.u64.wrap (N : Int) = (N : Int) := by rw [IntKind.wrap_u64]; omega
  clear hs h0 hN hD
  go_enter Tryz.func67, Tryz.ntmps67
  go_wp2_with fail
  (with_reducible refine FL.out.mono ?_)
  rintro e w1 ⟨rfl, rfl⟩
  clear FL
  rw [Int.toNat_natCast]
  generalize ((Lib.bitLen N : Nat) : Int) = L at *
  have F2 := hide (F.out L HL.out)
  rw [show ((0 : Nat) : Int) = 0 from rfl] at F2
  clear F HL
  go_wp2_with fail
  (with_reducible refine F2.out.mono ?_)
  rintro e w1 ⟨rfl, hs⟩
  go_wp2
  go_end0
  exact ⟨rfl, hs⟩
end So
theorem sortI_any {l : List Int} {z : Int} (hl : l.Pairwise (· < ·)) (hz : z ∉ l) (hn : l.length ≤ 36) : ∃ A B, l = A ++ B ∧ (∀ a ∈ A, a < z) ∧ (∀ b ∈ B, z < b) ∧ SortI l z (A ++ z :: B) := by
  obtain ⟨df, A, B, e, ha, hb, hp⟩ := So.pdq_sorts hl hz hn
  refine ⟨A, B, e, ha, hb, by rw [e]; simp; omega, ?_⟩
  intro base Ad c W ho _
  obtain ⟨g, rfl⟩ : ∃ g, Ad = some ⟨g, 0, none⟩ := by
    rcases ho.2 with ⟨_, h0⟩ | ⟨g, cap, cur, hv, _⟩
    · omega
    · injection hv with h1 h2 h3
      exact ⟨g, h1⟩
  refine (So.sort_int base g c (l.length + 1) W (l ++ [z]) (A ++ z :: B) W ⟨ho, World.grownBy.refl _ _⟩ (by omega) (by omega) hp).mono ?_
  rintro e w' ⟨rfl, h1, h2⟩
  exact ⟨rfl, h1, h2⟩
theorem sortU_any {l : List Int} {z : Int} (hl : l.Pairwise (· < ·)) (hz : z ∉ l) (hn : l.length ≤ 36) : ∃ A B, l = A ++ B ∧ (∀ a ∈ A, a < z) ∧ (∀ b ∈ B, z < b) ∧ SortU l z (A ++ z :: B) := by
  obtain ⟨df, A, B, e, ha, hb, hp⟩ := So.pdq_sorts hl hz hn
  refine ⟨A, B, e, ha, hb, by rw [e]; simp; omega, ?_⟩
  intro base Ad c W ho _
  obtain ⟨g, rfl⟩ : ∃ g, Ad = some ⟨g, 0, none⟩ := by
    rcases ho.2 with ⟨_, h0⟩ | ⟨g, cap, cur, hv, _⟩
    · omega
    · injection hv with h1 h2 h3
      exact ⟨g, h1⟩
  refine (So.sort_u64 base g c (l.length + 1) W (l ++ [z]) (A ++ z :: B) W ⟨ho, World.grownBy.refl _ _⟩ (by omega) (by omega) hp).mono ?_
  rintro e w' ⟨rfl, h1, h2⟩
  exact ⟨rfl, h1, h2⟩
end Go.Proofs.YtigpplckddnghaaGreat
