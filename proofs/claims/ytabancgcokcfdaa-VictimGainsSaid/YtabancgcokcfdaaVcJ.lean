/-
  LAYER 22, SORTING BY A FUNCTION THAT KEEPS WHAT IT TOLD, walks: heapSortCmpFunc.
-/
import Derived.Test.YtabancgcokcfdaaVcH
namespace Go.Proofs.Ytabancgcokcfdaa
open Go.RowKit
set_option maxRecDepth 8000
namespace Vc
section
variable {L : List Pl2} {S : List Int} {q base g c N : Nat} {W0 : World}
set_option maxHeartbeats 4000000 in
theorem heap_cmp (a b : Nat) (D : Array Int) (w : World) (hs : Vd L S q base g c N W0 D w) (hab : a < b) (hb : b ≤ N) (hN : N ≤ 1000) :
    Calls Try.prog 34 #[.slice (some ⟨g, 0, none⟩) N c, .int .i64 (a : Int), .int .i64 (b : Int), .func (.func 23) #[] #[.pointer (some ⟨q + 3, 0, none⟩)]] w fun e w' => e = .returned (.tuple #[]) ∧ Vd L S q base g c N W0 (Sort.heapSort (ltV L) D a b) w' := by
  obtain ⟨hi, hhi⟩ : ∃ hi, b - a = hi := ⟨_, rfl⟩
  obtain ⟨h2, hh2⟩ : ∃ h2, (hi - 1) / 2 = h2 := ⟨_, rfl⟩
  obtain ⟨h1, hh1⟩ : ∃ h1, hi = h1 + 1 := ⟨hi - 1, by omega⟩
  have k0 : (b : Int) - (a : Int) = (hi : Int) := by omega
  have k1 : (hi : Int) - 1 = (h1 : Int) := by omega
  have k2 : hi ≤ 1000 ∧ h1 ≤ 1000 ∧ h2 ≤ 1000 := by omega
  have H2 : Hid (h2 < hi ∧ hi ≤ N ∧ N ≤ 1000 ∧ a + hi ≤ N) := hide (by omega)
  have E2 : Hid ((h1 : Int).tdiv 2 = (h2 : Int)) := hide (by rw [← hh2, hh1, Nat.add_sub_cancel]; exact (Int.ofNat_tdiv h1 2).symm)
  have HE := hide (show Sort.heapSort (ltV L) D a b = Sort.heapPop (ltV L) a hi (Sort.heapBuild (ltV L) hi a (h2 + 1) D) by unfold Sort.heapSort; rw [hhi, hh2])
  have H1 := hide (show (hi : Int) - 1 = (h1 : Int) from k1)
  have e0 : wrap64 ((b : Int) - (a : Int)) = (hi : Int) := by rw [k0]; exact w6m (Nat.le_trans k2.1 (by decide))
  have e1 : wrap64 ((hi : Int) - 1) = (h1 : Int) := by rw [k1]; exact w6m (Nat.le_trans k2.2.1 (by decide))
  have e2 := E2.out
  have e3 : wrap64 (h2 : Int) = (h2 : Int) := w6m (Nat.le_trans k2.2.2 (by decide))
  have F := hide (fun (hi r : Nat) (E : Array Int) W (h : Vd L S q base g c N W0 E W) (h1 : a + hi ≤ N) (h2 : r ≤ 1000) => sift_cmp hi a r E W h h1 H2.out.2.2.1 h2)
  have F0 : Hid (∀ (j : Nat) (E : Array Int) W, Vd L S q base g c N W0 E W → a + j ≤ N → Calls Try.prog 43 #[.slice (some ⟨g, 0, none⟩) N c, .int .i64 0, .int .i64 (j : Int), .int .i64 (a : Int), .func (.func 23) #[] #[.pointer (some ⟨q + 3, 0, none⟩)]] W fun e w' => e = .returned (.tuple #[]) ∧ Vd L S q base g c N W0 (Sort.siftDown (ltV L) j a 0 E) w') := hide (fun j E W h h1 => F.out j 0 E W h h1 (Nat.zero_le _))
  generalize Sort.heapSort (ltV L) D a b = R at *
  generalize hB : Sort.heapBuild (ltV L) hi a (h2 + 1) D = B at *
  have HB := hide hB
  have Hs := hide hs
  clear hs hab hb hN hhi hh2 hh1 hB k0 k1 k2
  go_enter Try.func34, Try.ntmps34
  go_upto_block 0 with fail
  simp only [e0, e1, e3]
  go_cut [11] from 20 to 29 (fun _ wx => Hid (Vd L S q base g c N W0 B wx))
  case first =>
    go_wp2_with fail
    go_loopw [11] (fun s wr => ∃ (k : Nat) (E : Array Int), k ≤ h2 + 1 ∧ s = .int .i64 ((k : Int) - 1) ∧ Hid (Sort.heapBuild (ltV L) hi a k E = B) ∧ Hid (Vd L S q base g c N W0 E wr)) (fun s _ => (RowKit.intOf s + 1).toNat)
    case atStart => exact ⟨h2 + 1, D, Nat.le_refl _, by simp, HB, Hs⟩
    case round =>
      clear Hs HB
      obtain ⟨k, E, hk, rfl, HB, Hs⟩ := hrel
      cases k with
      | zero =>
        have hst : E = B := by rw [← HB.out, Sort.heapBuild]
        go_wp2
        go_meet
        exact hide (by rw [← hst]; exact Hs.out)
      | succ j =>
        have ej : ((j + 1 : Nat) : Int) - 1 = (j : Int) := by omega
        rw [ej]
        have g1 : decide ((0 : Int) ≤ (j : Int)) = true := decide_eq_true (Int.natCast_nonneg j)
        have hj1 : j ≤ 1000 := by clear e0 e1 e2 e3; have := H2.out; omega
        have e5 : wrap64 ((j : Int) - 1) = (j : Int) - 1 := by clear e0 e1 e2 e3; unfold wrap64; omega
        have HB2 := hide (show Sort.heapBuild (ltV L) hi a j (Sort.siftDown (ltV L) hi a j E) = B by rw [← HB.out, Sort.heapBuild])
        have Hj := hide (show j ≤ h2 + 1 by clear e0 e1 e2 e3 e5; omega)
        have Hj1 := hide hj1
        clear HB hk ej hj1
        go_wp2_with fail
        (with_reducible refine (F.out hi j E _ Hs.out H2.out.2.2.2 Hj1.out).mono ?_)
        rintro e w1 ⟨rfl, h⟩
        have HT := hide h
        clear h Hs
        go_wp2
        exact ⟨⟨j, _, Hj.out, congrArg _ e5, HB2, HT⟩, by first | exact measD j | (rw [e5]; exact measD j)⟩
  clear Hs HB
  have HB := hide HE.out
  clear HE
  go_wp2_with fail
  go_loopw [12] (fun s wr => ∃ (k : Nat) (E : Array Int), k ≤ hi ∧ s = .int .i64 ((k : Int) - 1) ∧ Hid (Sort.heapPop (ltV L) a k E = R) ∧ Hid (Vd L S q base g c N W0 E wr)) (fun s _ => (RowKit.intOf s + 1).toNat)
  case atStart => exact ⟨hi, B, Nat.le_refl _, congrArg _ (e1.trans H1.out.symm), hide HB.out.symm, hcut⟩
  case round =>
    clear hcut HB
    obtain ⟨k, E, hk, rfl, HB, Hs⟩ := hrel
    cases k with
    | zero =>
      have hst : E = R := by rw [← HB.out, Sort.heapPop]
      go_wp2
      go_end0
      exact ⟨rfl, by rw [← hst]; exact Hs.out⟩
    | succ j =>
      have ej : ((j + 1 : Nat) : Int) - 1 = (j : Int) := by omega
      rw [ej]
      have g1 : decide ((0 : Int) ≤ (j : Int)) = true := decide_eq_true (Int.natCast_nonneg j)
      have HB2 := hide (show Sort.heapPop (ltV L) a j (Sort.siftDown (ltV L) j a 0 (Sort.swp E a (a + j))) = R by rw [← HB.out, Sort.heapPop])
      obtain ⟨aj, haj⟩ : ∃ aj, a + j = aj := ⟨_, rfl⟩
      rw [haj] at HB2
      have hN := H2.out
      have hj1 : j ≤ 1000 := by clear e0 e1 e2 e3; omega
      have haN : a < N := by clear e0 e1 e2 e3; omega
      have hajN : aj < N := by clear e0 e1 e2 e3; omega
      have haj1 : aj ≤ 1000 := by clear e0 e1 e2 e3; omega
      have k1 : (a : Int) + (j : Int) = (aj : Int) := by clear e0 e1 e2 e3; omega
      have b1 : (a : Int) < (N : Int) := by clear e0 e1 e2 e3; omega
      have b2 : (aj : Int) < (N : Int) := by clear e0 e1 e2 e3; omega
      have HjN := hide (show a + j ≤ N ∧ j ≤ hi by clear e0 e1 e2 e3; omega)
      have e5 : wrap64 ((j : Int) - 1) = (j : Int) - 1 := by clear e0 e1 e2 e3; unfold wrap64; omega
      have e6 : wrap64 ((a : Int) + (j : Int)) = (aj : Int) := by rw [k1]; exact w6m (Nat.le_trans haj1 (by decide))
      have e6' : IntKind.i64.wrap ((a : Int) + (j : Int)) = (aj : Int) := by rw [k1]; exact w6i (Nat.le_trans haj1 (by decide))
      have c1 := Vd.at Hs.out haN
      have c2 := Vd.at Hs.out hajN
      have f1 := Vd.froz Hs.out a
      have f2 := Vd.froz Hs.out aj
      have Hs2 := hide (show Vd L S q base g c N W0 (Sort.swp E a aj) ((wr.setCell ⟨g, a, none⟩ (.int .i64 E[aj]!)).setCell ⟨g, aj, none⟩ (.int .i64 E[a]!)).drew from (Vd.swap Hs.out haN hajN).drew)
      have Haj := hide haj
      have HHs := hide Hs.out
      generalize hx : E[a]! = x at *
      generalize hy : E[aj]! = y at *
      clear HB hk ej hj1 haj hN haj1 k1 haN hajN hx hy Hs e0 e1 e2 e3
      by_cases hja : a = aj
      · subst hja
        have hxy : x = y := by
          have := c1.symm.trans c2
          injection this with this
          injection this
        subst hxy
        go_wp2
        go_region
        generalize ((wr.setCell ⟨g, a, none⟩ (.int .i64 x)).setCell ⟨g, a, none⟩ (.int .i64 x)).drew = w1 at *
        go_wp2_with fail
        (with_reducible refine (F0.out j _ _ Hs2.out HjN.out.1).mono ?_)
        rintro e w2 ⟨rfl, h⟩
        have HT := hide h
        clear h Hs2
        go_wp2
        exact ⟨⟨j, _, HjN.out.2, congrArg _ e5, HB2, HT⟩, by first | exact measD j | (rw [e5]; exact measD j)⟩
      · have n2 : aj ≠ a := fun h => hja h.symm
        go_wp2
        go_region
        generalize ((wr.setCell ⟨g, a, none⟩ (.int .i64 y)).setCell ⟨g, aj, none⟩ (.int .i64 x)).drew = w1 at *
        go_wp2_with fail
        (with_reducible refine (F0.out j _ _ Hs2.out HjN.out.1).mono ?_)
        rintro e w2 ⟨rfl, h⟩
        have HT := hide h
        clear h Hs2
        go_wp2
        exact ⟨⟨j, _, HjN.out.2, congrArg _ e5, HB2, HT⟩, by first | exact measD j | (rw [e5]; exact measD j)⟩
end
end Vc
end Go.Proofs.Ytabancgcokcfdaa
