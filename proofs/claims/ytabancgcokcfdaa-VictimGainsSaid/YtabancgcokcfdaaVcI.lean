/-
  LAYER 22, SORTING BY A FUNCTION THAT KEEPS WHAT IT TOLD, walks: insertionSortCmpFunc.
-/
import Derived.Test.YtabancgcokcfdaaVcS
import Derived.Deep.RegionLaw
import Derived.StillTailTactics
namespace Go.Proofs.Ytabancgcokcfdaa
open Go.RowKit
set_option maxRecDepth 8000
namespace Vc
section
variable {L : List Pl2} {S : List Int} {q base g c N : Nat} {W0 : World}
set_option maxHeartbeats 4000000 in
theorem ins_cmp (a b : Nat) (D R : Array Int) (w : World) (hs : Vd L S q base g c N W0 D w) (hab : a < b) (hb : b ≤ N) (hN : N ≤ 1000) (hR : Sort.insertionSort (ltV L) D a b = R) :
    Calls Try.prog 33 #[.slice (some ⟨g, 0, none⟩) N c, .int .i64 (a : Int), .int .i64 (b : Int), .func (.func 23) #[] #[.pointer (some ⟨q + 3, 0, none⟩)]] w fun e w' => e = .returned (.tuple #[]) ∧ Vd L S q base g c N W0 R w' := by
  have eg := egV
  have Hs := hide hs
  have HR : Hid (Sort.insOuter (ltV L) a b (a + 1) D = R) := hide hR
  have e0 : wrap64 ((a : Int) + 1) = ((a + 1 : Nat) : Int) := by unfold wrap64; omega
  clear hs hR
  go_enter Try.func33, Try.ntmps33
  go_wp2
  go_loopw [8, 9] (fun i _ wr => ∃ (j : Nat) (D : Array Int), a < j ∧ j ≤ b ∧ i = .int .i64 (j : Int) ∧ Hid (Sort.insOuter (ltV L) a b j D = R) ∧ Hid (Vd L S q base g c N W0 D wr)) (fun i _ _ => b - (RowKit.intOf i).toNat)
  case atStart => exact ⟨a + 1, D, by omega, by omega, rfl, HR, Hs⟩
  case round =>
    clear Hs HR
    obtain ⟨j, D, haj, hjb, rfl, HR, Hs⟩ := hrel
    by_cases hlt : j < b
    · have e1 : wrap64 ((j : Int) + 1) = ((j + 1 : Nat) : Int) := by unfold wrap64; omega
      have HR2 := hide (show Sort.insOuter (ltV L) a b (j + 1) (Sort.insInner (ltV L) a j D) = R by have := HR.out; rwa [Sort.insOuter, if_pos hlt] at this)
      generalize hE : Sort.insInner (ltV L) a j D = E at HR2
      have HE := hide hE
      clear HR hE
      go_wp2
      go_loopw [9] (fun k wr => ∃ (k' : Nat) (D1 : Array Int), a ≤ k' ∧ k' ≤ j ∧ k = .int .i64 (k' : Int) ∧ Hid (Sort.insInner (ltV L) a k' D1 = E) ∧ Hid (Vd L S q base g c N W0 D1 wr)) (fun k _ => (RowKit.intOf k).toNat)
      case atStart => exact ⟨j, D, by omega, Nat.le_refl _, rfl, HE, Hs⟩
      case round =>
        clear Hs HE
        obtain ⟨k, D1, hak, hkj, rfl, HE, Hs⟩ := hrel
        by_cases hk : a < k
        · obtain ⟨i, hi⟩ : ∃ i, k = i + 1 := ⟨k - 1, by omega⟩
          have hkN : k < N := by omega
          have hiN : i < N := by omega
          have c1 := Vd.at Hs.out.drew hkN
          have c0 := Vd.at Hs.out.drew hiN
          have e3 : IntKind.i64.wrap ((k : Int) - 1) = (i : Int) := by rw [IntWalk.i64_in _ (by omega)]; omega
          have e4 : wrap64 ((k : Int) - 1) = (i : Int) := by unfold wrap64; omega
          have g1 : decide (a < k) = true := decide_eq_true hk
          have b1 : (k : Int) < (N : Int) := by omega
          have b0 : (i : Int) < (N : Int) := by omega
          have FC := hide (Hs.out.drew.cmp (Hs.out.mem k hkN) (Hs.out.mem i hiN))
          have hl := cf_lt L D1[k]! D1[i]!
          have HE2 := hide (show (if (true && ltV L D1[k]! D1[i]!) = true then Sort.insInner (ltV L) a i (Sort.swp D1 k i) else D1) = E by
            have := HE.out; rw [hi, Sort.insInner, ← hi, g1] at this; exact this)
          rw [← hl, Bool.true_and] at HE2
          clear hl HE
          have HV : Hid (∀ W, Vd L S q base g c N W0 D1 W → Vd L S q base g c N W0 (Sort.swp D1 k i) ((W.setCell ⟨g, k, none⟩ (.int .i64 D1[i]!)).setCell ⟨g, i, none⟩ (.int .i64 D1[k]!))) := hide (fun W h => h.swap hkN hiN)
          have HC1 : Hid (∀ W, Vd L S q base g c N W0 D1 W → W.cell? ⟨g, k, none⟩ = some (.int .i64 D1[k]!) ∧ W.cell? ⟨g, i, none⟩ = some (.int .i64 D1[i]!)) := hide (fun W h => ⟨h.at hkN, h.at hiN⟩)
          generalize D1[k]! = x at *
          generalize D1[i]! = y at *
          generalize cfV L x y = z at *
          have Hi := hide hi
          have Hlt := hide hlt
          have Hak := hide hak
          clear hi hlt hak
          go_wp2
          by_cases hz : z < 0
          · have gz : decide (z < 0) = true := decide_eq_true hz
            have HE3 := hide (show Sort.insInner (ltV L) a i (Sort.swp D1 k i) = E by have := HE2.out; rwa [if_pos gz] at this)
            clear hz HE2
            go_still_tail 14, (by kernel_rfl)
            change wpList _ _ _ _ _ wr.drew
            generalize wr.drew = wd at *
            go_wp2_with (first | (go_at_fn 23; refine FC.out.mono ?_; rintro e w4 ⟨rfl, hv, hg⟩; have H4 := hide hv; clear hv hg FC))
            have n1 : k ≠ i := by have := Hi.out; omega
            have n2 : i ≠ k := fun h => n1 h.symm
            obtain ⟨c1, c0⟩ := HC1.out _ H4.out
            have f1 := H4.out.froz k
            have f0 := H4.out.froz i
            have H5 := hide (HV.out _ H4.out).drew
            go_region
            go_wp2
            have hak := Hak.out
            have hi := Hi.out
            exact ⟨⟨i, Sort.swp D1 k i, by omega, by omega, rfl, HE3, H5⟩, by rw [hi]; exact Nat.lt_succ_self i⟩
          · have gz : decide (z < 0) = false := decide_eq_false hz
            have HE3 := hide (show D1 = E by have := HE2.out; rwa [if_neg (by rw [gz]; decide)] at this)
            clear hz HE2
            go_still_tail 14, (by kernel_rfl)
            change wpList _ _ _ _ _ wr.drew
            generalize wr.drew = wd at *
            go_wp2_with (first | (go_at_fn 23; refine FC.out.mono ?_; rintro e w4 ⟨rfl, hv, hg⟩; have H4 := hide hv; clear hv hg FC))
            have hlt := Hlt.out
            have hak := Hak.out
            exact ⟨⟨j + 1, E, by omega, by omega, rfl, HR2, hide (by rw [← HE3.out]; exact H4.out)⟩, measS hlt⟩
        · have g1 : decide (a < k) = false := decide_eq_false hk
          have hst : D1 = E := by
            rw [← HE.out]
            cases k with
            | zero => rfl
            | succ i => rw [Sort.insInner, g1, Bool.false_and, if_neg (by decide)]
          go_wp2
          go_quiet (fail)
          go_wp2
          exact ⟨⟨j + 1, E, by omega, by omega, rfl, HR2, hide (by rw [← hst]; exact Hs.out.drewN nq)⟩, measS hlt⟩
    · obtain rfl : j = b := by omega
      have hd : D = R := by have := HR.out; rwa [Sort.insOuter, if_neg (Nat.lt_irrefl _)] at this
      subst hd
      go_wp2
      go_end0
      exact ⟨rfl, Hs.out⟩
end
end Vc
end Go.Proofs.Ytabancgcokcfdaa
