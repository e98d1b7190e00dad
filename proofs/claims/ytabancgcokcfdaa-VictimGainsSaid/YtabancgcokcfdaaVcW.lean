/-
  LAYER 22, THE REFERENCE: Count, Pick; awake.
-/
import Derived.Test.YtabancgcokcfdaaVcZ
namespace Go.Proofs.Ytabancgcokcfdaa
open Go.RowKit
set_option maxRecDepth 8000
namespace Vc
theorem measV {K Z : Nat} {z : Int} (e : z = ((K + 1 : Nat) : Int)) (h : K < Z) : Z - (RowKit.intOf (.int .i64 z)).toNat < Z - (RowKit.intOf (.int .i64 (K : Int))).toNat := by
  rw [e]; exact measU h
set_option maxHeartbeats 4000000 in
theorem rcount_any (A : Option Addr) (c B : Nat) (L : List Pl2) (b : Int) (w : World) (hl : Lies w B A (rowQ L)) (hbig : L.length ≤ 1000) :
    Calls Try.prog 9 #[.slice A L.length c, .int .i64 b] w fun e w' => e = .returned (.int .i64 (cntB b L : Int)) ∧ w = w' := by
  have Hl := hide hl
  obtain ⟨n, hn⟩ : ∃ n, L.length = n := ⟨_, rfl⟩
  have Hn := hide hn
  have Hbig : Hid (n ≤ 1000) := hide (by omega)
  obtain ⟨R, hR⟩ : ∃ R, cntB b L = R := ⟨_, rfl⟩
  rw [hn, hR]
  have HR := hide hR
  clear hl hn hR hbig
  go_enter Try.func9, Try.ntmps9
  go_wp2
  go_loop [5, 6] (fun s i => ∃ j m : Nat, j ≤ n ∧ m ≤ j ∧ i = .int .i64 (j : Int) ∧ s = .int .i64 (m : Int) ∧ Hid (cntB b (L.take j) = m)) (fun _ i => n - (RowKit.intOf i).toNat)
  case atStart => exact ⟨0, 0, Nat.zero_le _, Nat.le_refl _, rfl, rfl, hide rfl⟩
  case round =>
    obtain ⟨j, m, hj, hmj, rfl, rfl, hd⟩ := hrel
    by_cases hlt : j < n
    · have hjl : j < L.length := by rw [Hn.out]; exact hlt
      have hlt' : (j : Int) < (n : Int) := by omega
      obtain ⟨a, rfl, hab, hca⟩ := Hl.out.elem plc_len hjl (by decide)
      have Hd := hide (cntB_next (b := b) hjl)
      have e1 : wrap64 ((j : Int) + 1) = ((j + 1 : Nat) : Int) := by have := Hbig.out; unfold wrap64; omega
      have e2 : wrap64 ((m : Int) + 1) = ((m + 1 : Nat) : Int) := by have := Hbig.out; clear e1; unfold wrap64; omega
      generalize L[j] = u at *
      rcases u with ⟨ux, uy⟩
      have c0 : w.cell? (a.add (j * 2)) = some (.int .i64 ux) := hca 0 _ rfl
      have Hmj := hide hmj
      clear hjl hca hmj
      by_cases hz : ux = b
      · have hb : (ux == b) = true := beq_iff_eq.2 hz
        have Hnew := hide (show cntB b (L.take (j + 1)) = m + 1 by rw [Hd.out, hd.out, if_pos hz])
        clear hz
        go_wp2
        go_round
        case rel => exact ⟨j + 1, m + 1, hlt, Nat.succ_le_succ Hmj.out, congrArg (Value.int .i64) e1, congrArg (Value.int .i64) e2, Hnew⟩
        case measure => first | exact measU hlt | exact measV e1 hlt
      · have hb : (ux == b) = false := beq_eq_false_iff_ne.2 hz
        have Hnew := hide (show cntB b (L.take (j + 1)) = m by rw [Hd.out, hd.out, if_neg hz]; rfl)
        clear hz
        go_wp2
        go_round
        case rel => exact ⟨j + 1, m, hlt, Nat.le_succ_of_le Hmj.out, congrArg (Value.int .i64) e1, rfl, Hnew⟩
        case measure => first | exact measU hlt | exact measV e1 hlt
    · obtain rfl : j = n := by omega
      have hm : m = R := by rw [← HR.out, ← hd.out, List.take_of_length_le (by rw [Hn.out]; exact Nat.le_refl _)]
      subst hm
      go_wp2
      go_ret
      exact ⟨rfl, rfl⟩
set_option maxHeartbeats 8000000 in
theorem rpick_any (A B : Option Addr) (c d : Nat) (zs : List Int) (L : List Pl2) (p : Int) (w : World) (hz : Lies w w.heap.size A (nums .i64 zs)) (hl : Lies w w.heap.size B (rowQ L)) (he : Env L zs) :
    Calls Try.prog 8 #[.slice A zs.length c, .slice B L.length d, .int .i64 p] w fun e w' => e = .returned (.tuple #[.int .i64 (ansP L p zs).1, .bool (ansP L p zs).2]) ∧ w = w' := by
  have FC := hide (fun b => rcount_any B d w.heap.size L b w hl he.l)
  have HZ := hide hz
  obtain ⟨n, hn⟩ : ∃ n, zs.length = n := ⟨_, rfl⟩
  have Hn := hide hn
  have Hs : Hid (n ≤ 1000) := hide (by rw [← hn]; exact he.s)
  have HA := hide (ansP_step L p zs)
  rw [hn] at HA ⊢
  obtain ⟨R, hR⟩ : ∃ R, stepP L p zs n = R := ⟨_, rfl⟩
  rw [HA.out, hR]
  have HR := hide hR
  clear hz hl he hn HA hR
  go_enter Try.func8, Try.ntmps8
  go_wp2
  go_loop [8, 9, 10, 11] (fun x y z i => ∃ k : Nat, k ≤ n ∧ i = .int .i64 (k : Int) ∧ x = .int .i64 (stepP L p zs k).1 ∧ y = .int .i64 (stepP L p zs k).2.1 ∧ z = .bool (stepP L p zs k).2.2) (fun _ _ _ i => n - (RowKit.intOf i).toNat)
  case atStart => exact ⟨0, Nat.zero_le _, rfl, rfl, rfl, rfl⟩
  case round =>
    obtain ⟨k, hk, rfl, rfl, rfl, rfl⟩ := hrel
    by_cases hlt : k < n
    · have hkl : k < zs.length := by rw [Hn.out]; exact hlt
      have hlt' : (k : Int) < (n : Int) := by omega
      obtain ⟨a, rfl, hab, hca⟩ := HZ.out.num hkl
      have e1 : wrap64 ((k : Int) + 1) = ((k + 1 : Nat) : Int) := by have := Hs.out; unfold wrap64; omega
      have Hnx : Hid (stepP L p zs (k + 1) = if (cntB (zs.getD k 0) L : Int) < (stepP L p zs k).2.1 ∨ (stepP L p zs k).2.2 = true ∧ (cntB (zs.getD k 0) L : Int) = (stepP L p zs k).2.1 ∧ zs.getD k 0 < (stepP L p zs k).1 then (zs.getD k 0, (cntB (zs.getD k 0) L : Int), true) else stepP L p zs k) := hide rfl
      have F := hide (FC.out (zs.getD k 0))
      generalize zs.getD k 0 = b at *
      generalize stepP L p zs k = s at *
      generalize (cntB b L : Int) = m at *
      rcases s with ⟨bx, ly, is⟩
      dsimp only at *
      have Hlt := hide hlt
      clear hkl hlt
      go_wp2_with fail
      (with_reducible refine F.out.mono ?_)
      rintro e w2 ⟨rfl, rfl⟩
      clear F
      obtain ⟨u, hu⟩ : ∃ u, decide (m < ly ∨ is = true ∧ m = ly ∧ b < bx) = u := ⟨_, rfl⟩
      have HU := hide hu
      clear hu
      go_upto_region 8 with fail
      go_cut [44] from 26 to 44 (fun s wx => s = .bool u ∧ wx = w)
      case first =>
        have hu := HU.out
        by_cases h1 : m < ly
        · have g1 : decide (m < ly) = true := decide_eq_true h1
          have hg : u = true := by rw [← hu]; exact decide_eq_true (.inl h1)
          subst hg
          clear h1 hu HU
          go_wp2
          go_meet
          exact ⟨rfl, rfl⟩
        · have g1 : decide (m < ly) = false := decide_eq_false h1
          cases is with
          | false =>
            have hg : u = false := by rw [← hu]; exact decide_eq_false (by rintro (h | ⟨h, _⟩); exact h1 h; cases h)
            subst hg
            clear h1 hu HU
            go_wp2
            go_meet
            exact ⟨rfl, rfl⟩
          | true =>
            by_cases h2 : m = ly
            · have g2 : (m == ly) = true := beq_iff_eq.2 h2
              by_cases h3 : b < bx
              · have g3 : decide (b < bx) = true := decide_eq_true h3
                have hg : u = true := by rw [← hu]; exact decide_eq_true (.inr ⟨rfl, h2, h3⟩)
                subst hg
                clear h1 h2 h3 hu HU
                go_wp2
                go_meet
                exact ⟨rfl, rfl⟩
              · have g3 : decide (b < bx) = false := decide_eq_false h3
                have hg : u = false := by rw [← hu]; exact decide_eq_false (by rintro (h | ⟨_, _, h⟩); exact h1 h; exact h3 h)
                subst hg
                clear h1 h2 h3 hu HU
                go_wp2
                go_meet
                exact ⟨rfl, rfl⟩
            · have g2 : (m == ly) = false := beq_eq_false_iff_ne.2 h2
              have hg : u = false := by rw [← hu]; exact decide_eq_false (by rintro (h | ⟨_, h, _⟩); exact h1 h; exact h2 h)
              subst hg
              clear h1 h2 hu HU
              go_wp2
              go_meet
              exact ⟨rfl, rfl⟩
      obtain ⟨rfl, rfl⟩ := hcut
      cases u with
      | true =>
        have HN := hide (show stepP L p zs (k + 1) = (b, m, true) by rw [Hnx.out, if_pos (of_decide_eq_true HU.out)])
        clear HU Hnx
        go_wp2
        have hn := HN.out
        exact ⟨⟨k + 1, Hlt.out, congrArg (Value.int .i64) e1, by rw [hn], by rw [hn], by rw [hn]⟩, by first | exact measU Hlt.out | exact measV e1 Hlt.out⟩
      | false =>
        have HN := hide (show stepP L p zs (k + 1) = (bx, ly, is) by rw [Hnx.out, if_neg (of_decide_eq_false HU.out)])
        clear HU Hnx
        go_wp2
        have hn := HN.out
        exact ⟨⟨k + 1, Hlt.out, congrArg (Value.int .i64) e1, by rw [hn], by rw [hn], by rw [hn]⟩, by first | exact measU Hlt.out | exact measV e1 Hlt.out⟩
    · obtain rfl : k = n := by omega
      rw [HR.out]
      go_wp2
      refine bodyPost_ret (results_tmp2 rfl _ _ _) rfl ?_
      exact ⟨rfl, rfl⟩
end Vc
end Go.Proofs.Ytabancgcokcfdaa
