/-
  CONTRACTS of package zeros: Count, Blank.
-/
import Derived.Test.YtigpplckddnghaaGreatBck
namespace Go.Proofs.YtigpplckddnghaaGreat
open Go.RowKit

theorem count_any (A : Option Addr) (n c B : Nat) (l : List UInt8) (w : World) (h : Lies w B A (bys l)) (hn : n = l.length) (hbig : n ≤ 1000000000000) :
    Calls Tryz.prog 119 #[.slice A n c] w fun e w' => e = .returned (.int .i64 (zc l (8 * l.length) : Nat)) ∧ w = w' := by
  rw [← hn]
  have Hn := hide hn
  have Hl := hide h
  clear hn h
  go_enter Tryz.func119, Tryz.ntmps119
  go_wp2
  go_loop [3, 9] (fun s i => ∃ j : Nat, j ≤ n ∧ i = .int .i64 (j : Int) ∧ s = .int .i64 (zc l (8 * j) : Nat)) (fun _ i => n - (intOf i).toNat)
  case atStart => exact ⟨0, Nat.zero_le _, rfl, rfl⟩
  case round =>
    obtain ⟨j, hj, rfl, rfl⟩ := hrel
    by_cases hlt : j < n
    · have h1 : (j : Int) < (n : Int) := by omega
      obtain ⟨a, rfl, _, hc⟩ := Hl.out.byte (k := j) (by have := Hn.out; omega)
      have hx := (l.getD j 0).toNat_lt
      have Hb := hide (fun k (hk : k < 8) => bitAt_of l j k hk)
      generalize (l.getD j 0).toNat = x at *
      go_wp2
      clear hc
      go_loop [3, 13] (fun s i => ∃ k : Nat, k ≤ 8 ∧ i = .int .i64 (k : Int) ∧ s = .int .i64 (zc l (8 * j + k) : Nat)) (fun _ i => 8 - (intOf i).toNat)
      case atStart => exact ⟨0, Nat.zero_le _, rfl, rfl⟩
      case round =>
        obtain ⟨k, hk, rfl, rfl⟩ := hrel
        have Hz := hide (show zc l (8 * j + (k + 1)) = zc l (8 * j + k) + (1 - bitAt l (8 * j + k)) from rfl)
        have hzl := zc_le l (8 * j + k)
        obtain ⟨z, hz⟩ : ∃ z, z = zc l (8 * j + k) := ⟨_, rfl⟩
        rw [← hz] at Hz hzl ⊢
        have Hz0 := hide hz
        clear hz
        by_cases hk8 : k < 8
        · have h8 : (k : Int) < 8 := by omega
          go_wp2
          go_round
          case rel =>
            refine ⟨k + 1, by omega, by go_num, ?_⟩
            have hz2 := bitN_two x k
            rw [bits_not x k hx hk8, Hz.out, Hb.out k hk8, wr64 (n := ((1 - bitN x k : Nat) : Int)) (by omega), wr64 (by omega)]
            go_num
          case measure => simp [intOf]; omega
        · obtain rfl : k = 8 := by omega
          go_wp2
          go_round
          case rel => exact ⟨j + 1, by omega, by go_num, by rw [Hz0.out]; rfl⟩
          case measure => simp [intOf]; omega
    · obtain rfl : j = n := by omega
      go_wp2
      go_ret
      exact ⟨rfl, rfl⟩

theorem blank_any (A : Option Addr) (n c B : Nat) (l : List UInt8) (w : World) (h : Lies w B A (bys l)) (hn : n = l.length) (hbig : n ≤ 1000000000000) :
    Calls Tryz.prog 120 #[.slice A n c] w fun e w' => e = .returned (.bool (zc l (8 * l.length) == 0)) ∧ w = w' := by
  obtain ⟨z, hz⟩ : ∃ z, z = (zc l (8 * l.length) == 0) := ⟨_, rfl⟩
  rw [← hz]
  have Hz := hide hz
  have Hn := hide hn
  have Hl := hide h
  clear hn h hz
  go_enter Tryz.func120, Tryz.ntmps120
  go_wp2
  go_loop [7] (fun i => ∃ j : Nat, j ≤ n ∧ i = .int .i64 (j : Int) ∧ Hid (∀ k, k < j → l.getD k 0 = 255)) (fun i => n - (intOf i).toNat)
  case atStart => exact ⟨0, Nat.zero_le _, rfl, hide (fun k hk => by omega)⟩
  case round =>
    obtain ⟨j, hj, rfl, hal⟩ := hrel
    by_cases hlt : j < n
    · have h1 : (j : Int) < (n : Int) := by omega
      obtain ⟨a, rfl, _, hc⟩ := Hl.out.byte (k := j) (by have := Hn.out; omega)
      by_cases hx : l.getD j 0 = 255
      · have Hx := hide hx
        rw [hx, show (255 : UInt8).toNat = 255 from rfl] at hc
        clear hx
        go_wp2
        go_round
        case rel =>
          refine ⟨j + 1, by omega, by go_num, hide (fun k hk => ?_)⟩
          rcases Nat.lt_or_ge k j with h4 | h4
          · exact hal.out k h4
          · obtain rfl : k = j := by omega
            exact Hx.out
        case measure => simp [intOf]; omega
      · have hx2 : (((l.getD j 0).toNat : Int) == 255) = false := by
          rw [beq_eq_false_iff_ne]
          intro e
          exact hx (UInt8.toNat_inj.1 (by rw [show (255 : UInt8).toNat = 255 from rfl]; omega))
        have hx3 : (((l.getD j 0).toNat : Int) != 255) = true := by rw [bne, hx2]; rfl
        have Hx := hide hx
        have Hn' := hide (show z = false from by
          rw [Hz.out, beq_eq_false_iff_ne]
          intro e
          exact hx ((zc_blank l).1 e j (by have := Hn.out; omega)))
        generalize (l.getD j 0).toNat = x at *
        clear hx
        go_wp2
        go_ret
        exact ⟨ret_bool Hn'.out.symm, rfl⟩
    · obtain rfl : j = n := by omega
      go_wp2
      go_ret
      exact ⟨ret_bool (by rw [Hz.out, (zc_blank l).2 (fun k hk => hal.out k (by have := Hn.out; omega))]; rfl), rfl⟩

theorem cov_bytes (a b : List UInt8) : covB a b = true ↔ a.length = b.length ∧ ∀ j, j < b.length → ∀ k, k < 8 → bitN (b.getD j 0).toNat k ≤ bitN (a.getD j 0).toNat k := by
  rw [covB_iff]
  constructor
  · rintro ⟨h1, h2⟩
    refine ⟨h1, fun j hj k hk => ?_⟩
    have := h2 (8 * j + k) (by omega)
    rwa [bitAt_of _ _ _ hk, bitAt_of _ _ _ hk] at this
  · rintro ⟨h1, h2⟩
    refine ⟨h1, fun i hi => h2 (i / 8) (by omega) (i % 8) (by omega)⟩

end Go.Proofs.YtigpplckddnghaaGreat
