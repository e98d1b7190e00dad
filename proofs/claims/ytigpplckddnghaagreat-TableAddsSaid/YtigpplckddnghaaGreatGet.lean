/-
  CONTRACTS of package be, second part: Get.
-/
import Derived.Test.YtigpplckddnghaaGreatLay
import Derived.Test.YtigpplckddnghaaGreatRef1
namespace Go.Proofs.YtigpplckddnghaaGreat
open Go.RowKit
set_option maxRecDepth 8000

/-- Get: of bytes that lie somewhere, from whatever place. -/
theorem get_any (A : Option Addr) (n c B : Nat) (l : List UInt8) (p a : Int) (w : World) (h : Lies w B A (bys l)) (hn : n = l.length) (hbig : n ≤ 140737488350000) (hp0 : -9223372036854775808 ≤ p) (hp1 : p ≤ 9223372036854775807) :
    Calls Tryz.prog 153 #[.slice A n c, .int .i64 p, .int .i64 a] w fun e w' => e = .returned (.int .u64 (numAt l p (min (max a 0) 8).toNat : Int)) ∧ w = w' := by
  obtain ⟨k, hk⟩ : ∃ k : Nat, (k : Int) = min (max a 0) 8 := ⟨(min (max a 0) 8).toNat, by omega⟩
  have hk8 : k ≤ 8 := by omega
  rw [← hk, Int.toNat_natCast]
  have Hk := hide hk
  have Hn := hide hn
  have Hl := hide h
  clear hk hn h
  by_cases hin : p ≤ -8 ∨ (n : Int) ≤ p
  · have e0 : numAt l p k = 0 := numAt_out l p (by have := Hn.out; omega) _ hk8
    rw [e0]
    clear e0
    by_cases h8 : p ≤ -8
    all_goals
      first
      | have h9 : (n : Int) ≤ p := by omega
      | skip
      go_enter Tryz.func153, Tryz.ntmps153
      go_wp2
      go_ret
      exact ⟨rfl, rfl⟩
  · have h8 : ¬ p ≤ -8 := by omega
    have h9 : ¬ (n : Int) ≤ p := by omega
    clear hin
    go_enter Tryz.func153, Tryz.ntmps153
    go_wp2_with fail
    refine (clamp_any a _).mono ?_
    rintro e w2 ⟨he, rfl⟩
    rw [← Hk.out] at he
    subst he
    go_wp2
    go_loop [7, 20] (fun s i => ∃ j d : Nat, j ≤ k ∧ i = .int .i64 (j : Int) ∧ s = .int .u64 (d : Int) ∧ d = numAt l p j) (fun _ i => (8 - intOf i).toNat)
    case atStart => exact ⟨0, 0, Nat.zero_le _, rfl, rfl, rfl⟩
    case round =>
      obtain ⟨j, d, hj, rfl, rfl, hd⟩ := hrel
      have Hd := hide hd
      clear hd
      by_cases hlt : j < k
      · have hd56 : Hid (d < 72057594037927936) := by have := numAt_lt56 l p j (by omega); rw [← Hd.out] at this; exact this
        by_cases hpos : 0 ≤ p + (j : Int)
        · by_cases hb : p + (j : Int) < n
          · obtain ⟨ad, rfl, _, hc⟩ := Hl.out.byte (k := (p + (j : Int)).toNat) (by have := Hn.out; omega)
            have hbt := byteAt_lt l (p + (j : Int))
            have e1 := byteAt_in l (p + (j : Int)) hpos
            rw [e1] at hbt
            have He := hide e1
            clear e1
            generalize hbv : (l.getD (p + (j : Int)).toNat 0).toNat = bv at *
            clear hbv
            go_wp2
            refine ⟨⟨j + 1, d * 256 + bv, by omega, by go_num, ?_, by rw [numAt, ← Hd.out, He.out]⟩, by simp [intOf]; omega⟩
            rw [u64_join _ _ hd56.out hbt]
          · have He := hide (byteAt_out l (p + (j : Int)) (.inr (by have := Hn.out; omega)))
            go_wp2
            refine ⟨⟨j + 1, d * 256, by omega, by go_num, ?_, by rw [numAt, ← Hd.out, He.out, Nat.add_zero]⟩, by simp [intOf]; omega⟩
            rw [u64_more0 _ hd56.out]
        · have He := hide (byteAt_out l (p + (j : Int)) (.inl (by omega)))
          go_wp2
          refine ⟨⟨j + 1, d * 256, by omega, by go_num, ?_, by rw [numAt, ← Hd.out, He.out, Nat.add_zero]⟩, by simp [intOf]; omega⟩
          rw [u64_more0 _ hd56.out]
      · have hjk : j = k := by omega
        subst hjk
        go_wp2
        go_ret
        exact ⟨by rw [← Hd.out]; rfl, rfl⟩

end Go.Proofs.YtigpplckddnghaaGreat
