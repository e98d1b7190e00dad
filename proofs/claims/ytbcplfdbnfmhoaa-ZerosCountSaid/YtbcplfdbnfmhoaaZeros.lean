/-
  CONTRACTS of package zeros: Count, Blank, Mask, within and the function that it makes, Program, Erase, Covers.
-/
import Derived.Test.YtbcplfdbnfmhoaaClone
import Derived.Test.YtbcplfdbnfmhoaaBits
import Derived.Test.YtbcplfdbnfmhoaaBit
import Derived.Deep.QuietTactic
import Derived.BigQuiet
import Derived.Deep.RegionLaw
import Derived.Deep.RegionWith
import Derived.StillTailTactics
namespace Go.Proofs.Ytbcplfdbnfmhoaa
open Go.RowKit

theorem mask_any (A : Option Addr) (n c B : Nat) (l : List UInt8) (i : Nat) (w : World) (h : Lies w B A (bys l)) (hn : n = l.length) :
    Calls Try.prog 18 #[.slice A n c, .int .i64 (i : Int)] w fun e w' => e = .returned (.int .u8 ((maskB l i).toNat : Int)) ∧ w = w' := by
  by_cases h0 : n = 0
  · subst h0
    have e0 : maskB l i = 0 := by unfold maskB; rw [if_pos hn.symm]
    rw [e0]
    clear h hn e0
    go_enter Try.func18, Try.ntmps18
    go_wp2
    go_ret
    exact ⟨rfl, rfl⟩
  · obtain ⟨k, hk, hk8⟩ : ∃ k, k = i % n ∧ k < n := ⟨_, rfl, Nat.mod_lt _ (by omega)⟩
    have e1 : (i : Int) % (n : Int) = (k : Int) := by rw [hk]; simp
    have e0 : maskB l i = l.getD k 0 := by unfold maskB; rw [if_neg (by omega), ← hn, ← hk]
    rw [e0]
    obtain ⟨a, rfl, _, hc⟩ := h.byte (k := k) (by omega)
    generalize (l.getD k 0) = x at *
    have hpos : 0 < n := by omega
    have hne : ((n : Int) == 0) = false := by rw [beq_eq_false_iff_ne]; omega
    have hi0 : ¬ (i : Int) < 0 := by omega
    clear hk hn h e0
    go_enter Try.func18, Try.ntmps18
    go_wp2
    go_ret
    exact ⟨rfl, rfl⟩

theorem mask_neg (A : Option Addr) (n c : Nat) (i : Int) (w : World) (hi : i < 0) :
    Calls Try.prog 18 #[.slice A n c, .int .i64 i] w fun e w' => e = .returned (.int .u8 0) ∧ w = w' := by
  go_enter Try.func18, Try.ntmps18
  go_wp2
  go_ret
  exact ⟨rfl, rfl⟩

theorem within_any (A : Option Addr) (n c : Nat) (w : World) : Calls Try.prog 25 #[.slice A n c] w fun e w' => e = .returned (.func (.func 31) #[] #[.pointer (some ⟨w.heap.size, 0, none⟩)]) ∧ w.alloc (.cells #[.slice A n c] 22) = w' := by
  go_enter Try.func25, Try.ntmps25
  go_wp2
  go_ret
  exact ⟨rfl, rfl⟩

theorem mix_any (g : Nat) (A : Option Addr) (n c B : Nat) (l : List UInt8) (i : Nat) (x y : UInt8) (w : World) (hg : w.cell? ⟨g, 0, none⟩ = some (.slice A n c)) (h : Lies w B A (bys l)) (hn : n = l.length) :
    Calls Try.prog 31 #[.int .i64 (i : Int), .int .u8 (x.toNat : Int), .int .u8 (y.toNat : Int), .pointer (some ⟨g, 0, none⟩)] w fun e w' => e = .returned (.int .u8 ((mixB x y (maskB l i)).toNat : Int)) ∧ w = w' := by
  have Hn := hide hn
  have Hl := hide h
  have Hm := hide (mixB_toNat x y (maskB l i))
  obtain ⟨d, hd⟩ : ∃ d, d = maskB l i := ⟨_, rfl⟩
  rw [← hd] at Hm ⊢
  have Hd := hide hd
  clear hd h hn
  obtain ⟨z, hz⟩ : ∃ z, z = (mixB x y d).toNat := ⟨_, rfl⟩
  rw [← hz] at Hm ⊢
  clear hz
  have hx := x.toNat_lt
  have hy := y.toNat_lt
  have hd8 := d.toNat_lt
  go_enter Try.func31, Try.ntmps31
  go_wp2_with fail
  refine (mask_any A n c B l i _ Hl.out Hn.out).mono ?_
  rintro e w2 ⟨he, rfl⟩
  rw [← Hd.out] at he
  subst he
  generalize d.toNat = d' at *
  generalize x.toNat = x' at *
  generalize y.toNat = y' at *
  go_wp2
  go_ret
  exact ⟨ret_int (by rw [bits_mix _ _ _ hx hy hd8, Hm.out]), rfl⟩

theorem count_any (A : Option Addr) (n c B : Nat) (l : List UInt8) (w : World) (h : Lies w B A (bys l)) (hn : n = l.length) (hbig : n ≤ 1000000000000) :
    Calls Try.prog 11 #[.slice A n c] w fun e w' => e = .returned (.int .i64 (zc l (8 * l.length) : Nat)) ∧ w = w' := by
  rw [← hn]
  have Hn := hide hn
  have Hl := hide h
  clear hn h
  go_enter Try.func11, Try.ntmps11
  go_wp2
  go_loop [3, 9] (fun s i => ∃ j : Nat, j ≤ n ∧ i = .int .i64 (j : Int) ∧ s = .int .i64 (zc l (8 * j) : Nat)) (fun _ i => n - (intOf i).toNat)
  case atStart => exact ⟨0, Nat.zero_le _, rfl, rfl⟩
  case round =>
    obtain ⟨j, hj, rfl, rfl⟩ := hrel
    by_cases hlt : j < n
    · have h1 : (j : Int) < (n : Int) := by omega
      obtain ⟨a, rfl, _, hc⟩ := Hl.out.byte (k := j) (by have := Hn.out; omega)
      have hx := (l.getD j 0).toNat_lt
      have Hb := hide (fun k (hk : k < 8) => bitAt_of l j k hk)
      generalize (l.getD j 0).toNat = x at *
      go_wp2
      clear hc
      go_loop [3, 13] (fun s i => ∃ k : Nat, k ≤ 8 ∧ i = .int .i64 (k : Int) ∧ s = .int .i64 (zc l (8 * j + k) : Nat)) (fun _ i => 8 - (intOf i).toNat)
      case atStart => exact ⟨0, Nat.zero_le _, rfl, rfl⟩
      case round =>
        obtain ⟨k, hk, rfl, rfl⟩ := hrel
        have Hz := hide (show zc l (8 * j + (k + 1)) = zc l (8 * j + k) + (1 - bitAt l (8 * j + k)) from rfl)
        have hzl := zc_le l (8 * j + k)
        obtain ⟨z, hz⟩ : ∃ z, z = zc l (8 * j + k) := ⟨_, rfl⟩
        rw [← hz] at Hz hzl ⊢
        have Hz0 := hide hz
        clear hz
        by_cases hk8 : k < 8
        · have h8 : (k : Int) < 8 := by omega
          go_wp2
          go_round
          case rel =>
            refine ⟨k + 1, by omega, by go_num, ?_⟩
            have hz2 := bitN_two x k
            rw [bits_not x k hx hk8, Hz.out, Hb.out k hk8, wr64 (n := ((1 - bitN x k : Nat) : Int)) (by omega), wr64 (by omega)]
            go_num
          case measure => simp [intOf]; omega
        · obtain rfl : k = 8 := by omega
          go_wp2
          go_round
          case rel => exact ⟨j + 1, by omega, by go_num, by rw [Hz0.out]; rfl⟩
          case measure => simp [intOf]; omega
    · obtain rfl : j = n := by omega
      go_wp2
      go_ret
      exact ⟨rfl, rfl⟩

theorem blank_any (A : Option Addr) (n c B : Nat) (l : List UInt8) (w : World) (h : Lies w B A (bys l)) (hn : n = l.length) (hbig : n ≤ 1000000000000) :
    Calls Try.prog 13 #[.slice A n c] w fun e w' => e = .returned (.bool (zc l (8 * l.length) == 0)) ∧ w = w' := by
  obtain ⟨z, hz⟩ : ∃ z, z = (zc l (8 * l.length) == 0) := ⟨_, rfl⟩
  rw [← hz]
  have Hz := hide hz
  have Hn := hide hn
  have Hl := hide h
  clear hn h hz
  go_enter Try.func13, Try.ntmps13
  go_wp2
  go_loop [7] (fun i => ∃ j : Nat, j ≤ n ∧ i = .int .i64 (j : Int) ∧ Hid (∀ k, k < j → l.getD k 0 = 255)) (fun i => n - (intOf i).toNat)
  case atStart => exact ⟨0, Nat.zero_le _, rfl, hide (fun k hk => by omega)⟩
  case round =>
    obtain ⟨j, hj, rfl, hal⟩ := hrel
    by_cases hlt : j < n
    · have h1 : (j : Int) < (n : Int) := by omega
      obtain ⟨a, rfl, _, hc⟩ := Hl.out.byte (k := j) (by have := Hn.out; omega)
      by_cases hx : l.getD j 0 = 255
      · have Hx := hide hx
        rw [hx, show (255 : UInt8).toNat = 255 from rfl] at hc
        clear hx
        go_wp2
        go_round
        case rel =>
          refine ⟨j + 1, by omega, by go_num, hide (fun k hk => ?_)⟩
          rcases Nat.lt_or_ge k j with h4 | h4
          · exact hal.out k h4
          · obtain rfl : k = j := by omega
            exact Hx.out
        case measure => simp [intOf]; omega
      · have hx2 : (((l.getD j 0).toNat : Int) == 255) = false := by
          rw [beq_eq_false_iff_ne]
          intro e
          exact hx (UInt8.toNat_inj.1 (by rw [show (255 : UInt8).toNat = 255 from rfl]; omega))
        have hx3 : (((l.getD j 0).toNat : Int) != 255) = true := by rw [bne, hx2]; rfl
        have Hx := hide hx
        have Hn' := hide (show z = false from by
          rw [Hz.out, beq_eq_false_iff_ne]
          intro e
          exact hx ((zc_blank l).1 e j (by have := Hn.out; omega)))
        generalize (l.getD j 0).toNat = x at *
        clear hx
        go_wp2
        go_ret
        exact ⟨ret_bool Hn'.out.symm, rfl⟩
    · obtain rfl : j = n := by omega
      go_wp2
      go_ret
      exact ⟨ret_bool (by rw [Hz.out, (zc_blank l).2 (fun k hk => hal.out k (by have := Hn.out; omega))]; rfl), rfl⟩

theorem cov_bytes (a b : List UInt8) : covB a b = true ↔ a.length = b.length ∧ ∀ j, j < b.length → ∀ k, k < 8 → bitN (b.getD j 0).toNat k ≤ bitN (a.getD j 0).toNat k := by
  rw [covB_iff]
  constructor
  · rintro ⟨h1, h2⟩
    refine ⟨h1, fun j hj k hk => ?_⟩
    have := h2 (8 * j + k) (by omega)
    rwa [bitAt_of _ _ _ hk, bitAt_of _ _ _ hk] at this
  · rintro ⟨h1, h2⟩
    refine ⟨h1, fun i hi => h2 (i / 8) (by omega) (i % 8) (by omega)⟩

theorem covers_any (A A2 : Option Addr) (n c n2 c2 B : Nat) (a b : List UInt8) (w : World) (h : Lies w B A (bys a)) (hn : n = a.length) (hbig : n ≤ 1000000000000) (h2 : Lies w B A2 (bys b)) (hn2 : n2 = b.length) (hbig2 : n2 ≤ 1000000000000) :
    Calls Try.prog 21 #[.slice A n c, .slice A2 n2 c2] w fun e w' => e = .returned (.bool (covB a b)) ∧ ∃ q, w' = w.drewN q := by
  by_cases hl : n = n2
  · subst hl
    have Hn := hide hn
    have Hl := hide h
    have Hn2 := hide hn2
    have Hl2 := hide h2
    clear hn h hn2 h2
    obtain ⟨z, hz⟩ : ∃ z, z = covB a b := ⟨_, rfl⟩
    rw [← hz]
    have Hz := hide hz
    clear hz
    go_enter Try.func21, Try.ntmps21
    go_wp2
    go_loopw [13] (fun i wr => ∃ k q : Nat, k ≤ n ∧ i = .int .i64 (k : Int) ∧ wr = w.drewN q ∧ Hid (∀ j, j < k → ∀ k, k < 8 → bitN (b.getD j 0).toNat k ≤ bitN (a.getD j 0).toNat k)) (fun i _ => n - (intOf i).toNat)
    case atStart => exact ⟨0, 0, Nat.zero_le _, rfl, rfl, hide (fun j hj => by omega)⟩
    case round =>
      obtain ⟨j, q, hk, rfl, rfl, hal⟩ := hrel
      by_cases hlt : j < n
      · have h1 : (j : Int) < (n : Int) := by omega
        obtain ⟨ad, rfl, _, hca⟩ := Hl.out.byte (k := j) (by have := Hn.out; omega)
        obtain ⟨bd, rfl, _, hcb⟩ := Hl2.out.byte (k := j) (by have := Hn2.out; omega)
        have hx := (a.getD j 0).toNat_lt
        have hy := (b.getD j 0).toNat_lt
        have hiff := bits_andNot0 (b.getD j 0).toNat (a.getD j 0).toNat hy hx
        obtain ⟨x, ex⟩ : ∃ x, x = (a.getD j 0).toNat := ⟨_, rfl⟩
        obtain ⟨y, ey⟩ : ∃ y, y = (b.getD j 0).toNat := ⟨_, rfl⟩
        rw [← ex] at hca hx hiff
        rw [← ey] at hcb hy hiff
        have Ex := hide ex
        have Ey := hide ey
        clear ex ey
        by_cases hz : bits .andNot .u8 (y : Int) (x : Int) = 0
        · have hz2 : (bits .andNot .u8 (y : Int) (x : Int) != 0) = false := by rw [hz]; rfl
          have Hnew := hide (hiff.1 hz)
          clear hiff hz
          go_wp2
          go_quiet (fail)
          go_wp2
          go_roundw
          case rel =>
            refine ⟨j + 1, q + nq, by omega, by go_num, rfl, hide (fun i hi => ?_)⟩
            rcases Nat.lt_or_ge i j with h4 | h4
            · exact hal.out i h4
            · obtain rfl : i = j := by omega
              rw [← Ex.out, ← Ey.out]
              exact Hnew.out
          case measure => simp [intOf]; omega
        · have hz2 : (bits .andNot .u8 (y : Int) (x : Int) != 0) = true := by rw [bne, beq_eq_false_iff_ne.2 hz]; rfl
          have Hf := hide (show z = false from by
            rw [Hz.out, ← Bool.not_eq_true, cov_bytes]
            intro hh
            exact hz (hiff.2 (by rw [Ex.out, Ey.out]; exact hh.2 j (by have := Hn2.out; omega))))
          clear hiff hz
          go_wp2
          go_quiet (fail)
          go_wp2
          go_ret
          exact ⟨ret_bool Hf.out.symm, q + nq, World.drewN_drewN ..⟩
      · obtain rfl : j = n := by omega
        go_wp2
        go_ret
        exact ⟨ret_bool (by rw [Hz.out]; exact ((cov_bytes a b).2 ⟨by have := Hn.out; have := Hn2.out; omega, fun j hj => hal.out j (by have := Hn2.out; omega)⟩).symm), q, rfl⟩
  · have hno : covB a b = false := by
      rw [← Bool.not_eq_true, covB_iff]
      intro hh
      omega
    have hl' : ¬ (n : Int) = (n2 : Int) := by omega
    rw [hno]
    clear hn hn2 hno hl h h2
    go_enter Try.func21, Try.ntmps21
    go_wp2
    go_ret
    exact ⟨rfl, 0, rfl⟩

end Go.Proofs.Ytbcplfdbnfmhoaa
