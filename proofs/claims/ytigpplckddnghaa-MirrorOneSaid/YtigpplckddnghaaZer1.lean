/-
  CONTRACT of page.onto's closure: a number's bytes laid behind those that stand.
  CONTRACTS of package zeros: Count, Blank.
-/
import Derived.Test.YtigpplckddnghaaPgB
import Derived.Test.YtigpplckddnghaaPrgm
namespace Go.Proofs.Ytigpplckddnghaa
section
open Go.RowKit
set_option maxRecDepth 8000

set_option maxHeartbeats 2000000 in
theorem lay1_any (cc p g cap o k x : Nat) (l : List UInt8) (w : World) (hc : w.heap[cc]? = some (.cells #[.int .i64 (o : Int)] 3 (0, 0))) (hp : w.heap[p]? = some (.cells #[.slice (some ⟨g, 0, none⟩) 252 cap] 46 (0, 0)))
    (hb : Buf w g l) (hl : l.length = 252) (hcap : 252 ≤ cap) (ho : o + k ≤ 252) (h1 : 1 ≤ k) (h8 : k ≤ 8) (n1 : cc ≠ g) :
    Calls Try.prog 69 #[.int .i64 (k : Int), .int .u64 (x : Int), .pointer (some ⟨cc, 0, none⟩), .pointer (some ⟨p, 0, none⟩)] w fun e w' => e = .returned (.tuple #[]) ∧
      w'.heap[cc]? = some (.cells #[.int .i64 ((o + k : Nat) : Int)] 3 (0, 0)) ∧ Buf w' g (over l o (beB k x)) ∧ Tch [cc, g] w w' := by
  have hcl := (Array.getElem?_eq_some_iff.1 hc).1
  have c0 : w.cell? ⟨cc, 0, none⟩ = some (.int .i64 (o : Int)) := World.news_of_block hc 0 _ rfl
  have p0 : w.cell? ⟨p, 0, none⟩ = some (.slice (some ⟨g, 0, none⟩) 252 cap) := World.news_of_block hp 0 _ rfl
  have ea : (⟨g, 0, none⟩ : Addr).add o = ⟨g, o, none⟩ := at0 g o
  have i1 : (0 : Int) ≤ (o : Int) := by omega
  have i2 : (o : Int) ≤ 252 := by omega
  have i3 : (252 : Int) ≤ (cap : Int) := by omega
  have hne : ¬ cap = o := by omega
  have hsum : wrap64 ((o : Int) + (k : Int)) = ((o + k : Nat) : Int) := by unfold wrap64; omega
  have hsum2 : IntKind.i64.wrap ((o : Int) + (k : Int)) = ((o + k : Nat) : Int) := IntWalk.i64_in _ (by omega)
  have HC := hide hc
  have HB := hide hb
  have HP := hide (fun W => putn_any k x W h1 h8)
  have Hl := hide hl
  have Ho := hide ho
  have H1 := hide h1
  have Hcl := hide hcl
  have N1 := hide n1
  clear hc hp hb hl hcap ho h1 h8 hcl n1
  go_enter Try.func69, Try.ntmps69
  go_region_law (first
    | (refine step_callP (f := 70) (args := #[.slice none 0 0, .int .i64 (k : Int), .int .u64 (x : Int)]) rfl (by simp [Act.eval, go_sem]) ((HP.out _).mono ?_); rintro e w2 ⟨A, c, rfl, hl2, hb2⟩; refine ⟨_, rfl, ?_⟩; have hb3 : Below w.heap.size w w2 := (Below.refl _ w).drew.trans hb2; obtain ⟨w3, hr3, hB3, hT3⟩ := (HB.out.below hb3).copy o (beB k x) (by rw [beB_len, Hl.out]; exact Ho.out) A k c (252 - o) (cap - o) w2.heap.size hl2 (beB_len k x).symm (by rw [beB_len]; exact H1.out) (by rw [beB_len]; have := Ho.out; omega); rw [beB_len] at hr3; have HB3 := hide hB3; have HT3 := hide ((Tch.of_below (S := [g]) hb3).trans hT3); have c0b : w2.cell? ⟨cc, 0, none⟩ = some (.int .i64 (o : Int)) := (hb3.cell Hcl.out).trans c0; have p0b : w2.cell? ⟨p, 0, none⟩ = some (.slice (some ⟨g, 0, none⟩) 252 cap) := (hb3.cell (World.block_lt_of_cell? w _ p0)).trans p0; have hk3 := HT3.out.block cc Hcl.out (by simpa using N1.out); have HK3 := hide hk3; have c0c : w3.cell? ⟨cc, 0, none⟩ = some (.int .i64 (o : Int)) := (World.cell?_of_block (w := w) (a := ⟨cc, 0, none⟩) hk3).trans c0; have f0c : w3.frozen? ⟨cc, 0, none⟩ = false := frozen_of_row w3 cc 0 _ _ (hk3.trans HC.out); clear hl2 hb2 hb3 hB3 hT3 hk3)
    | (refine step_copyrun rfl (.tmp 9) (.tmp 12) 46 46 rfl hr3 (by simp [Act.eval, Act.put]) (by simp [Act.eval, Act.put]) ?_))
  all_goals
    go_end0
    refine ⟨rfl, ?_, HB3.out.kept (by simp [World.setCell]) (Below.heap_setCell _ _ _ _ (Ne.symm N1.out)), (HT3.out.mono (by simp)).trans (Tch.set (by simp) _)⟩
    exact heap_set (HK3.out.trans HC.out) 0 _
end
section
open Go.RowKit

theorem count_any (A : Option Addr) (n c B : Nat) (l : List UInt8) (w : World) (h : Lies w B A (bys l)) (hn : n = l.length) (hbig : n ≤ 1000000000000) :
    Calls Try.prog 71 #[.slice A n c] w fun e w' => e = .returned (.int .i64 (zc l (8 * l.length) : Nat)) ∧ w = w' := by
  rw [← hn]
  have Hn := hide hn
  have Hl := hide h
  clear hn h
  go_enter Try.func71, Try.ntmps71
  go_wp2
  go_loop [3, 9] (fun s i => ∃ j : Nat, j ≤ n ∧ i = .int .i64 (j : Int) ∧ s = .int .i64 (zc l (8 * j) : Nat)) (fun _ i => n - (intOf i).toNat)
  case atStart => exact ⟨0, Nat.zero_le _, rfl, rfl⟩
  case round =>
    obtain ⟨j, hj, rfl, rfl⟩ := hrel
    by_cases hlt : j < n
    · have h1 : (j : Int) < (n : Int) := by omega
      obtain ⟨a, rfl, _, hc⟩ := Hl.out.byte (k := j) (by have := Hn.out; omega)
      have hx := (l.getD j 0).toNat_lt
      have Hb := hide (fun k (hk : k < 8) => bitAt_of l j k hk)
      generalize (l.getD j 0).toNat = x at *
      go_wp2
      clear hc
      go_loop [3, 13] (fun s i => ∃ k : Nat, k ≤ 8 ∧ i = .int .i64 (k : Int) ∧ s = .int .i64 (zc l (8 * j + k) : Nat)) (fun _ i => 8 - (intOf i).toNat)
      case atStart => exact ⟨0, Nat.zero_le _, rfl, rfl⟩
      case round =>
        obtain ⟨k, hk, rfl, rfl⟩ := hrel
        have Hz := hide (show zc l (8 * j + (k + 1)) = zc l (8 * j + k) + (1 - bitAt l (8 * j + k)) from rfl)
        have hzl := zc_le l (8 * j + k)
        obtain ⟨z, hz⟩ : ∃ z, z = zc l (8 * j + k) := ⟨_, rfl⟩
        rw [← hz] at Hz hzl ⊢
        have Hz0 := hide hz
        clear hz
        by_cases hk8 : k < 8
        · have h8 : (k : Int) < 8 := by omega
          go_wp2
          go_round
          case rel =>
            refine ⟨k + 1, by omega, by go_num, ?_⟩
            have hz2 := bitN_two x k
            rw [bits_not x k hx hk8, Hz.out, Hb.out k hk8, wr64 (n := ((1 - bitN x k : Nat) : Int)) (by omega), wr64 (by omega)]
            go_num
          case measure => simp [intOf]; omega
        · obtain rfl : k = 8 := by omega
          go_wp2
          go_round
          case rel => exact ⟨j + 1, by omega, by go_num, by rw [Hz0.out]; rfl⟩
          case measure => simp [intOf]; omega
    · obtain rfl : j = n := by omega
      go_wp2
      go_ret
      exact ⟨rfl, rfl⟩

theorem blank_any (A : Option Addr) (n c B : Nat) (l : List UInt8) (w : World) (h : Lies w B A (bys l)) (hn : n = l.length) (hbig : n ≤ 1000000000000) :
    Calls Try.prog 81 #[.slice A n c] w fun e w' => e = .returned (.bool (zc l (8 * l.length) == 0)) ∧ w = w' := by
  obtain ⟨z, hz⟩ : ∃ z, z = (zc l (8 * l.length) == 0) := ⟨_, rfl⟩
  rw [← hz]
  have Hz := hide hz
  have Hn := hide hn
  have Hl := hide h
  clear hn h hz
  go_enter Try.func81, Try.ntmps81
  go_wp2
  go_loop [7] (fun i => ∃ j : Nat, j ≤ n ∧ i = .int .i64 (j : Int) ∧ Hid (∀ k, k < j → l.getD k 0 = 255)) (fun i => n - (intOf i).toNat)
  case atStart => exact ⟨0, Nat.zero_le _, rfl, hide (fun k hk => by omega)⟩
  case round =>
    obtain ⟨j, hj, rfl, hal⟩ := hrel
    by_cases hlt : j < n
    · have h1 : (j : Int) < (n : Int) := by omega
      obtain ⟨a, rfl, _, hc⟩ := Hl.out.byte (k := j) (by have := Hn.out; omega)
      by_cases hx : l.getD j 0 = 255
      · have Hx := hide hx
        rw [hx, show (255 : UInt8).toNat = 255 from rfl] at hc
        clear hx
        go_wp2
        go_round
        case rel =>
          refine ⟨j + 1, by omega, by go_num, hide (fun k hk => ?_)⟩
          rcases Nat.lt_or_ge k j with h4 | h4
          · exact hal.out k h4
          · obtain rfl : k = j := by omega
            exact Hx.out
        case measure => simp [intOf]; omega
      · have hx2 : (((l.getD j 0).toNat : Int) == 255) = false := by
          rw [beq_eq_false_iff_ne]
          intro e
          exact hx (UInt8.toNat_inj.1 (by rw [show (255 : UInt8).toNat = 255 from rfl]; omega))
        have hx3 : (((l.getD j 0).toNat : Int) != 255) = true := by rw [bne, hx2]; rfl
        have Hx := hide hx
        have Hn' := hide (show z = false from by
          rw [Hz.out, beq_eq_false_iff_ne]
          intro e
          exact hx ((zc_blank l).1 e j (by have := Hn.out; omega)))
        generalize (l.getD j 0).toNat = x at *
        clear hx
        go_wp2
        go_ret
        exact ⟨ret_bool Hn'.out.symm, rfl⟩
    · obtain rfl : j = n := by omega
      go_wp2
      go_ret
      exact ⟨ret_bool (by rw [Hz.out, (zc_blank l).2 (fun k hk => hal.out k (by have := Hn.out; omega))]; rfl), rfl⟩
end
end Go.Proofs.Ytigpplckddnghaa
