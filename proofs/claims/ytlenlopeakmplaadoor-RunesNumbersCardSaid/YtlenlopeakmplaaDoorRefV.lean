/-
  THE REFERENCE's Value, walked: the number of the rune that a text begins with.
-/
import Derived.Test.YtlenlopeakmplaaDoorRefS
import Derived.Test.YtlenlopeakmplaaDoorBytes
import Derived.BigQuiet
import Derived.Deep.QuietTactic
namespace Go.Proofs.YtlenlopeakmplaaDoor
open Go.RowKit

theorem v2_int {b0 b1 : Nat} (k : 192 ≤ b0) (i : 128 ≤ b1) : ((v2 b0 b1 : Nat) : Int) = 64 * ((b0 : Int) - 192) + b1 - 128 := by unfold v2; omega
theorem v3_int {b0 b1 b2 : Nat} (k : 224 ≤ b0) (i : 128 ≤ b1) (j : 128 ≤ b2) : ((v3 b0 b1 b2 : Nat) : Int) = 4096 * ((b0 : Int) - 224) + 64 * (b1 - 128) + b2 - 128 := by unfold v3; omega
theorem v4_int {b0 b1 b2 b3 : Nat} (k : 240 ≤ b0) (i : 128 ≤ b1) (j : 128 ≤ b2) (m : 128 ≤ b3) : ((v4 b0 b1 b2 b3 : Nat) : Int) = 262144 * ((b0 : Int) - 240) + 4096 * (b1 - 128) + 64 * (b2 - 128) + b3 - 128 := by unfold v4; omega

theorem wrap_v2 {a b : Int} (a0 : 0 ≤ a) (a1 : a < 256) (b0 : 0 ≤ b) (b1 : b < 256) : wrap64 (wrap64 (wrap64 (64 * wrap64 (a - 192)) + b) - 128) = 64 * (a - 192) + b - 128 := by
  rw [wr64 (n := a - 192) (by omega), wr64 (n := 64 * (a - 192)) (by omega), wr64 (n := 64 * (a - 192) + b) (by omega), wr64 (by omega)]

theorem wrap_v3 {a b c : Int} (a0 : 0 ≤ a) (a1 : a < 256) (b0 : 0 ≤ b) (b1 : b < 256) (c0 : 0 ≤ c) (c1 : c < 256) :
    wrap64 (wrap64 (wrap64 (wrap64 (4096 * wrap64 (a - 224)) + wrap64 (64 * wrap64 (b - 128))) + c) - 128) = 4096 * (a - 224) + 64 * (b - 128) + c - 128 := by
  rw [wr64 (n := a - 224) (by omega), wr64 (n := b - 128) (by omega), wr64 (n := 4096 * (a - 224)) (by omega), wr64 (n := 64 * (b - 128)) (by omega), wr64 (n := 4096 * (a - 224) + 64 * (b - 128)) (by omega),
    wr64 (n := 4096 * (a - 224) + 64 * (b - 128) + c) (by omega), wr64 (by omega)]
theorem wrap_v4 {a b c d : Int} (a0 : 0 ≤ a) (a1 : a < 256) (b0 : 0 ≤ b) (b1 : b < 256) (c0 : 0 ≤ c) (c1 : c < 256) (d0 : 0 ≤ d) (d1 : d < 256) :
    wrap64 (wrap64 (wrap64 (wrap64 (wrap64 (262144 * wrap64 (a - 240)) + wrap64 (4096 * wrap64 (b - 128))) + wrap64 (64 * wrap64 (c - 128))) + d) - 128) = 262144 * (a - 240) + 4096 * (b - 128) + 64 * (c - 128) + d - 128 := by
  rw [wr64 (n := a - 240) (by omega), wr64 (n := b - 128) (by omega), wr64 (n := c - 128) (by omega), wr64 (n := 262144 * (a - 240)) (by omega), wr64 (n := 4096 * (b - 128)) (by omega), wr64 (n := 64 * (c - 128)) (by omega),
    wr64 (n := 262144 * (a - 240) + 4096 * (b - 128)) (by omega), wr64 (n := 262144 * (a - 240) + 4096 * (b - 128) + 64 * (c - 128)) (by omega), wr64 (n := 262144 * (a - 240) + 4096 * (b - 128) + 64 * (c - 128) + d) (by omega), wr64 (by omega)]

set_option maxRecDepth 100000 in
set_option maxHeartbeats 4000000 in
theorem ref_value (s : ByteArray) (w : World) (h0 : 1 ≤ s.size) (hs : s.size ≤ 1000000) : Calls Tryd.prog 9 #[.string s] w fun e w' => e = .returned (.int .i64 (val s.data.toList)) ∧ Below w.heap.size w w' := by
  have hsize := ref_size s
  have hlen : s.data.toList.length = s.size := by rw [Array.length_toList]; rfl
  have hx := s_bt s
  have hf := sz_facts s.data.toList
  obtain ⟨l, hl⟩ : ∃ l, l = s.data.toList := ⟨_, rfl⟩
  rw [← hl] at hsize hlen hx hf ⊢
  clear hl
  obtain ⟨v, hv⟩ : ∃ v, v = val l := ⟨_, rfl⟩
  rw [← hv]
  unfold val at hv
  obtain ⟨b0, hb0⟩ : ∃ b, b = bt l 0 := ⟨_, rfl⟩
  obtain ⟨b1, hb1⟩ : ∃ b, b = bt l 1 := ⟨_, rfl⟩
  obtain ⟨b2, hb2⟩ : ∃ b, b = bt l 2 := ⟨_, rfl⟩
  obtain ⟨b3, hb3⟩ : ∃ b, b = bt l 3 := ⟨_, rfl⟩
  have l0 : b0 < 256 := by rw [hb0]; exact bt_lt _ _
  have l1 : b1 < 256 := by rw [hb1]; exact bt_lt _ _
  have l2 : b2 < 256 := by rw [hb2]; exact bt_lt _ _
  have l3 : b3 < 256 := by rw [hb3]; exact bt_lt _ _
  have q0 : 0 < s.size := h0
  have hx0 := hx 0 q0
  rw [← hb0] at hx0
  have hw0 : wrap64 (b0 : Int) = b0 := w64b b0 l0
  rw [← hb0, ← hb1, ← hb2, ← hb3] at hf
  have L0 := hide l0
  have L1 := hide l1
  have L2 := hide l2
  have L3 := hide l3
  rcases hf with ⟨h, -⟩ | ⟨h, h', k⟩ | ⟨h, h', k, i1, -, le⟩ | ⟨h, h', k, i1, i2, -, -, le⟩ | ⟨h, h', k, i1, i2, i3, -, -, le⟩
  · rw [if_pos h] at hv
    rw [h] at hsize
    subst hv
    clear h hx hb0 hb1 hb2 hb3
    go_enter Tryd.func9, Tryd.ntmps9
    go_wp2_with fail
    (with_reducible refine (hsize w h0 hs).mono ?_)
    rintro e w' ⟨rfl, rfl⟩
    go_wp2
    go_ret
    exact ⟨rfl, Below.refl _ _⟩
  · rw [if_neg (by omega), h'] at hv
    rw [h] at hsize
    subst hv
    clear h h' hx hb0 hb1 hb2 hb3
    go_enter Tryd.func9, Tryd.ntmps9
    go_wp2_with fail
    (with_reducible refine (hsize w h0 hs).mono ?_)
    rintro e w' ⟨rfl, rfl⟩
    go_wp2
    go_ret
    exact ⟨rfl, Below.refl _ _⟩
  · have q1 : 1 < s.size := by omega
    have hx1 := hx 1 q1
    rw [← hb1] at hx1
    have hw1 : wrap64 (b1 : Int) = b1 := w64b b1 l1
    rw [if_neg (by omega), h'] at hv
    rw [h] at hsize
    have Hv := hide (show v = 64 * ((b0 : Int) - 192) + b1 - 128 by rw [hv]; exact v2_int k.1 i1.1)
    have hc := hsize w h0 hs
    clear h h' hx hb0 hb1 hb2 hb3 hv i1 hlen le hsize k l0 l1 l2 l3
    go_enter Tryd.func9, Tryd.ntmps9
    go_wp2_with fail
    (with_reducible refine hc.mono ?_)
    rintro e w' ⟨rfl, rfl⟩
    go_wp2
    go_ret
    exact ⟨ret_int (by rw [Hv.out]; exact wrap_v2 (by omega) (by have := L0.out; omega) (by omega) (by have := L1.out; omega)), Below.refl _ _⟩
  · have q1 : 1 < s.size := by omega
    have hx1 := hx 1 q1
    have q2 : 2 < s.size := by omega
    have hx2 := hx 2 q2
    rw [← hb1] at hx1
    rw [← hb2] at hx2
    have hw1 : wrap64 (b1 : Int) = b1 := w64b b1 l1
    have hw2 : wrap64 (b2 : Int) = b2 := w64b b2 l2
    rw [if_neg (by omega), h'] at hv
    rw [h] at hsize
    have Hv := hide (show v = 4096 * ((b0 : Int) - 224) + 64 * (b1 - 128) + b2 - 128 by rw [hv]; exact v3_int k.1 i1.1 i2.1)
    have hc := hsize w h0 hs
    clear h h' hx hb0 hb1 hb2 hb3 hv i1 i2 hlen le hsize k l0 l1 l2 l3
    go_enter Tryd.func9, Tryd.ntmps9
    go_wp2_with fail
    (with_reducible refine hc.mono ?_)
    rintro e w' ⟨rfl, rfl⟩
    go_wp2
    go_quiet (fail)
    go_wp2
    go_ret
    exact ⟨ret_int (by rw [Hv.out]; exact wrap_v3 (by omega) (by have := L0.out; omega) (by omega) (by have := L1.out; omega) (by omega) (by have := L2.out; omega)), bel_drewN (Below.refl _ _) _⟩
  · have q1 : 1 < s.size := by omega
    have hx1 := hx 1 q1
    have q2 : 2 < s.size := by omega
    have hx2 := hx 2 q2
    have q3 : 3 < s.size := by omega
    have hx3 := hx 3 q3
    rw [← hb1] at hx1
    rw [← hb2] at hx2
    rw [← hb3] at hx3
    have hw1 : wrap64 (b1 : Int) = b1 := w64b b1 l1
    have hw2 : wrap64 (b2 : Int) = b2 := w64b b2 l2
    have hw3 : wrap64 (b3 : Int) = b3 := w64b b3 l3
    rw [if_neg (by omega), h'] at hv
    rw [h] at hsize
    have Hv := hide (show v = 262144 * ((b0 : Int) - 240) + 4096 * (b1 - 128) + 64 * (b2 - 128) + b3 - 128 by rw [hv]; exact v4_int k.1 i1.1 i2.1 i3.1)
    have hc := hsize w h0 hs
    clear h h' hx hb0 hb1 hb2 hb3 hv i1 i2 i3 hlen le hsize k l0 l1 l2 l3
    have He := hide (wrap_v4 (a := (b0 : Int)) (b := (b1 : Int)) (c := (b2 : Int)) (d := (b3 : Int)) (Int.natCast_nonneg _) (Int.ofNat_lt.2 L0.out) (Int.natCast_nonneg _) (Int.ofNat_lt.2 L1.out) (Int.natCast_nonneg _) (Int.ofNat_lt.2 L2.out) (Int.natCast_nonneg _) (Int.ofNat_lt.2 L3.out))
    go_enter Tryd.func9, Tryd.ntmps9
    go_wp2_with fail
    (with_reducible refine hc.mono ?_)
    rintro e w' ⟨rfl, rfl⟩
    go_wp2
    go_quiet (fail)
    go_wp2
    go_ret
    have e := He.out
    rw [← Hv.out] at e
    exact ⟨ret_int e, bel_drewN (Below.refl _ _) _⟩

end Go.Proofs.YtlenlopeakmplaaDoor
