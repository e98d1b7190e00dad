/-
  THE REFERENCE's Size AND Value, walked: how many bytes a text's first rune has, and its number.
-/
import Derived.Test.YtlenlopeakmplaaDoorRefH
namespace Go.Proofs.YtlenlopeakmplaaDoor
open Go.RowKit

theorem s_bt (s : ByteArray) (k : Nat) (h : k < s.size) : (s[k]'h).toNat = bt s.data.toList k := by
  have e := bt_at s 0 k
  rw [Nat.zero_add, List.drop_zero] at e
  rw [← e]
  simp [ByteArray.get!, getElem!_pos, h]
  rfl
theorem w64b (n : Nat) (h : n < 256) : wrap64 (n : Int) = n := by unfold wrap64; omega

/-- A number of k bytes more than one, as the reference sums it up. -/
def pv (l : List UInt8) (base : Nat) : Nat → Nat
  | 0 => bt l 0 - base
  | k + 1 => 64 * pv l base k + (bt l (k + 1) - 128)
theorem pv_lt (l : List UInt8) (base : Nat) (h : bt l 0 - base < 32) : ∀ k, k ≤ 3 → (∀ j, 1 ≤ j → j ≤ k → inr (bt l j)) → pv l base k < 32 * 64 ^ k
  | 0, _, _ => by unfold pv; omega
  | k + 1, hk, hj => by
    have ih := pv_lt l base h k (by omega) fun j h1 h2 => hj j h1 (by omega)
    have := hj (k + 1) (by omega) (Nat.le_refl _)
    unfold inr at this
    unfold pv
    rw [Nat.pow_succ]
    omega


set_option maxRecDepth 100000 in
set_option maxHeartbeats 4000000 in
theorem ref_size_A (s : ByteArray) (w : World) (b0 : Nat) (h0 : 1 ≤ s.size) (hs : s.size ≤ 1000000) (hb : b0 = bt s.data.toList 0) (hlo : 192 ≤ b0) (hhi : b0 < 224) : Calls Tryd.prog 24 #[.string s] w fun e w' => e = .returned (.int .i64 (sz s.data.toList : Int)) ∧ w' = w := by
  have hx0 : (s[0]'(by omega)).toNat = b0 := by rw [s_bt, hb]
  have hw0 : wrap64 (b0 : Int) = b0 := w64b b0 (by omega)
  have Hx := hide (s_bt s)
  have Hlen := hide (show s.data.toList.length = s.size by rw [Array.length_toList]; rfl)
  obtain ⟨l, hl⟩ : ∃ l, l = s.data.toList := ⟨_, rfl⟩
  have Hb := hide hb
  rw [← hl] at Hx Hlen Hb ⊢
  clear hb hl
  obtain ⟨z, hz⟩ : ∃ z, z = sz l := ⟨_, rfl⟩
  have Hz := hide hz
  rw [← hz]
  clear hz
  have Hpv := hide (pv_lt l 192 (by rw [← Hb.out]; omega))
  have Hsz := hide (show sz l = szN l.length (bt l 0) (bt l 1) (bt l 2) (bt l 3) from rfl)
  by_cases hN : s.size < 2
  · obtain rfl : z = 0 := by
      rw [Hz.out, Hsz.out, sz_c2 (by rw [← Hb.out]; omega) (by rw [← Hb.out]; omega), if_neg (by have := Hlen.out; omega)]
    have h1 : ¬ ((s.size : Int) ≥ 2) := by omega
    go_enter Tryd.func24, Tryd.ntmps24
    go_wp2
    go_ret
    exact ⟨rfl, rfl⟩
  · have Hn := hide hN
    go_enter Tryd.func24, Tryd.ntmps24
    go_wp2
    go_loop [6, 7] (fun v i => ∃ k : Nat, k ≤ 1 ∧ i = .int .i64 ((k + 1 : Nat) : Int) ∧ v = .int .i64 ((pv l 192 k : Nat) : Int) ∧ Hid (∀ j, 1 ≤ j → j ≤ k → inr (bt l j))) (fun _ i => 2 - (intOf i).toNat)
    case atStart => exact ⟨0, Nat.zero_le _, rfl, by unfold pv; rw [← Hb.out]; go_num, hide (fun j h1 h2 => absurd h2 (by omega))⟩
    case round =>
      obtain ⟨k, hk, rfl, rfl, hin⟩ := hrel
      by_cases hlt : k < 1
      · have h1 : ((k + 1 : Nat) : Int) < 2 := by omega
        have hks : k + 1 < s.size := by omega
        have hbk := Hx.out (k + 1) hks
        obtain ⟨d, hd⟩ : ∃ d, d = bt l (k + 1) := ⟨_, rfl⟩
        rw [← hd] at hbk
        have Hd := hide hd
        have hd256 : d < 256 := by rw [hd]; exact bt_lt _ _
        clear hd
        have hwd := w64b d hd256
        obtain ⟨p, hp⟩ : ∃ p, p = pv l 192 k := ⟨_, rfl⟩
        have hpl : p < 32 * 64 ^ k := by rw [hp]; exact Hpv.out k (by omega) hin.out
        have hpl2 : p < 131072 := Nat.lt_of_lt_of_le hpl (show 32 * 64 ^ k ≤ 131072 by have : 64 ^ k ≤ 64 ^ 2 := Nat.pow_le_pow_right (by decide) (by omega); omega)
        clear hpl
        rw [← hp]
        have Hp := hide hp
        clear hp
        by_cases hr : inr d
        · have hr' := hr
          unfold inr at hr
          obtain ⟨hr1, hr2⟩ := hr
          have g1 : ¬ (d : Int) < 128 := by omega
          have g2 : (d : Int) < 192 := by omega
          go_wp2
          go_round
          case rel =>
            refine ⟨k + 1, by omega, by go_num, ?_, hide fun j h1 h2 => ?_⟩
            · unfold pv; rw [← Hp.out, ← Hd.out]; go_num
            · by_cases hj : j = k + 1
              · rw [hj, ← Hd.out]; exact hr'
              · exact hin.out j h1 (by omega)
          case measure => simp [intOf]; omega
        · obtain rfl : z = 0 := by
            rw [Hz.out, Hsz.out, sz_c2 (by rw [← Hb.out]; omega) (by rw [← Hb.out]; omega), if_neg]
            intro hh
            refine hr ?_
            rw [Hd.out]
            obtain rfl : k = 0 := by omega
            exact hh.2.1
          by_cases g1 : d < 128
          · go_wp2
            go_ret
            exact ⟨rfl, rfl⟩
          · have g2 : ¬ (d : Int) < 192 := by unfold inr at hr; omega
            have g3 : (192 : Int) ≤ d := by omega
            go_wp2
            go_ret
            exact ⟨rfl, rfl⟩
      · obtain rfl : k = 1 := by omega
        have Hp3 : pv l 192 1 = v2 (bt l 0) (bt l 1) := by
          rfl
        obtain ⟨p, hp⟩ : ∃ p : Int, p = ((pv l 192 1 : Nat) : Int) := ⟨_, rfl⟩
        rw [Hp3] at hp
        rw [Hp3, ← hp]
        have Hp4 := hide hp
        have hpl : p < 8388608 := by rw [hp]; have := bt_lt l 0; have := bt_lt l 1; unfold v2; omega
        have hp0 : 0 ≤ p := by omega
        clear hp Hp3
        by_cases hok : 128 ≤ p
        · obtain rfl : z = 2 := by
            rw [Hz.out, Hsz.out, sz_c2 (by rw [← Hb.out]; omega) (by rw [← Hb.out]; omega), if_pos]
            have := Hp4.out
            exact ⟨by have := Hlen.out; omega, hin.out 1 (by omega) (by omega), by omega⟩
          have g1 : ¬ (p : Int) < 128 := by omega
          have g2 : (p : Int) < 55296 := by have h1 := Hp4.out; have h2 := bt_lt l 1; have h3 := Hb.out; unfold v2 at h1; omega
          have g0 : ¬ (1114111 : Int) < p := by omega
          clear hpl hok
          go_wp2
          go_ret
          exact ⟨rfl, rfl⟩
        · obtain rfl : z = 0 := by
            rw [Hz.out, Hsz.out, sz_c2 (by rw [← Hb.out]; omega) (by rw [← Hb.out]; omega), if_neg]
            intro hh
            have := Hp4.out
            exact hok (by omega)
          clear hpl
          have g1 : (p : Int) < 128 := by omega
          go_wp2
          go_ret
          exact ⟨rfl, rfl⟩

set_option maxRecDepth 100000 in
set_option maxHeartbeats 4000000 in
theorem ref_size_B (s : ByteArray) (w : World) (b0 : Nat) (h0 : 1 ≤ s.size) (hs : s.size ≤ 1000000) (hb : b0 = bt s.data.toList 0) (hlo : 224 ≤ b0) (hhi : b0 < 240) : Calls Tryd.prog 24 #[.string s] w fun e w' => e = .returned (.int .i64 (sz s.data.toList : Int)) ∧ w' = w := by
  have hx0 : (s[0]'(by omega)).toNat = b0 := by rw [s_bt, hb]
  have hw0 : wrap64 (b0 : Int) = b0 := w64b b0 (by omega)
  have Hx := hide (s_bt s)
  have Hlen := hide (show s.data.toList.length = s.size by rw [Array.length_toList]; rfl)
  obtain ⟨l, hl⟩ : ∃ l, l = s.data.toList := ⟨_, rfl⟩
  have Hb := hide hb
  rw [← hl] at Hx Hlen Hb ⊢
  clear hb hl
  obtain ⟨z, hz⟩ : ∃ z, z = sz l := ⟨_, rfl⟩
  have Hz := hide hz
  rw [← hz]
  clear hz
  have Hpv := hide (pv_lt l 224 (by rw [← Hb.out]; omega))
  have Hsz := hide (show sz l = szN l.length (bt l 0) (bt l 1) (bt l 2) (bt l 3) from rfl)
  by_cases hN : s.size < 3
  · obtain rfl : z = 0 := by
      rw [Hz.out, Hsz.out, sz_c3 (by rw [← Hb.out]; omega), if_neg (by have := Hlen.out; omega)]
    have h1 : ¬ ((s.size : Int) ≥ 3) := by omega
    go_enter Tryd.func24, Tryd.ntmps24
    go_wp2
    go_ret
    exact ⟨rfl, rfl⟩
  · have Hn := hide hN
    go_enter Tryd.func24, Tryd.ntmps24
    go_wp2
    go_loop [6, 7] (fun v i => ∃ k : Nat, k ≤ 2 ∧ i = .int .i64 ((k + 1 : Nat) : Int) ∧ v = .int .i64 ((pv l 224 k : Nat) : Int) ∧ Hid (∀ j, 1 ≤ j → j ≤ k → inr (bt l j))) (fun _ i => 3 - (intOf i).toNat)
    case atStart => exact ⟨0, Nat.zero_le _, rfl, by unfold pv; rw [← Hb.out]; go_num, hide (fun j h1 h2 => absurd h2 (by omega))⟩
    case round =>
      obtain ⟨k, hk, rfl, rfl, hin⟩ := hrel
      by_cases hlt : k < 2
      · have h1 : ((k + 1 : Nat) : Int) < 3 := by omega
        have hks : k + 1 < s.size := by omega
        have hbk := Hx.out (k + 1) hks
        obtain ⟨d, hd⟩ : ∃ d, d = bt l (k + 1) := ⟨_, rfl⟩
        rw [← hd] at hbk
        have Hd := hide hd
        have hd256 : d < 256 := by rw [hd]; exact bt_lt _ _
        clear hd
        have hwd := w64b d hd256
        obtain ⟨p, hp⟩ : ∃ p, p = pv l 224 k := ⟨_, rfl⟩
        have hpl : p < 32 * 64 ^ k := by rw [hp]; exact Hpv.out k (by omega) hin.out
        have hpl2 : p < 131072 := Nat.lt_of_lt_of_le hpl (show 32 * 64 ^ k ≤ 131072 by have : 64 ^ k ≤ 64 ^ 2 := Nat.pow_le_pow_right (by decide) (by omega); omega)
        clear hpl
        rw [← hp]
        have Hp := hide hp
        clear hp
        by_cases hr : inr d
        · have hr' := hr
          unfold inr at hr
          obtain ⟨hr1, hr2⟩ := hr
          have g1 : ¬ (d : Int) < 128 := by omega
          have g2 : (d : Int) < 192 := by omega
          go_wp2
          go_round
          case rel =>
            refine ⟨k + 1, by omega, by go_num, ?_, hide fun j h1 h2 => ?_⟩
            · unfold pv; rw [← Hp.out, ← Hd.out]; go_num
            · by_cases hj : j = k + 1
              · rw [hj, ← Hd.out]; exact hr'
              · exact hin.out j h1 (by omega)
          case measure => simp [intOf]; omega
        · obtain rfl : z = 0 := by
            rw [Hz.out, Hsz.out, sz_c3 (by rw [← Hb.out]; omega), if_neg]
            intro hh
            refine hr ?_
            rw [Hd.out]
            rcases (show k = 0 ∨ k = 1 by omega) with rfl | rfl
            · exact hh.2.1
            · exact hh.2.2.1
          by_cases g1 : d < 128
          · go_wp2
            go_ret
            exact ⟨rfl, rfl⟩
          · have g2 : ¬ (d : Int) < 192 := by unfold inr at hr; omega
            have g3 : (192 : Int) ≤ d := by omega
            go_wp2
            go_ret
            exact ⟨rfl, rfl⟩
      · obtain rfl : k = 2 := by omega
        have Hp3 : pv l 224 2 = v3 (bt l 0) (bt l 1) (bt l 2) := by
          show 64 * (64 * (bt l 0 - 224) + (bt l 1 - 128)) + (bt l 2 - 128) = _; unfold v3; omega
        obtain ⟨p, hp⟩ : ∃ p : Int, p = ((pv l 224 2 : Nat) : Int) := ⟨_, rfl⟩
        rw [Hp3] at hp
        rw [Hp3, ← hp]
        have Hp4 := hide hp
        have hpl : p < 8388608 := by rw [hp]; have := bt_lt l 0; have := bt_lt l 1; have := bt_lt l 2; unfold v3; omega
        have hp0 : 0 ≤ p := by omega
        clear hp Hp3
        by_cases hok : 2048 ≤ p ∧ (p < 55296 ∨ 57344 ≤ p)
        · obtain rfl : z = 3 := by
            rw [Hz.out, Hsz.out, sz_c3 (by rw [← Hb.out]; omega), if_pos]
            have := Hp4.out
            exact ⟨by have := Hlen.out; omega, hin.out 1 (by omega) (by omega), hin.out 2 (by omega) (by omega), by omega, by omega⟩
          have g0 : ¬ (1114111 : Int) < p := by have h1 := Hp4.out; have h2 := bt_lt l 1; have h3 := bt_lt l 2; have h4 := Hb.out; unfold v3 at h1; omega
          clear hpl
          rcases hok with ⟨k1, k2 | k2⟩
          · have g1 : ¬ (p : Int) < 2048 := by omega
            have g2 : (p : Int) < 55296 := by omega
            go_wp2
            go_ret
            exact ⟨rfl, rfl⟩
          · have g1 : ¬ (p : Int) < 2048 := by omega
            have g2 : ¬ (p : Int) < 57344 := by omega
            go_wp2
            go_ret
            exact ⟨rfl, rfl⟩
        · obtain rfl : z = 0 := by
            rw [Hz.out, Hsz.out, sz_c3 (by rw [← Hb.out]; omega), if_neg]
            intro hh
            have := Hp4.out
            exact hok (by omega)
          have g0 : ¬ (1114111 : Int) < p := by have h1 := Hp4.out; have h2 := bt_lt l 1; have h3 := bt_lt l 2; have h4 := Hb.out; unfold v3 at h1; omega
          clear hpl
          by_cases k1 : p < (2048 : Int)
          · go_wp2
            go_ret
            exact ⟨rfl, rfl⟩
          · have g1 : ¬ (p : Int) < 55296 := by omega
            have g2 : (p : Int) < 57344 := by omega
            go_wp2
            go_ret
            exact ⟨rfl, rfl⟩

set_option maxRecDepth 100000 in
set_option maxHeartbeats 4000000 in
theorem ref_size_C (s : ByteArray) (w : World) (b0 : Nat) (h0 : 1 ≤ s.size) (hs : s.size ≤ 1000000) (hb : b0 = bt s.data.toList 0) (hlo : 240 ≤ b0) (hhi : b0 < 248) : Calls Tryd.prog 24 #[.string s] w fun e w' => e = .returned (.int .i64 (sz s.data.toList : Int)) ∧ w' = w := by
  have hx0 : (s[0]'(by omega)).toNat = b0 := by rw [s_bt, hb]
  have hw0 : wrap64 (b0 : Int) = b0 := w64b b0 (by omega)
  have Hx := hide (s_bt s)
  have Hlen := hide (show s.data.toList.length = s.size by rw [Array.length_toList]; rfl)
  obtain ⟨l, hl⟩ : ∃ l, l = s.data.toList := ⟨_, rfl⟩
  have Hb := hide hb
  rw [← hl] at Hx Hlen Hb ⊢
  clear hb hl
  obtain ⟨z, hz⟩ : ∃ z, z = sz l := ⟨_, rfl⟩
  have Hz := hide hz
  rw [← hz]
  clear hz
  have Hpv := hide (pv_lt l 240 (by rw [← Hb.out]; omega))
  have Hsz := hide (show sz l = szN l.length (bt l 0) (bt l 1) (bt l 2) (bt l 3) from rfl)
  by_cases hN : s.size < 4
  · obtain rfl : z = 0 := by
      rw [Hz.out, Hsz.out, sz_c4 (by rw [← Hb.out]; omega), if_neg (by have := Hlen.out; omega)]
    have h1 : ¬ ((s.size : Int) ≥ 4) := by omega
    go_enter Tryd.func24, Tryd.ntmps24
    go_wp2
    go_ret
    exact ⟨rfl, rfl⟩
  · have Hn := hide hN
    go_enter Tryd.func24, Tryd.ntmps24
    go_wp2
    go_loop [6, 7] (fun v i => ∃ k : Nat, k ≤ 3 ∧ i = .int .i64 ((k + 1 : Nat) : Int) ∧ v = .int .i64 ((pv l 240 k : Nat) : Int) ∧ Hid (∀ j, 1 ≤ j → j ≤ k → inr (bt l j))) (fun _ i => 4 - (intOf i).toNat)
    case atStart => exact ⟨0, Nat.zero_le _, rfl, by unfold pv; rw [← Hb.out]; go_num, hide (fun j h1 h2 => absurd h2 (by omega))⟩
    case round =>
      obtain ⟨k, hk, rfl, rfl, hin⟩ := hrel
      by_cases hlt : k < 3
      · have h1 : ((k + 1 : Nat) : Int) < 4 := by omega
        have hks : k + 1 < s.size := by omega
        have hbk := Hx.out (k + 1) hks
        obtain ⟨d, hd⟩ : ∃ d, d = bt l (k + 1) := ⟨_, rfl⟩
        rw [← hd] at hbk
        have Hd := hide hd
        have hd256 : d < 256 := by rw [hd]; exact bt_lt _ _
        clear hd
        have hwd := w64b d hd256
        obtain ⟨p, hp⟩ : ∃ p, p = pv l 240 k := ⟨_, rfl⟩
        have hpl : p < 32 * 64 ^ k := by rw [hp]; exact Hpv.out k (by omega) hin.out
        have hpl2 : p < 131072 := Nat.lt_of_lt_of_le hpl (show 32 * 64 ^ k ≤ 131072 by have : 64 ^ k ≤ 64 ^ 2 := Nat.pow_le_pow_right (by decide) (by omega); omega)
        clear hpl
        rw [← hp]
        have Hp := hide hp
        clear hp
        by_cases hr : inr d
        · have hr' := hr
          unfold inr at hr
          obtain ⟨hr1, hr2⟩ := hr
          have g1 : ¬ (d : Int) < 128 := by omega
          have g2 : (d : Int) < 192 := by omega
          go_wp2
          go_round
          case rel =>
            refine ⟨k + 1, by omega, by go_num, ?_, hide fun j h1 h2 => ?_⟩
            · unfold pv; rw [← Hp.out, ← Hd.out]; go_num
            · by_cases hj : j = k + 1
              · rw [hj, ← Hd.out]; exact hr'
              · exact hin.out j h1 (by omega)
          case measure => simp [intOf]; omega
        · obtain rfl : z = 0 := by
            rw [Hz.out, Hsz.out, sz_c4 (by rw [← Hb.out]; omega), if_neg]
            intro hh
            refine hr ?_
            rw [Hd.out]
            rcases (show k = 0 ∨ k = 1 ∨ k = 2 by omega) with rfl | rfl | rfl
            · exact hh.2.1
            · exact hh.2.2.1
            · exact hh.2.2.2.1
          by_cases g1 : d < 128
          · go_wp2
            go_ret
            exact ⟨rfl, rfl⟩
          · have g2 : ¬ (d : Int) < 192 := by unfold inr at hr; omega
            have g3 : (192 : Int) ≤ d := by omega
            go_wp2
            go_ret
            exact ⟨rfl, rfl⟩
      · obtain rfl : k = 3 := by omega
        have Hp3 : pv l 240 3 = v4 (bt l 0) (bt l 1) (bt l 2) (bt l 3) := by
          show 64 * (64 * (64 * (bt l 0 - 240) + (bt l 1 - 128)) + (bt l 2 - 128)) + (bt l 3 - 128) = _; unfold v4; omega
        obtain ⟨p, hp⟩ : ∃ p : Int, p = ((pv l 240 3 : Nat) : Int) := ⟨_, rfl⟩
        rw [Hp3] at hp
        rw [Hp3, ← hp]
        have Hp4 := hide hp
        have hpl : p < 8388608 := by rw [hp]; have := bt_lt l 0; have := bt_lt l 1; have := bt_lt l 2; have := bt_lt l 3; have := Hb.out; unfold v4; omega
        have hp0 : 0 ≤ p := by omega
        clear hp Hp3
        by_cases hok : 65536 ≤ p ∧ p ≤ 1114111
        · obtain rfl : z = 4 := by
            rw [Hz.out, Hsz.out, sz_c4 (by rw [← Hb.out]; omega), if_pos]
            have := Hp4.out
            exact ⟨by have := Hlen.out; omega, hin.out 1 (by omega) (by omega), hin.out 2 (by omega) (by omega), hin.out 3 (by omega) (by omega), by omega, by omega⟩
          clear hpl
          have g1 : ¬ (p : Int) < 65536 := by omega
          have g2 : ¬ (1114111 : Int) < p := by omega
          have g3 : ¬ (p : Int) < 57344 := by omega
          go_wp2
          go_ret
          exact ⟨rfl, rfl⟩
        · obtain rfl : z = 0 := by
            rw [Hz.out, Hsz.out, sz_c4 (by rw [← Hb.out]; omega), if_neg]
            intro hh
            have := Hp4.out
            exact hok (by omega)
          clear hpl
          by_cases k1 : p < (65536 : Int)
          · go_wp2
            go_ret
            exact ⟨rfl, rfl⟩
          · have g1 : (1114111 : Int) < p := by omega
            go_wp2
            go_ret
            exact ⟨rfl, rfl⟩

set_option maxRecDepth 100000 in
theorem ref_size (s : ByteArray) (w : World) (h0 : 1 ≤ s.size) (hs : s.size ≤ 1000000) : Calls Tryd.prog 24 #[.string s] w fun e w' => e = .returned (.int .i64 (sz s.data.toList : Int)) ∧ w' = w := by
  obtain ⟨b0, hb⟩ : ∃ b0, b0 = bt s.data.toList 0 := ⟨_, rfl⟩
  have hb256 : b0 < 256 := by rw [hb]; exact bt_lt _ _
  by_cases c2 : 192 ≤ b0 ∧ b0 < 224
  · exact ref_size_A s w b0 h0 hs hb c2.1 c2.2
  by_cases c3 : 224 ≤ b0 ∧ b0 < 240
  · exact ref_size_B s w b0 h0 hs hb c3.1 c3.2
  by_cases c4 : 240 ≤ b0 ∧ b0 < 248
  · exact ref_size_C s w b0 h0 hs hb c4.1 c4.2
  have hx0 : (s[0]'(by omega)).toNat = b0 := by rw [s_bt, hb]
  have hw0 : wrap64 (b0 : Int) = b0 := w64b b0 (by omega)
  by_cases c1 : b0 < 128
  · have hz : sz s.data.toList = 1 := sz_c1 (by rw [← hb]; exact c1)
    rw [hz]
    clear hz hb
    go_enter Tryd.func24, Tryd.ntmps24
    go_wp2
    go_ret
    exact ⟨rfl, rfl⟩
  · have hz : sz s.data.toList = 0 := sz_c5 (by rw [← hb]; exact c1) (by rw [← hb]; omega)
    rw [hz]
    clear hz hb
    by_cases g : b0 < 192
    · have g1 : (b0 : Int) < 224 := by omega
      have g2 : (b0 : Int) < 240 := by omega
      go_enter Tryd.func24, Tryd.ntmps24
      go_wp2
      go_ret
      exact ⟨rfl, rfl⟩
    · have g1 : ¬ (b0 : Int) < 248 := by omega
      have g2 : ¬ (b0 : Int) < 240 := by omega
      have g3 : ¬ (b0 : Int) < 224 := by omega
      go_enter Tryd.func24, Tryd.ntmps24
      go_wp2
      go_ret
      exact ⟨rfl, rfl⟩

end Go.Proofs.YtlenlopeakmplaaDoor
