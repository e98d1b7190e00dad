/-
  CONTRACTS, digits from 0 to f: math/bits.TrailingZeros of 16, strconv.FormatUint at base 16, package runes' hex.
-/
import Derived.Test.YtlenlopeakmplaaDoorRun1
import Derived.WalkSmall
namespace Go.Proofs.YtlenlopeakmplaaDoor
open Go.RowKit

theorem ctz16 (w : World) (hc : w.cell? ⟨5, 15, none⟩ = some (.int .u8 4)) :
    Calls Tryd.prog 79 #[.int .u64 16] w fun e w' => e = .returned (.int .i64 4) ∧ w' = w := by
  have e0 : bits .and .u64 16 (IntKind.u64.wrap (-16)) = 16 := by decide
  have e1 : IntKind.u64.wrap (16 * 285870213051353865) / 288230376151711744 = 15 := by decide
  have e2 : IntKind.u64.wrap 4573923408821661840 / 288230376151711744 = 15 := by decide
  go_enter Tryd.func79, Tryd.ntmps79
  go_wp2
  go_ret
  exact ⟨rfl, rfl⟩

theorem and15 (m : Nat) (h : m < 18446744073709551616) : bits .and .u64 (m : Int) 15 = ((m % 16 : Nat) : Int) := by
  have e : m &&& 15 = m % 16 := Nat.and_two_pow_sub_one_eq_mod m 4
  have h2 := bits_and_u64_nat m 15 (by omega) (by omega)
  rw [e] at h2
  exact h2

theorem dig36_fin : ∀ d : Fin 16, (({ data := #[48, 49, 50, 51, 52, 53, 54, 55, 56, 57, 97, 98, 99, 100, 101, 102, 103, 104, 105, 106, 107, 108, 109, 110, 111, 112, 113, 114, 115, 116, 117, 118, 119, 120, 121, 122] } : ByteArray)[d.val]'(by have := d.isLt; show d.val < 36; omega)).toNat = (dig d.val).toNat := by decide +kernel
theorem dig36 (d : Nat) (h : d < 16) (h' : d < ({ data := #[48, 49, 50, 51, 52, 53, 54, 55, 56, 57, 97, 98, 99, 100, 101, 102, 103, 104, 105, 106, 107, 108, 109, 110, 111, 112, 113, 114, 115, 116, 117, 118, 119, 120, 121, 122] } : ByteArray).size) : (({ data := #[48, 49, 50, 51, 52, 53, 54, 55, 56, 57, 97, 98, 99, 100, 101, 102, 103, 104, 105, 106, 107, 108, 109, 110, 111, 112, 113, 114, 115, 116, 117, 118, 119, 120, 121, 122] } : ByteArray)[d]'h').toNat = (dig d).toNat := dig36_fin ⟨d, h⟩
theorem dig36_zero (h' : 0 < ({ data := #[48, 49, 50, 51, 52, 53, 54, 55, 56, 57, 97, 98, 99, 100, 101, 102, 103, 104, 105, 106, 107, 108, 109, 110, 111, 112, 113, 114, 115, 116, 117, 118, 119, 120, 121, 122] } : ByteArray).size) : (({ data := #[48, 49, 50, 51, 52, 53, 54, 55, 56, 57, 97, 98, 99, 100, 101, 102, 103, 104, 105, 106, 107, 108, 109, 110, 111, 112, 113, 114, 115, 116, 117, 118, 119, 120, 121, 122] } : ByteArray)[0]'h').toNat = (dig 0).toNat := dig36_fin ⟨0, by decide⟩

theorem zero95 : Tryd.zeroCells95.size = 65 := by kernel_rfl

set_option maxRecDepth 100000 in
set_option maxHeartbeats 1000000 in
theorem formatBits16 (n : Nat) (w : World) (hn : n < 4294967296) (hc : w.cell? ⟨5, 15, none⟩ = some (.int .u8 4)) :
    Calls Tryd.prog 69 #[.slice none 0 0, .int .u64 n, .int .i64 16, .bool false, .bool false] w fun e w' => e = .returned (.tuple #[.slice none 0 0, .string (st (hexD n))]) ∧ Below w.heap.size w w' := by
  have b1 : bits .and .i64 16 15 = 0 := by decide
  have hblt : 5 < w.heap.size := by
    have := World.block_lt_of_cell? w _ hc
    exact this
  have htz := ctz16 (w.alloc (.cells Tryd.zeroCells95 95)) (((Below.refl w.heap.size w).alloc (Nat.le_refl _) _).cell hblt |>.trans hc)
  have Hown := hide (World.ownsRow_lit w Tryd.zeroCells95 (e := 95) (base := w.heap.size) (size := 1) 65 (Nat.le_refl _) (by unfold maxLen; decide) zero95)
  have Hb := hide ((Below.refl w.heap.size w).alloc (Nat.le_refl _) (.cells Tryd.zeroCells95 95))
  have Hlen := hide (show (hexD n).length ≤ 8 from hexD_le 7 n (by omega))
  obtain ⟨R, hR⟩ : ∃ R, R = hexD n := ⟨_, rfl⟩
  rw [← hR] at Hlen ⊢
  have HR := hide hR
  clear hR
  go_enter Tryd.func69, Tryd.ntmps69
  go_wp2_with (first | (go_at_call 79; (with_reducible refine htz.mono ?_); rintro e w1 ⟨rfl, rfl⟩; clear htz) | go_in)
  go_loopw [1, 13] (fun u i wr => ∃ (m k : Nat) (suf : List UInt8) (xs : List Value), u = .int .u64 (m : Int) ∧ m < 4294967296 ∧ i = .int .i64 (k : Int) ∧ 57 ≤ k ∧ k ≤ 65 ∧ Below w.heap.size w wr ∧
      Hid (wr.ownsRow w.heap.size 95 1 (.slice (some ⟨w.heap.size, 0, none⟩) 65 65) 65 xs ∧ hexD m ++ suf = R ∧ suf.length + k = 65 ∧ xs.drop k = bys suf)) (fun u _ _ => (intOf u).toNat)
  case atStart =>
    refine ⟨n, 65, [], _, rfl, hn, rfl, by decide, Nat.le_refl _, Hb.out, hide ⟨Hown.out, by rw [HR.out, List.append_nil], rfl, ?_⟩⟩
    rw [List.drop_eq_nil_of_le (by rw [Array.length_toList, zero95]; exact Nat.le_refl _)]; rfl
  case round =>
    obtain ⟨m, k, suf, xs, rfl, hm, rfl, hk0, hk1, hb, Hw⟩ := hrel
    have hand := and15 m (by omega)
    by_cases h16 : 16 ≤ m
    · have h1 : (16 : Int) ≤ (m : Int) := by omega
      have hk : 58 ≤ k := by
        have h := congrArg List.length Hw.out.2.1
        rw [List.length_append] at h
        have := hexD_len m
        have := Hlen.out
        have := Hw.out.2.2.1
        omega
      obtain ⟨q, rfl⟩ : ∃ q, k = q + 1 := ⟨k - 1, by omega⟩
      have hfz := Hw.out.1.frozenAt q
      obtain ⟨x, hx⟩ : ∃ x, wr.cell? ⟨w.heap.size, q, none⟩ = some x := by
        have hl := Hw.out.1.1
        have h := Hw.out.1.cells rfl q (xs[q]'(by omega)) (List.getElem?_eq_getElem (by omega))
        have e : ((⟨w.heap.size, 0, none⟩ : Addr).add q) = ⟨w.heap.size, q, none⟩ := by unfold Addr.add; by_cases hq : q = 0 <;> simp [hq]
        rw [e] at h
        exact ⟨_, h⟩
      go_wp2
      simp only [dig36 (m % 16) (by omega)]
      obtain ⟨ho2, hg2⟩ := Hw.out.1.stored q (.int .u8 ((dig (m % 16)).toNat : Int))
      have hb2 := hb.grown hg2 hb.size (fun k hk => by injection hk with hk; omega)
      have hlen := Hw.out.1.1
      refine ⟨⟨m / 16, q, dig (m % 16) :: suf, xs.set q (.int .u8 ((dig (m % 16)).toNat : Int)), rfl, by omega, rfl, by omega, by omega, hb2, hide ⟨ho2, ?_, ?_, ?_⟩⟩, by simp [intOf]; omega⟩
      · have h := Hw.out.2.1
        rw [hexD_big (by omega)] at h
        rw [← h]; simp
      · have h := Hw.out.2.2.1
        simp; omega
      · have h := Hw.out.2.2.2
        rw [List.drop_eq_getElem_cons (by rw [List.length_set]; omega), List.getElem_set_self, List.drop_set_of_lt (by omega), h]
        rfl
    · have h1 : ¬ (16 : Int) ≤ (m : Int) := by omega
      have hkk : 1 ≤ k := by omega
      obtain ⟨q, rfl⟩ : ∃ q, k = q + 1 := ⟨k - 1, by omega⟩
      have hfz := Hw.out.1.frozenAt q
      obtain ⟨x, hx⟩ : ∃ x, wr.cell? ⟨w.heap.size, q, none⟩ = some x := by
        have hl := Hw.out.1.1
        have h := Hw.out.1.cells rfl q (xs[q]'(by omega)) (List.getElem?_eq_getElem (by omega))
        have e : ((⟨w.heap.size, 0, none⟩ : Addr).add q) = ⟨w.heap.size, q, none⟩ := by unfold Addr.add; by_cases hq : q = 0 <;> simp [hq]
        rw [e] at h
        exact ⟨_, h⟩
      have h36 : (m : Int) < 36 := by omega
      have hal : Tryd.prog.arrayLen 95 = 65 := by simp [Program.arrayLen, Tryd.underlying95]
      have hsl : ∀ W, (Instr.sliceAt 95 (.pointer (some ⟨w.heap.size, 0, none⟩)) (some (.int .i64 (q : Int))) none none).run Tryd.prog W = .ok (.slice (some ⟨w.heap.size, q, none⟩) (65 - q) (65 - q)) W := fun W => by
        rw [run_sliceAt_array_l W 95 ⟨w.heap.size, 0, none⟩ (by simp [Program.arrayLen, Program.elem, Tryd.underlying95]) .i64 (q : Int) (by omega) (by rw [hal]; omega)]
        have e : ((⟨w.heap.size, 0, none⟩ : Addr).add q) = ⟨w.heap.size, q, none⟩ := by unfold Addr.add; by_cases hq : q = 0 <;> simp [hq]
        have hel : Tryd.prog.elem 95 = 5 := by simp [Program.elem, Tryd.underlying95]
        rw [hel, hal]
        go_simp
        omega
      obtain ⟨ho2, hg2⟩ := Hw.out.1.stored q (.int .u8 ((dig m).toNat : Int))
      have hb2 := hide (hb.grown hg2 hb.size (fun k hk => by injection hk with hk; omega))
      have hR : dig m :: suf = R := by
        have h := Hw.out.2.1
        rw [hexD_small (by omega)] at h
        exact h
      have hxs : (xs.set q (.int .u8 ((dig m).toNat : Int))).drop q = bys R := by
        have h := Hw.out.2.2.2
        have hlen := Hw.out.1.1
        rw [List.drop_eq_getElem_cons (by rw [List.length_set]; omega), List.getElem_set_self, List.drop_set_of_lt (by omega), h, ← hR]
        rfl
      have hRl : 65 - q = R.length := by
        have h := Hw.out.2.2.1
        rw [← hR, List.length_cons]; omega
      have hcv : ∀ h', (convert 45 9 (.slice (some ⟨w.heap.size, q, none⟩) (65 - q) (65 - q))).run Tryd.prog (wr.setCell ⟨w.heap.size, q, none⟩ (.int .u8 ((({ data := #[48, 49, 50, 51, 52, 53, 54, 55, 56, 57, 97, 98, 99, 100, 101, 102, 103, 104, 105, 106, 107, 108, 109, 110, 111, 112, 113, 114, 115, 116, 117, 118, 119, 120, 121, 122] } : ByteArray)[m]'h').toNat : Int))) = .ok (.string (str R)) (wr.setCell ⟨w.heap.size, q, none⟩ (.int .u8 ((({ data := #[48, 49, 50, 51, 52, 53, 54, 55, 56, 57, 97, 98, 99, 100, 101, 102, 103, 104, 105, 106, 107, 108, 109, 110, 111, 112, 113, 114, 115, 116, 117, 118, 119, 120, 121, 122] } : ByteArray)[m]'h').toNat : Int))) := by
        intro h'
        rw [dig36 m (by omega) h']
        refine strU8 (B := w.heap.size + 1) _ ?_ hRl
        refine .inr ⟨_, rfl, Nat.lt_succ_self _, fun j u hu => ?_⟩
        rw [← hxs, List.getElem?_drop] at hu
        have h := ho2.cells rfl (q + j) u hu
        have e : ((⟨w.heap.size, q, none⟩ : Addr).add j) = ((⟨w.heap.size, 0, none⟩ : Addr).add (q + j)) := by
          unfold Addr.add; by_cases hj : j = 0 <;> by_cases hq : q = 0 <;> simp [hj, hq]
        rw [e]; exact h
      rw [hRl] at hcv hsl
      clear ho2 hg2 hxs hR hRl
      go_wp2
      simp only [dig36 m (by omega)]
      go_ret2
      exact ⟨rfl, hb2.out⟩

theorem format16in (n : Nat) (w : World) (hn : n < 4294967296) (hc : w.cell? ⟨5, 15, none⟩ = some (.int .u8 4)) :
    Calls Tryd.prog 55 #[.int .u64 n, .int .i64 16] w fun e w' => e = .returned (.string (st (hexD n))) ∧ Below w.heap.size w w' := by
  have hf := formatBits16 n w hn hc
  generalize st (hexD n) = x at hf ⊢
  clear hc
  go_enter Tryd.func55, Tryd.ntmps55
  go_wp2_with (go_at_call 69; (with_reducible refine hf.mono ?_); rintro e w1 ⟨rfl, hb⟩; have Hb := hide hb; clear hb hf)
  go_ret
  exact ⟨rfl, Hb.out⟩

theorem format16 (n : Nat) (w : World) (hn : n < 4294967296) (hc : w.cell? ⟨5, 15, none⟩ = some (.int .u8 4)) :
    Calls Tryd.prog 44 #[.int .u64 n, .int .i64 16] w fun e w' => e = .returned (.string (st (hexD n))) ∧ Below w.heap.size w w' := by
  have hf := format16in n w hn hc
  generalize st (hexD n) = x at hf ⊢
  clear hc
  go_enter Tryd.func44, Tryd.ntmps44
  go_wp2_with (go_at_call 55; (with_reducible refine hf.mono ?_); rintro e w1 ⟨rfl, hb⟩; have Hb := hide hb; clear hb hf)
  go_ret
  exact ⟨rfl, Hb.out⟩

theorem hexD_one_iff (n : Nat) : (hexD n).length < 2 ↔ n < 16 := by
  by_cases h : n < 16
  · rw [hexD_small h]; simp [h]
  · rw [hexD_big h, List.length_append]
    have := hexD_len (n / 16)
    simp; omega

/-- hex: at least two digits. -/
theorem hex_run (n : Nat) (w : World) (hn : n < 4294967296) (hc : w.cell? ⟨5, 15, none⟩ = some (.int .u8 4)) :
    Calls Tryd.prog 32 #[.int .u64 n] w fun e w' => e = .returned (.string (st (two n))) ∧ Below w.heap.size w w' := by
  have hf := format16 n w hn hc
  have hlen := hexD_one_iff n
  have hle := hexD_le 7 n (by omega)
  rw [← st_size] at hlen hle
  have Htwo := hide (show two n = if n < 16 then 48 :: hexD n else hexD n from rfl)
  have Hcat := hide (show st (48 :: hexD n) = ({ data := #[48] } : ByteArray) ++ st (hexD n) from (st_app [48] (hexD n)).symm)
  by_cases h16 : n < 16
  · rw [Htwo.out, if_pos h16, Hcat.out]
    have h2 := hlen.2 h16
    generalize st (hexD n) = x at hf hle h2 ⊢
    have g1 : (x.size : Int) < 2 := by omega
    have hcat : ¬ 9223372036854775807 < 1 + x.size := by omega
    clear hc hlen h16 h2
    go_enter Tryd.func32, Tryd.ntmps32
    go_wp2_with (go_at_call 44; (with_reducible refine hf.mono ?_); rintro e w1 ⟨rfl, hb⟩; have Hb := hide hb; clear hb hf)
    go_ret
    exact ⟨rfl, Hb.out⟩
  · rw [Htwo.out, if_neg h16]
    have h2 : ¬ (st (hexD n)).size < 2 := fun h => h16 (hlen.1 h)
    generalize st (hexD n) = x at hf hle h2 ⊢
    have g1 : ¬ (x.size : Int) < 2 := by omega
    clear hc hlen h16 h2
    go_enter Tryd.func32, Tryd.ntmps32
    go_wp2_with (go_at_call 44; (with_reducible refine hf.mono ?_); rintro e w1 ⟨rfl, hb⟩; have Hb := hide hb; clear hb hf)
    go_ret
    exact ⟨rfl, Hb.out⟩

end Go.Proofs.YtlenlopeakmplaaDoor
