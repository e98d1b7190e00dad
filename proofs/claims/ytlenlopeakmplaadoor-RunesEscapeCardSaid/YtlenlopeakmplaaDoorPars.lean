/-
  CONTRACTS, numbers of digits from 0 to f: strconv.ParseUint at base 16, of 8 and of 31 bits.
-/
import Derived.Test.YtlenlopeakmplaaDoorNumb
import Derived.Lib.ConvBytes
import Derived.Lib.AtoiErrMem
namespace Go.Proofs.YtlenlopeakmplaaDoor
open Go.RowKit

theorem or32_fin : ∀ c : Fin 256, bits .or .u8 (c.val : Int) 32 = ((c.val ||| 32 : Nat) : Int) := by decide +kernel
theorem or32 (c : UInt8) : bits .or .u8 (c.toNat : Int) 32 = ((lw c : Nat) : Int) := or32_fin ⟨c.toNat, c.toNat_lt⟩
theorem lw_lt (c : UInt8) : lw c < 256 := by
  have h := c.toNat_lt
  unfold lw
  exact Nat.or_lt_two_pow (n := 8) h (by decide)
theorem lower_run (c : UInt8) (w : World) : Calls Tryd.prog 84 #[.int .u8 c.toNat] w fun e w' => e = .returned (.int .u8 ((lw c : Nat) : Int)) ∧ w' = w := by
  have h := Tryd.internal_strconv_lower (c.toNat : Int) w
  rw [or32] at h
  exact h

/-- What ParseUint tells: the number; or a number and an error that is one of two. -/
def Parsed (o : Option Nat) (v : Value) : Prop :=
  match o with
  | some n => v = .tuple #[.int .u64 (n : Int), .nilIface]
  | none => ∃ x k : Int, v = .tuple #[.int .u64 x, .iface 76 (.int .i64 k)] ∧ (k = 1 ∨ k = 2) ∧ 0 ≤ x ∧ x < 4294967296
theorem parsed_bad {o : Option Nat} {x k : Int} (h : o = none) (hk : k = 1 ∨ k = 2) (h0 : 0 ≤ x) (h1 : x < 4294967296) : Parsed o (.tuple #[.int .u64 x, .iface 76 (.int .i64 k)]) := by
  subst h; exact ⟨x, k, rfl, hk, h0, h1⟩

set_option maxHeartbeats 8000000 in
set_option maxRecDepth 100000 in
theorem parse16_8_in (s : ByteArray) (w : World) (hs : s.size ≤ 1000000) :
    Calls Tryd.prog 72 #[.string s, .int .i64 16, .int .i64 8] w fun e w' => (∃ v, e = .returned v ∧ Parsed (parseHex 255 s.data.toList) v) ∧ Below w.heap.size w w' := by
  by_cases h0 : s.data.toList = []
  · have hemp : s.toList.isEmpty = true := by rw [ByteArray.toList_eq, h0]; rfl
    have hp : parseHex 255 s.data.toList = none := by rw [h0]; rfl
    rw [hp]
    clear h0 hp
    go_enter Tryd.func72, Tryd.ntmps72
    go_wp2
    go_ret2
    exact ⟨⟨_, rfl, parsed_bad rfl (.inr rfl) (by decide) (by decide)⟩, Below.refl _ _⟩
  · have hemp : s.toList.isEmpty = false := by rw [ByteArray.toList_eq]; exact Bool.eq_false_iff.2 fun h => h0 (List.isEmpty_iff.1 h)
    have hp : parseHex 255 s.data.toList = hexGo 255 s.data.toList 0 := by unfold parseHex; rw [if_neg h0]
    rw [hp]
    have hcv := Lib.run_convert_string_bytes (P := Tryd.prog) w 9 45 5 s (u := .string) Tryd.underlying9 Tryd.underlying45 Tryd.underlying5
    have hB : ∀ j, j < s.size → (Lib.bytesWorld w 5 s).cell? ⟨w.heap.size, j, none⟩ = some (.int .u8 (s.data.toList.getD j 0).toNat) := fun j hj => Lib.bytesWorld_cell w 5 s j hj
    have hbel := Lib.bytesWorld_below w 5 s
    obtain ⟨W1, hW1⟩ : ∃ W1, W1 = Lib.bytesWorld w 5 s := ⟨_, rfl⟩
    rw [← hW1] at hcv hB hbel
    have Hbel := hide hbel
    clear hW1 hbel
    obtain ⟨l, hl⟩ : ∃ l, l = s.data.toList := ⟨_, rfl⟩
    have hLn : l.length = s.size := by rw [hl, Array.length_toList]; rfl
    rw [← hl] at hB ⊢
    clear hl h0 hp
    obtain ⟨R, hR⟩ : ∃ R, R = hexGo 255 l 0 := ⟨_, rfl⟩
    rw [← hR]
    have HR := hide hR
    clear hR
    have HLn := hide hLn
    have HB := hide hB
    clear hB hLn
    have hmv : IntKind.u64.wrap (IntKind.u64.wrap 256 - 1) = 255 := by decide
    go_enter Tryd.func72, Tryd.ntmps72
    go_wp2
    go_loop [12, 13, 101] (fun vu vn vi => ∃ (k : Nat) (a : Int), vu = .bool false ∧ vn = .int .u64 a ∧ vi = .int .i64 k ∧ k ≤ s.size ∧ Hid (∃ acc : Nat, a = (acc : Int) ∧ acc ≤ 255 ∧ hexGo 255 (l.drop k) acc = R))
      (fun _ _ vi => s.size - (intOf vi).toNat)
    case atStart => exact ⟨0, 0, rfl, rfl, rfl, Nat.zero_le _, hide ⟨0, rfl, Nat.zero_le _, by rw [HR.out]; rfl⟩⟩
    case round =>
      obtain ⟨k, a, rfl, rfl, rfl, hk, Hh⟩ := hrel
      obtain ⟨acc, ha, hacc, hgo⟩ := Hh.out
      have Ha := hide ha
      have a0 : 0 ≤ a := by omega
      have a1 : a ≤ 255 := by omega
      have icut : a < 1152921504606846976 := by omega
      clear Hh ha
      by_cases hkn : k < s.size
      · have hk1 : (k : Int) < (s.size : Int) := by omega
        have hkl : k < l.length := by rw [HLn.out]; exact hkn
        have hc := HB.out k hkn
        obtain ⟨c, hcd⟩ : ∃ c, c = l.getD k 0 := ⟨_, rfl⟩
        rw [← hcd] at hc
        have hdrop : l.drop k = c :: l.drop (k + 1) := by
          rw [hcd, List.getD_eq_getElem?_getD, List.getElem?_eq_getElem hkl]
          exact List.drop_eq_getElem_cons hkl
        rw [hdrop] at hgo
        unfold hexGo at hgo
        have Hgo := hide hgo
        clear hgo hdrop hcd hkl
        have hlow := lower_run c
        have hl256 := lw_lt c
        have Hhex := hide (show hexv c = if 48 ≤ c.toNat ∧ c.toNat ≤ 57 then some (c.toNat - 48) else if 97 ≤ lw c ∧ lw c ≤ 102 then some (lw c - 87) else none from rfl)
        have hx256 : c.toNat < 256 := c.toNat_lt
        obtain ⟨x, hx⟩ : ∃ x, x = c.toNat := ⟨_, rfl⟩
        obtain ⟨L, hL⟩ : ∃ L, L = lw c := ⟨_, rfl⟩
        rw [← hx] at hc hlow Hhex hx256
        rw [← hL] at hlow Hhex hl256
        have HL := hide hL
        have Hx := hide hx
        clear hx hL
        by_cases hdig : 48 ≤ x ∧ x ≤ 57
        · have Hg := hide (show (if acc * 16 + (x - 48) > 255 then none else hexGo 255 (l.drop (k + 1)) (acc * 16 + (x - 48))) = R by
            have h := Hgo.out
            rw [Hhex.out, if_pos hdig] at h
            exact h)
          obtain ⟨hd0, hd1⟩ := hdig
          have Hacc := hide hacc
          clear hlow hl256 hacc
          have i0 : (48 : Int) ≤ (x : Int) := by omega
          have i1 : (x : Int) ≤ 57 := by omega
          by_cases hov : 255 < a * 16 + ((x : Int) - 48)
          · have HRn := hide (show R = none by rw [← Hg.out, if_pos]; have := Ha.out; omega)
            go_wp2
            go_ret2
            exact ⟨⟨_, rfl, parsed_bad HRn.out (.inl rfl) (by decide) (by decide)⟩, Hbel.out⟩
          · have HN := hide (show ∃ acc' : Nat, a * 16 + ((x : Int) - 48) = (acc' : Int) ∧ acc' ≤ 255 ∧ hexGo 255 (l.drop (k + 1)) acc' = R by
              have h := Hg.out
              have := Ha.out
              rw [if_neg (by omega)] at h
              exact ⟨_, by omega, by omega, h⟩)
            go_wp2
            refine ⟨⟨k + 1, a * 16 + ((x : Int) - 48), rfl, (by first | rfl | (congr 1; omega)), (by first | rfl | (congr 1; omega)), by omega, HN⟩, by simp [intOf]; omega⟩
        · by_cases hlet : 97 ≤ L ∧ L ≤ 102
          · have Hg := hide (show (if acc * 16 + (L - 87) > 255 then none else hexGo 255 (l.drop (k + 1)) (acc * 16 + (L - 87))) = R by
              have h := Hgo.out
              rw [Hhex.out, if_neg hdig, if_pos hlet] at h
              exact h)
            have Hdig := hide hdig
            obtain ⟨hd0, hd1⟩ := hlet
            have Hacc := hide hacc
            clear hacc hdig
            have i0 : (97 : Int) ≤ (L : Int) := by omega
            have i1 : (L : Int) ≤ 102 := by omega
            have i2 : (L : Int) ≤ 122 := by omega
            have hw1 : IntKind.u8.wrap ((L : Int) - 97) = (L : Int) - 97 := IntWalk.u8_in _ (by omega)
            have hw2 : IntKind.u8.wrap ((L : Int) - 97 + 10) = (L : Int) - 87 := by rw [IntWalk.u8_in _ (by omega)]; omega
            have hw3 : (L : Int) - 87 < 16 := by omega
            have hx95 : ¬ (x : Int) = 95 := by
              intro h
              have h2 : L = c.toNat ||| 32 := HL.out
              have h3 : c.toNat = 95 := by have := Hx.out; omega
              rw [h3] at h2
              have : (95 ||| 32 : Nat) = 127 := by decide
              omega
            have hcase : (x : Int) < 48 ∨ ((48 : Int) ≤ x ∧ ¬ (x : Int) ≤ 57) := by have := Hdig.out; omega
            by_cases hov : 255 < a * 16 + ((L : Int) - 87)
            · have HRn := hide (show R = none by rw [← Hg.out, if_pos]; have := Ha.out; omega)
              rcases hcase with hx | ⟨hx, hx'⟩
              all_goals
                go_wp2_with (go_at_call 84; (with_reducible refine (hlow _).mono ?_); rintro e w' ⟨rfl, rfl⟩)
                go_ret2
                exact ⟨⟨_, rfl, parsed_bad HRn.out (.inl rfl) (by decide) (by decide)⟩, Hbel.out⟩
            · have HN := hide (show ∃ acc' : Nat, a * 16 + ((L : Int) - 87) = (acc' : Int) ∧ acc' ≤ 255 ∧ hexGo 255 (l.drop (k + 1)) acc' = R by
                have h := Hg.out
                have := Ha.out
                rw [if_neg (by omega)] at h
                exact ⟨_, by omega, by omega, h⟩)
              rcases hcase with hx | ⟨hx, hx'⟩
              all_goals
                go_wp2_with (go_at_call 84; (with_reducible refine (hlow _).mono ?_); rintro e w' ⟨rfl, rfl⟩)
                refine ⟨⟨k + 1, a * 16 + ((L : Int) - 87), rfl, (by first | rfl | (congr 1; omega)), (by first | rfl | (congr 1; omega)), by omega, HN⟩, by simp [intOf]; omega⟩
          · have HRn := hide (show R = none by
              have h := Hgo.out
              rw [Hhex.out, if_neg hdig, if_neg hlet] at h
              exact h.symm)
            have hL95 : (x : Int) = 95 → L = 127 := by
              intro h
              have h2 : L = c.toNat ||| 32 := HL.out
              have h3 : c.toNat = 95 := by have := Hx.out; omega
              rw [h3] at h2
              exact h2.trans (by decide)
            have hcase : (x : Int) < 48 ∨ ((48 : Int) ≤ x ∧ ¬ (x : Int) ≤ 57) := by omega
            have hcase2 : (L : Int) < 97 ∨ ((97 : Int) ≤ L ∧ ¬ (L : Int) ≤ 122) ∨ ((103 : Int) ≤ L ∧ (L : Int) ≤ 122) := by omega
            have h95 : (x : Int) = 95 ∨ ¬ (x : Int) = 95 := by omega
            clear hdig hlet
            rcases hcase2 with g | ⟨g, g'⟩ | ⟨g, g'⟩
            · have h95' : ¬ (x : Int) = 95 := fun h => by have := hL95 h; omega
              clear h95 hL95
              rcases hcase with hx | ⟨hx, hx'⟩
              all_goals
                go_wp2_with (go_at_call 84; (with_reducible refine (hlow _).mono ?_); rintro e w' ⟨rfl, rfl⟩)
                go_ret2
                exact ⟨⟨_, rfl, parsed_bad HRn.out (.inr rfl) (by decide) (by decide)⟩, Hbel.out⟩
            · clear hL95
              rcases h95 with h95 | h95
              · have hx : (48 : Int) ≤ x := by omega
                rw [h95] at hlow
                go_wp2_with (go_at_call 84; (with_reducible refine (hlow _).mono ?_); rintro e w' ⟨rfl, rfl⟩)
                go_ret2
                exact ⟨⟨_, rfl, parsed_bad HRn.out (.inr rfl) (by decide) (by decide)⟩, Hbel.out⟩
              · rcases hcase with hx | ⟨hx, hx'⟩
                all_goals
                  go_wp2_with (go_at_call 84; (with_reducible refine (hlow _).mono ?_); rintro e w' ⟨rfl, rfl⟩)
                  go_ret2
                  exact ⟨⟨_, rfl, parsed_bad HRn.out (.inr rfl) (by decide) (by decide)⟩, Hbel.out⟩
            · have h95' : ¬ (x : Int) = 95 := fun h => by have := hL95 h; omega
              clear h95 hL95
              have i0 : (97 : Int) ≤ (L : Int) := by omega
              have hw1 : IntKind.u8.wrap ((L : Int) - 97) = (L : Int) - 97 := IntWalk.u8_in _ (by omega)
              have hw2 : IntKind.u8.wrap ((L : Int) - 97 + 10) = (L : Int) - 87 := by rw [IntWalk.u8_in _ (by omega)]; omega
              have hw3 : ¬ (L : Int) - 87 < 16 := by omega
              rcases hcase with hx | ⟨hx, hx'⟩
              all_goals
                go_wp2_with (go_at_call 84; (with_reducible refine (hlow _).mono ?_); rintro e w' ⟨rfl, rfl⟩)
                go_ret2
                exact ⟨⟨_, rfl, parsed_bad HRn.out (.inr rfl) (by decide) (by decide)⟩, Hbel.out⟩
      · obtain rfl : k = s.size := by omega
        have hend : R = some acc := by
          rw [List.drop_eq_nil_of_le (by rw [HLn.out]; exact Nat.le_refl _)] at hgo
          exact hgo.symm
        have HRs := hide hend
        clear hend hgo hacc
        go_wp2
        go_ret2
        refine ⟨⟨_, rfl, ?_⟩, Hbel.out⟩
        rw [HRs.out, Ha.out]
        exact rfl

set_option maxHeartbeats 8000000 in
set_option maxRecDepth 100000 in
theorem parse16_31_in (s : ByteArray) (w : World) (hs : s.size ≤ 1000000) :
    Calls Tryd.prog 72 #[.string s, .int .i64 16, .int .i64 31] w fun e w' => (∃ v, e = .returned v ∧ Parsed (parseHex 2147483647 s.data.toList) v) ∧ Below w.heap.size w w' := by
  by_cases h0 : s.data.toList = []
  · have hemp : s.toList.isEmpty = true := by rw [ByteArray.toList_eq, h0]; rfl
    have hp : parseHex 2147483647 s.data.toList = none := by rw [h0]; rfl
    rw [hp]
    clear h0 hp
    go_enter Tryd.func72, Tryd.ntmps72
    go_wp2
    go_ret2
    exact ⟨⟨_, rfl, parsed_bad rfl (.inr rfl) (by decide) (by decide)⟩, Below.refl _ _⟩
  · have hemp : s.toList.isEmpty = false := by rw [ByteArray.toList_eq]; exact Bool.eq_false_iff.2 fun h => h0 (List.isEmpty_iff.1 h)
    have hp : parseHex 2147483647 s.data.toList = hexGo 2147483647 s.data.toList 0 := by unfold parseHex; rw [if_neg h0]
    rw [hp]
    have hcv := Lib.run_convert_string_bytes (P := Tryd.prog) w 9 45 5 s (u := .string) Tryd.underlying9 Tryd.underlying45 Tryd.underlying5
    have hB : ∀ j, j < s.size → (Lib.bytesWorld w 5 s).cell? ⟨w.heap.size, j, none⟩ = some (.int .u8 (s.data.toList.getD j 0).toNat) := fun j hj => Lib.bytesWorld_cell w 5 s j hj
    have hbel := Lib.bytesWorld_below w 5 s
    obtain ⟨W1, hW1⟩ : ∃ W1, W1 = Lib.bytesWorld w 5 s := ⟨_, rfl⟩
    rw [← hW1] at hcv hB hbel
    have Hbel := hide hbel
    clear hW1 hbel
    obtain ⟨l, hl⟩ : ∃ l, l = s.data.toList := ⟨_, rfl⟩
    have hLn : l.length = s.size := by rw [hl, Array.length_toList]; rfl
    rw [← hl] at hB ⊢
    clear hl h0 hp
    obtain ⟨R, hR⟩ : ∃ R, R = hexGo 2147483647 l 0 := ⟨_, rfl⟩
    rw [← hR]
    have HR := hide hR
    clear hR
    have HLn := hide hLn
    have HB := hide hB
    clear hB hLn
    have hmv : IntKind.u64.wrap (IntKind.u64.wrap 2147483648 - 1) = 2147483647 := by decide
    go_enter Tryd.func72, Tryd.ntmps72
    go_wp2
    go_loop [12, 13, 101] (fun vu vn vi => ∃ (k : Nat) (a : Int), vu = .bool false ∧ vn = .int .u64 a ∧ vi = .int .i64 k ∧ k ≤ s.size ∧ Hid (∃ acc : Nat, a = (acc : Int) ∧ acc ≤ 2147483647 ∧ hexGo 2147483647 (l.drop k) acc = R))
      (fun _ _ vi => s.size - (intOf vi).toNat)
    case atStart => exact ⟨0, 0, rfl, rfl, rfl, Nat.zero_le _, hide ⟨0, rfl, Nat.zero_le _, by rw [HR.out]; rfl⟩⟩
    case round =>
      obtain ⟨k, a, rfl, rfl, rfl, hk, Hh⟩ := hrel
      obtain ⟨acc, ha, hacc, hgo⟩ := Hh.out
      have Ha := hide ha
      have a0 : 0 ≤ a := by omega
      have a1 : a ≤ 2147483647 := by omega
      have icut : a < 1152921504606846976 := by omega
      clear Hh ha
      by_cases hkn : k < s.size
      · have hk1 : (k : Int) < (s.size : Int) := by omega
        have hkl : k < l.length := by rw [HLn.out]; exact hkn
        have hc := HB.out k hkn
        obtain ⟨c, hcd⟩ : ∃ c, c = l.getD k 0 := ⟨_, rfl⟩
        rw [← hcd] at hc
        have hdrop : l.drop k = c :: l.drop (k + 1) := by
          rw [hcd, List.getD_eq_getElem?_getD, List.getElem?_eq_getElem hkl]
          exact List.drop_eq_getElem_cons hkl
        rw [hdrop] at hgo
        unfold hexGo at hgo
        have Hgo := hide hgo
        clear hgo hdrop hcd hkl
        have hlow := lower_run c
        have hl256 := lw_lt c
        have Hhex := hide (show hexv c = if 48 ≤ c.toNat ∧ c.toNat ≤ 57 then some (c.toNat - 48) else if 97 ≤ lw c ∧ lw c ≤ 102 then some (lw c - 87) else none from rfl)
        have hx256 : c.toNat < 256 := c.toNat_lt
        obtain ⟨x, hx⟩ : ∃ x, x = c.toNat := ⟨_, rfl⟩
        obtain ⟨L, hL⟩ : ∃ L, L = lw c := ⟨_, rfl⟩
        rw [← hx] at hc hlow Hhex hx256
        rw [← hL] at hlow Hhex hl256
        have HL := hide hL
        have Hx := hide hx
        clear hx hL
        by_cases hdig : 48 ≤ x ∧ x ≤ 57
        · have Hg := hide (show (if acc * 16 + (x - 48) > 2147483647 then none else hexGo 2147483647 (l.drop (k + 1)) (acc * 16 + (x - 48))) = R by
            have h := Hgo.out
            rw [Hhex.out, if_pos hdig] at h
            exact h)
          obtain ⟨hd0, hd1⟩ := hdig
          have Hacc := hide hacc
          clear hlow hl256 hacc
          have i0 : (48 : Int) ≤ (x : Int) := by omega
          have i1 : (x : Int) ≤ 57 := by omega
          by_cases hov : 2147483647 < a * 16 + ((x : Int) - 48)
          · have HRn := hide (show R = none by rw [← Hg.out, if_pos]; have := Ha.out; omega)
            go_wp2
            go_ret2
            exact ⟨⟨_, rfl, parsed_bad HRn.out (.inl rfl) (by decide) (by decide)⟩, Hbel.out⟩
          · have HN := hide (show ∃ acc' : Nat, a * 16 + ((x : Int) - 48) = (acc' : Int) ∧ acc' ≤ 2147483647 ∧ hexGo 2147483647 (l.drop (k + 1)) acc' = R by
              have h := Hg.out
              have := Ha.out
              rw [if_neg (by omega)] at h
              exact ⟨_, by omega, by omega, h⟩)
            go_wp2
            refine ⟨⟨k + 1, a * 16 + ((x : Int) - 48), rfl, (by first | rfl | (congr 1; omega)), (by first | rfl | (congr 1; omega)), by omega, HN⟩, by simp [intOf]; omega⟩
        · by_cases hlet : 97 ≤ L ∧ L ≤ 102
          · have Hg := hide (show (if acc * 16 + (L - 87) > 2147483647 then none else hexGo 2147483647 (l.drop (k + 1)) (acc * 16 + (L - 87))) = R by
              have h := Hgo.out
              rw [Hhex.out, if_neg hdig, if_pos hlet] at h
              exact h)
            have Hdig := hide hdig
            obtain ⟨hd0, hd1⟩ := hlet
            have Hacc := hide hacc
            clear hacc hdig
            have i0 : (97 : Int) ≤ (L : Int) := by omega
            have i1 : (L : Int) ≤ 102 := by omega
            have i2 : (L : Int) ≤ 122 := by omega
            have hw1 : IntKind.u8.wrap ((L : Int) - 97) = (L : Int) - 97 := IntWalk.u8_in _ (by omega)
            have hw2 : IntKind.u8.wrap ((L : Int) - 97 + 10) = (L : Int) - 87 := by rw [IntWalk.u8_in _ (by omega)]; omega
            have hw3 : (L : Int) - 87 < 16 := by omega
            have hx95 : ¬ (x : Int) = 95 := by
              intro h
              have h2 : L = c.toNat ||| 32 := HL.out
              have h3 : c.toNat = 95 := by have := Hx.out; omega
              rw [h3] at h2
              have : (95 ||| 32 : Nat) = 127 := by decide
              omega
            have hcase : (x : Int) < 48 ∨ ((48 : Int) ≤ x ∧ ¬ (x : Int) ≤ 57) := by have := Hdig.out; omega
            by_cases hov : 2147483647 < a * 16 + ((L : Int) - 87)
            · have HRn := hide (show R = none by rw [← Hg.out, if_pos]; have := Ha.out; omega)
              rcases hcase with hx | ⟨hx, hx'⟩
              all_goals
                go_wp2_with (go_at_call 84; (with_reducible refine (hlow _).mono ?_); rintro e w' ⟨rfl, rfl⟩)
                go_ret2
                exact ⟨⟨_, rfl, parsed_bad HRn.out (.inl rfl) (by decide) (by decide)⟩, Hbel.out⟩
            · have HN := hide (show ∃ acc' : Nat, a * 16 + ((L : Int) - 87) = (acc' : Int) ∧ acc' ≤ 2147483647 ∧ hexGo 2147483647 (l.drop (k + 1)) acc' = R by
                have h := Hg.out
                have := Ha.out
                rw [if_neg (by omega)] at h
                exact ⟨_, by omega, by omega, h⟩)
              rcases hcase with hx | ⟨hx, hx'⟩
              all_goals
                go_wp2_with (go_at_call 84; (with_reducible refine (hlow _).mono ?_); rintro e w' ⟨rfl, rfl⟩)
                refine ⟨⟨k + 1, a * 16 + ((L : Int) - 87), rfl, (by first | rfl | (congr 1; omega)), (by first | rfl | (congr 1; omega)), by omega, HN⟩, by simp [intOf]; omega⟩
          · have HRn := hide (show R = none by
              have h := Hgo.out
              rw [Hhex.out, if_neg hdig, if_neg hlet] at h
              exact h.symm)
            have hL95 : (x : Int) = 95 → L = 127 := by
              intro h
              have h2 : L = c.toNat ||| 32 := HL.out
              have h3 : c.toNat = 95 := by have := Hx.out; omega
              rw [h3] at h2
              exact h2.trans (by decide)
            have hcase : (x : Int) < 48 ∨ ((48 : Int) ≤ x ∧ ¬ (x : Int) ≤ 57) := by omega
            have hcase2 : (L : Int) < 97 ∨ ((97 : Int) ≤ L ∧ ¬ (L : Int) ≤ 122) ∨ ((103 : Int) ≤ L ∧ (L : Int) ≤ 122) := by omega
            have h95 : (x : Int) = 95 ∨ ¬ (x : Int) = 95 := by omega
            clear hdig hlet
            rcases hcase2 with g | ⟨g, g'⟩ | ⟨g, g'⟩
            · have h95' : ¬ (x : Int) = 95 := fun h => by have := hL95 h; omega
              clear h95 hL95
              rcases hcase with hx | ⟨hx, hx'⟩
              all_goals
                go_wp2_with (go_at_call 84; (with_reducible refine (hlow _).mono ?_); rintro e w' ⟨rfl, rfl⟩)
                go_ret2
                exact ⟨⟨_, rfl, parsed_bad HRn.out (.inr rfl) (by decide) (by decide)⟩, Hbel.out⟩
            · clear hL95
              rcases h95 with h95 | h95
              · have hx : (48 : Int) ≤ x := by omega
                rw [h95] at hlow
                go_wp2_with (go_at_call 84; (with_reducible refine (hlow _).mono ?_); rintro e w' ⟨rfl, rfl⟩)
                go_ret2
                exact ⟨⟨_, rfl, parsed_bad HRn.out (.inr rfl) (by decide) (by decide)⟩, Hbel.out⟩
              · rcases hcase with hx | ⟨hx, hx'⟩
                all_goals
                  go_wp2_with (go_at_call 84; (with_reducible refine (hlow _).mono ?_); rintro e w' ⟨rfl, rfl⟩)
                  go_ret2
                  exact ⟨⟨_, rfl, parsed_bad HRn.out (.inr rfl) (by decide) (by decide)⟩, Hbel.out⟩
            · have h95' : ¬ (x : Int) = 95 := fun h => by have := hL95 h; omega
              clear h95 hL95
              have i0 : (97 : Int) ≤ (L : Int) := by omega
              have hw1 : IntKind.u8.wrap ((L : Int) - 97) = (L : Int) - 97 := IntWalk.u8_in _ (by omega)
              have hw2 : IntKind.u8.wrap ((L : Int) - 97 + 10) = (L : Int) - 87 := by rw [IntWalk.u8_in _ (by omega)]; omega
              have hw3 : ¬ (L : Int) - 87 < 16 := by omega
              rcases hcase with hx | ⟨hx, hx'⟩
              all_goals
                go_wp2_with (go_at_call 84; (with_reducible refine (hlow _).mono ?_); rintro e w' ⟨rfl, rfl⟩)
                go_ret2
                exact ⟨⟨_, rfl, parsed_bad HRn.out (.inr rfl) (by decide) (by decide)⟩, Hbel.out⟩
      · obtain rfl : k = s.size := by omega
        have hend : R = some acc := by
          rw [List.drop_eq_nil_of_le (by rw [HLn.out]; exact Nat.le_refl _)] at hgo
          exact hgo.symm
        have HRs := hide hend
        clear hend hgo hacc
        go_wp2
        go_ret2
        refine ⟨⟨_, rfl, ?_⟩, Hbel.out⟩
        rw [HRs.out, Ha.out]
        exact rfl

end Go.Proofs.YtlenlopeakmplaaDoor
