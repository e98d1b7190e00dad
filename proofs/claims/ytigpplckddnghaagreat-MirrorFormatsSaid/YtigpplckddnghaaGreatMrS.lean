/-
  CONTRACT of the reference's Put of tables.
  CONTRACT of wagtailref17.Read. (Under way: as far as the first loop.)
  CONTRACT of wagtailref17.Read of a page that may hold a table: three loops.
-/
import Derived.Test.YtigpplckddnghaaGreatTbF
import Derived.Test.YtigpplckddnghaaGreatPgQ
import Derived.Test.YtigpplckddnghaaGreatMrQ
import Derived.Test.YtigpplckddnghaaGreatPgH
import Derived.Test.YtigpplckddnghaaGreatTbV
import Derived.Test.YtigpplckddnghaaGreatMrN
import Derived.Test.YtigpplckddnghaaGreatDev6
import Derived.Test.YtigpplckddnghaaGreatMakes
namespace Go.Proofs.YtigpplckddnghaaGreat
section
open Go.RowKit
set_option maxRecDepth 8000

/-- A text so far. -/
def Txt (S : ByteArray) (l : List UInt8) : Prop := S = str l ∧ l.length ≤ 1000
theorem Txt.more {S T : ByteArray} {l m : List UInt8} (h : Txt S l) (h2 : Txt T m) (hl : l.length + m.length ≤ 1000) : Txt (S ++ T) (l ++ m) ∧ ¬ 9223372036854775807 < S.size + T.size := by
  obtain ⟨rfl, a⟩ := h
  obtain ⟨rfl, b⟩ := h2
  refine ⟨⟨str_app l m, by rw [List.length_append]; exact hl⟩, by rw [str_size, str_size]; omega⟩
set_option maxHeartbeats 8000000 in
theorem put16_any (x : Tl) (B : Nat) (w : World) (hx : x.Ok w B) (hm : x.t.May) (hB : B ≤ w.heap.size) : Calls Tryz.prog 54 #[x.val] w fun e w' => e = .returned (.string (str x.t.page)) ∧ Below w.heap.size w w' := by
  have Hm := hide hm
  obtain ⟨h1, h2, ⟨h3, h4⟩, h5, h6⟩ := hm
  have nb : x.t.bad.length ≤ 34 := rise_len (b := 34) h2
  have FH := hide (fun W (hW : Below w.heap.size w W) (z : Int) => has16_any x.A1 x.t.bad.length x.c1 B x.t.bad z W (hx.l1.below (hW.mono hB)) rfl (by omega))
  have FW := hide (fun W (hW : Below w.heap.size w W) => hx.l2.below (hW.mono hB))
  have FV := hide (fun W (hW : Below w.heap.size w W) => hx.l3.below (hW.mono hB))
  have FB : Hid (∀ (k n : Nat) (ki ni : Int) (W : World), ki = (k : Int) → ni = (n : Int) → k ≤ 8 → n < 18446744073709551616 → Calls Tryz.prog 83 #[.int .i64 ki, .int .u64 ni] W fun e w' => ∃ A' c', e = .returned (.slice A' k c') ∧ Below W.heap.size W w' ∧ Hid (Lies w' w'.heap.size A' (bys (beB k n)))) := hide (fun k n ki ni W e1 e2 hk hn => by subst e1 e2; exact (bytes_nat k (n : Int) W hk (by omega) (by omega)).mono (by
    rintro e w' ⟨A', c', rfl, ho, hb⟩
    rw [Int.toNat_natCast] at ho
    exact ⟨A', c', rfl, hb, hide (Lies.of_own ho)⟩))
  have Fp := hide (fun W => put15_any x.t.hd x.t.data W (Tb.hd_may ⟨h1, h2, ⟨h3, h4⟩, h5, h6⟩) rfl)
  have Hdl := hide (show x.t.data.length ≤ 228 by have := x.t.data_len; omega)
  have Hw := hide h3
  have Hv := hide h6
  have Hpos := hide hx.pos
  have Hb0 := hide ((Below.refl w.heap.size w).alloc (Nat.le_refl _) (.cells x.cells.toArray 26))
  have HX := hide (BoxT.new x w)
  have e0 : x.val = .agg #[.int .u64 (x.t.seq : Int), .slice x.A1 x.t.bad.length x.c1, .slice x.A2 x.t.wear.length x.c2, .slice x.A3 x.t.void.length x.c3] := rfl
  have e1 : x.cells.toArray = #[.int .u64 (x.t.seq : Int), .slice x.A1 x.t.bad.length x.c1, .slice x.A2 x.t.wear.length x.c2, .slice x.A3 x.t.void.length x.c3] := rfl
  have e2 : x.t.hd.val = .agg #[.int .i64 1, .int .i64 0, .int .i64 1, .int .u64 (x.t.seq : Int), .int .u64 0, .int .i64 (x.t.wear.length : Int), .int .i64 (x.t.data.length : Int)] := rfl
  have Hpg : Hid (pageB x.t.hd x.t.data = x.t.page) := hide rfl
  rw [e0]
  rw [e1] at Hb0 HX
  rw [e2, Hpg.out] at Fp
  obtain ⟨n2, hn2⟩ : ∃ n2, Hid (n2 = x.t.wear.length) := ⟨_, hide rfl⟩
  obtain ⟨n3, hn3⟩ : ∃ n3, Hid (n3 = x.t.void.length) := ⟨_, hide rfl⟩
  have g2 : n2 ≤ 34 := by rw [hn2.out]; exact h4
  have g3 : n3 ≤ 36 := by rw [hn3.out]; exact h5
  clear hx hB e1 e0 e2 h1 h2 h3 h4 h5 h6 nb
  go_enter Tryz.func54, Tryz.ntmps54
  go_upto_region 1 with fail
  generalize hw1 : w.alloc (.cells #[.int .u64 (x.t.seq : Int), .slice x.A1 x.t.bad.length x.c1, .slice x.A2 x.t.wear.length x.c2, .slice x.A3 x.t.void.length x.c3] 26) = w1 at *
  clear hw1
  have HX1 : Hid (BoxT x w.heap.size w1) := HX
  clear HX
  go_wp2
  go_loopw [3, 4] (fun s i wr => ∃ j : Nat, j ≤ 5 ∧ i = .int .i64 (j : Int) ∧ (∃ S, s = .string S ∧ Hid (Txt S (seqB 1 (mkN x.t.bad) j))) ∧ Hid (Below w.heap.size w wr) ∧ Hid (BoxT x w.heap.size wr)) (fun _ i _ => 5 - (intOf i).toNat)
  case atStart => exact ⟨0, Nat.zero_le _, rfl, ⟨_, rfl, hide ⟨rfl, by simp [seqB]⟩⟩, Hb0, HX1⟩
  case round =>
    obtain ⟨j, hj, rfl, ⟨S, rfl, hS⟩, HW, HT⟩ := hrel
    by_cases hlt : j < 5
    · have hlt' : (j : Int) < 5 := by omega
      have e8 : wrap64 (8 * (j : Int)) = ((8 * j : Nat) : Int) := by unfold wrap64; omega
      have e81 : IntKind.i64.wrap (8 * (j : Int)) = ((8 * j : Nat) : Int) := by rw [show 8 * (j : Int) = ((8 * j : Nat) : Int) by omega]; exact IntWalk.i64_in _ (by omega)
      obtain ⟨E, hE⟩ : ∃ E, E = 8 * j + 8 := ⟨_, rfl⟩
      have e9 : wrap64 (((8 * j : Nat) : Int) + 8) = (E : Int) := by unfold wrap64; omega
      have HE := hide hE
      clear hE
      have e2 : wrap64 ((j : Int) + 1) = ((j + 1 : Nat) : Int) := by unfold wrap64; omega
      obtain ⟨p, hp⟩ : ∃ p : Nat → Bool, Hid (p = fun k => decide (((8 * j + k : Nat) : Int) ∈ x.t.bad)) := ⟨_, hide rfl⟩
      generalize hj8 : 8 * j = j8 at *
      have c1 := HT.out.c 1 _ rfl
      go_wp2
      go_loopw [5, 6, 7] (fun c u k wr2 => wr2 = wr ∧ ∃ m kk q a : Nat, m ≤ 8 ∧ k = .int .i64 (kk : Int) ∧ u = .int .i64 (q : Int) ∧ c = .int .i64 (a : Int) ∧ Hid (kk = j8 + m ∧ q = 2 ^ m ∧ a = mk8 p m)) (fun _ _ k _ => E - (intOf k).toNat)
      case atStart => exact ⟨rfl, 0, j8, 1, 0, Nat.zero_le _, rfl, rfl, rfl, hide ⟨rfl, rfl, rfl⟩⟩
      case round =>
        obtain ⟨rfl, m, kk, q, a, hm8, rfl, rfl, rfl, HH⟩ := hrel
        by_cases hlm : m < 8
        · have F := hide (FH.out _ HW.out (kk : Int))
          have hpm : decide ((kk : Int) ∈ x.t.bad) = p m := by rw [hp.out, HH.out.1, ← hj8]
          rw [hpm] at F
          have hlE : kk < E := by rw [HE.out, HH.out.1]; omega
          have hlt2 : (kk : Int) < (E : Int) := by omega
          have hp2 : q ≤ 128 := by rw [HH.out.2.1]; exact Nat.pow_le_pow_right (n := 2) (by decide) (show m ≤ 7 by omega)
          have hml : a < q := by rw [HH.out.2.1, HH.out.2.2]; exact mk8_lt p m
          have hk100 : kk < 100 := by rw [HH.out.1, ← hj8]; omega
          have f1 : wrap64 ((kk : Int) + 1) = ((kk + 1 : Nat) : Int) := by unfold wrap64; omega
          obtain ⟨q2, hq2⟩ : ∃ q2, q2 = 2 * q := ⟨_, rfl⟩
          have f2 : wrap64 (2 * (q : Int)) = (q2 : Int) := by unfold wrap64; omega
          have f22 : IntKind.i64.wrap (2 * (q : Int)) = (q2 : Int) := by rw [show 2 * (q : Int) = (q2 : Int) by omega]; exact IntWalk.i64_in _ (by omega)
          have Hq2 := hide (show q2 = 2 ^ (m + 1) by rw [hq2, HH.out.2.1, Nat.pow_succ, Nat.mul_comm])
          have Hk2 := hide (show kk + 1 = j8 + (m + 1) by rw [HH.out.1]; omega)
          have Hms := hide (show m + 1 ≤ 8 by omega)
          cases hb : p m with
          | true =>
            rw [hb] at F
            obtain ⟨a2, ha2⟩ : ∃ a2, a2 = a + q := ⟨_, rfl⟩
            have f3 : wrap64 ((a : Int) + (q : Int)) = (a2 : Int) := by unfold wrap64; omega
            have Ha2 := hide (show a2 = mk8 p (m + 1) by rw [ha2, mk8, hb, if_pos rfl, ← HH.out.2.1, ← HH.out.2.2])
            clear hpm hb hml hp2 hq2 ha2 hk100 hlm hm8 hj8
            go_wp2_with fail
            (with_reducible refine F.out.mono ?_)
            rintro e w3 ⟨rfl, rfl⟩
            clear F
            go_wp2
            go_roundw
            case rel => exact ⟨trivial, m + 1, kk + 1, q2, a2, Hms.out, congrArg (Value.int .i64) f1, by first | rfl | exact congrArg (Value.int .i64) f2, congrArg (Value.int .i64) f3, hide ⟨Hk2.out, Hq2.out, Ha2.out⟩⟩
            case measure => exact measT2 f1 hlE
          | false =>
            rw [hb] at F
            have Ha2 := hide (show a = mk8 p (m + 1) by rw [mk8, hb, if_neg (by decide), Nat.add_zero]; exact HH.out.2.2)
            clear hpm hb hml hp2 hq2 hk100 hlm hm8 hj8
            go_wp2_with fail
            (with_reducible refine F.out.mono ?_)
            rintro e w3 ⟨rfl, rfl⟩
            clear F
            go_wp2
            go_roundw
            case rel => exact ⟨trivial, m + 1, kk + 1, q2, a, Hms.out, congrArg (Value.int .i64) f1, by first | rfl | exact congrArg (Value.int .i64) f2, rfl, hide ⟨Hk2.out, Hq2.out, Ha2.out⟩⟩
            case measure => exact measT2 f1 hlE
        · have hm88 : m = 8 := by omega
          have hlt2 : ¬ (kk : Int) < (E : Int) := by have := HE.out; have := HH.out.1; omega
          have hlt5 : ¬ (kk : Int) < (j8 : Int) + 8 := by have := HE.out; omega
          have hmk : a = mkN x.t.bad j := by rw [HH.out.2.2, hm88, hp.out, ← hj8]; rfl
          have hmk2 := mkN_lt x.t.bad j
          have Hs := hide (seqB_succ 1 (mkN x.t.bad) j)
          rw [← hmk] at hmk2 Hs
          have Hj5 := hide (show j + 1 ≤ 5 by omega)
          have w8 : IntKind.u8.wrap (a : Int) = (a : Int) := by rw [u8_wrap_nat]; simp [Nat.mod_eq_of_lt hmk2]
          have hcv : (convert 67 9 (.slice (some ⟨wr.heap.size, 0, none⟩) 1 1)).run Tryz.prog (wr.alloc (.cells #[.int .u8 (a : Int)] 5)) = .ok (.string (str (beB 1 a))) (wr.alloc (.cells #[.int .u8 (a : Int)] 5)) :=
            strU8 1 (Lies.fresh wr (beB 1 a) _ _ _ (by rw [beB1_toNat a hmk2]; simp [bys, Nat.mod_eq_of_lt hmk2]) _ (wr.heap.size + 1) rfl (by omega)) (by rw [beB_len])
          obtain ⟨T, hT⟩ : ∃ T, Hid (T = str (beB 1 a)) := ⟨_, hide rfl⟩
          rw [← hT.out] at hcv
          obtain ⟨hmo, q⟩ := hS.out.more (T := T) (m := beB 1 a) ⟨hT.out, by rw [beB_len]; omega⟩ (by rw [beB_len]; have := hS.out.2; rw [seqB_len]; omega)
          have Hmo := hide hmo
          have HW2 := hide (HW.out.alloc HW.out.size (.cells #[.int .u8 (a : Int)] 5))
          have HT2 := hide (HT.out.below ((Below.refl wr.heap.size wr).alloc (Nat.le_refl _) (.cells #[.int .u8 (a : Int)] 5)) HT.out.lt)
          clear hmo hmk hp hlm hm8 hm88
          go_upto_region 13 with fail
          go_wp2
          go_roundw
          case rel => exact ⟨j + 1, Hj5.out, rfl, ⟨_, rfl, hide (by rw [Hs.out]; exact Hmo.out)⟩, HW2, HT2⟩
          case measure => exact measT hlt
    · have hj5 : j = 5 := by omega
      have hlt' : ¬ (j : Int) < 5 := by omega
      rw [hj5] at hS
      clear hlt hj hj5 FH
      go_wp2
      go_loopw [3, 8] (fun s i wr => ∃ j : Nat, j ≤ 34 ∧ i = .int .i64 (j : Int) ∧ (∃ S, s = .string S ∧ Hid (Txt S (seqB 1 (mkN x.t.bad) 5 ++ seqB 2 (fun b => (x.t.wear.getD b 0).toNat) j))) ∧ Hid (Below w.heap.size w wr) ∧ Hid (BoxT x w.heap.size wr)) (fun _ i _ => 34 - (intOf i).toNat)
      case atStart => exact ⟨0, Nat.zero_le _, rfl, ⟨_, rfl, hide (by rw [seqB_zero, List.append_nil]; exact hS.out)⟩, HW, HT⟩
      case round =>
        clear hS HW HT
        obtain ⟨j, hj, rfl, ⟨S, rfl, hS⟩, HW, HT⟩ := hrel
        have c2 := HT.out.c 2 (.slice x.A2 n2 x.c2) (by rw [hn2.out]; rfl)
        by_cases hlt : j < 34
        · have hlt' : (j : Int) < 34 := by omega
          have e2 : wrap64 ((j : Int) + 1) = ((j + 1 : Nat) : Int) := by unfold wrap64; omega
          have Hs := hide (seqB_succ 2 (fun b => (x.t.wear.getD b 0).toNat) j)
          have Hlen := hide (show (seqB 1 (mkN x.t.bad) 5 ++ seqB 2 (fun b => (x.t.wear.getD b 0).toNat) j).length ≤ 80 by rw [List.length_append, seqB_len, seqB_len]; omega)
          have Hj := hide (show j + 1 ≤ 34 by omega)
          by_cases hin : j < n2
          · have hin' : (j : Int) < (n2 : Int) := by omega
            have hjl : j < x.t.wear.length := by rw [← hn2.out]; exact hin
            obtain ⟨a, ha, _, hc⟩ := (FW.out _ HW.out).num hjl
            rw [ha] at c2
            clear ha
            have hv := Hw.out j hjl
            generalize x.t.wear.getD j 0 = v at *
            obtain ⟨u, rfl⟩ := Int.eq_ofNat_of_zero_le hv.1
            rw [Int.toNat_natCast] at Hs
            have wu : IntKind.u64.wrap (u : Int) = (u : Int) := u64_wrap_small u (by omega)
            have F := hide (FB.out 2 u 2 _ wr rfl rfl (by omega) (by omega))
            clear hv hjl hj
            go_wp2_with fail
            (with_reducible refine F.out.mono ?_)
            rintro e w3 ⟨A', c', rfl, hb, hl⟩
            have hcv := strU8 c' hl.out (show 2 = (beB 2 u).length by rw [beB_len])
            obtain ⟨T, hT⟩ : ∃ T, Hid (T = str (beB 2 u)) := ⟨_, hide rfl⟩
            rw [← hT.out] at hcv
            obtain ⟨hmo, q⟩ := hS.out.more (T := T) (m := beB 2 u) ⟨hT.out, by rw [beB_len]; omega⟩ (by rw [beB_len]; have := Hlen.out; omega)
            have Hmo := hide hmo
            have HW2 := hide (HW.out.trans (hb.mono HW.out.size))
            have HT2 := hide (HT.out.below hb HT.out.lt)
            clear hmo hb hl F
            go_wp2
            go_roundw
            case rel => exact ⟨j + 1, Hj.out, by first | rfl | exact congrArg (Value.int .i64) e2, ⟨_, rfl, hide (by rw [Hs.out, ← List.append_assoc]; exact Hmo.out)⟩, HW2, HT2⟩
            case measure => first | exact measT2 rfl hlt | exact measT2 e2 hlt
          · have hin' : ¬ (j : Int) < (n2 : Int) := by omega
            have hv : x.t.wear.getD j 0 = 0 := by simp [List.getD, List.getElem?_eq_none (show x.t.wear.length ≤ j by rw [← hn2.out]; omega)]
            rw [hv, show (0 : Int).toNat = 0 from rfl] at Hs
            have F := hide (FB.out 2 0 2 0 wr rfl rfl (by omega) (by omega))
            clear hv hj
            go_wp2_with fail
            (with_reducible refine F.out.mono ?_)
            rintro e w3 ⟨A', c', rfl, hb, hl⟩
            have hcv := strU8 c' hl.out (show 2 = (beB 2 0).length by rw [beB_len])
            obtain ⟨T, hT⟩ : ∃ T, Hid (T = str (beB 2 0)) := ⟨_, hide rfl⟩
            rw [← hT.out] at hcv
            obtain ⟨hmo, q⟩ := hS.out.more (T := T) (m := beB 2 0) ⟨hT.out, by rw [beB_len]; omega⟩ (by rw [beB_len]; have := Hlen.out; omega)
            have Hmo := hide hmo
            have HW2 := hide (HW.out.trans (hb.mono HW.out.size))
            have HT2 := hide (HT.out.below hb HT.out.lt)
            clear hmo hb hl F
            go_wp2
            go_roundw
            case rel => exact ⟨j + 1, Hj.out, by first | rfl | exact congrArg (Value.int .i64) e2, ⟨_, rfl, hide (by rw [Hs.out, ← List.append_assoc]; exact Hmo.out)⟩, HW2, HT2⟩
            case measure => first | exact measT2 rfl hlt | exact measT2 e2 hlt
        · have hj34 : j = 34 := by omega
          have hlt' : ¬ (j : Int) < 34 := by omega
          rw [hj34] at hS
          have wu : IntKind.u64.wrap (n3 : Int) = (n3 : Int) := u64_wrap_small n3 (by omega)
          have F := hide (FB.out 1 n3 1 _ wr rfl rfl (by omega) (by omega))
          have c3 := HT.out.c 3 (.slice x.A3 n3 x.c3) (by rw [hn3.out]; rfl)
          have Hlen := hide (show (seqB 1 (mkN x.t.bad) 5 ++ seqB 2 (fun b => (x.t.wear.getD b 0).toNat) 34).length ≤ 80 by rw [List.length_append, seqB_len, seqB_len]; omega)
          clear hlt hj hj34 FW
          go_wp2_with fail
          (with_reducible refine F.out.mono ?_)
          rintro e w3 ⟨A', c', rfl, hb, hl⟩
          have hcv := strU8 c' hl.out (show 1 = (beB 1 n3).length by rw [beB_len])
          obtain ⟨T, hT⟩ : ∃ T, Hid (T = str (beB 1 n3)) := ⟨_, hide rfl⟩
          rw [← hT.out] at hcv
          obtain ⟨hmo, q⟩ := hS.out.more (T := T) (m := beB 1 n3) ⟨hT.out, by rw [beB_len]; omega⟩ (by rw [beB_len]; have := Hlen.out; omega)
          have Hmo := hide hmo
          have HW2 := hide (HW.out.trans (hb.mono HW.out.size))
          have HT2 := hide (HT.out.below hb HT.out.lt)
          clear hmo hb hl F c2 c3 hS HW HT
          go_wp2
          go_loopw [3, 10] (fun s i wr => ∃ j : Nat, j ≤ n3 ∧ i = .int .i64 (j : Int) ∧ (∃ S, s = .string S ∧ Hid (Txt S (seqB 1 (mkN x.t.bad) 5 ++ seqB 2 (fun b => (x.t.wear.getD b 0).toNat) 34 ++ beB 1 n3 ++ seqB 4 (fun i => (x.t.void.getD i 0).toNat) j))) ∧ Hid (Below w.heap.size w wr) ∧ Hid (BoxT x w.heap.size wr)) (fun _ i _ => n3 - (intOf i).toNat)
          case atStart => exact ⟨0, Nat.zero_le _, rfl, ⟨_, rfl, hide (by rw [seqB_zero, List.append_nil]; exact Hmo.out)⟩, HW2, HT2⟩
          case round =>
            clear Hmo HW2 HT2 hcv q hT
            obtain ⟨j, hj, rfl, ⟨S, rfl, hS⟩, HW, HT⟩ := hrel
            have c3 := HT.out.c 3 (.slice x.A3 n3 x.c3) (by rw [hn3.out]; rfl)
            by_cases hlt : j < n3
            · have hlt' : (j : Int) < (n3 : Int) := by omega
              have e2 : wrap64 ((j : Int) + 1) = ((j + 1 : Nat) : Int) := by unfold wrap64; omega
              have Hs := hide (seqB_succ 4 (fun i => (x.t.void.getD i 0).toNat) j)
              have Hlen2 := hide (show (seqB 1 (mkN x.t.bad) 5 ++ seqB 2 (fun b => (x.t.wear.getD b 0).toNat) 34 ++ beB 1 n3 ++ seqB 4 (fun i => (x.t.void.getD i 0).toNat) j).length ≤ 300 by rw [List.length_append, List.length_append, List.length_append, seqB_len, seqB_len, seqB_len, beB_len]; omega)
              have Hj := hide (show j + 1 ≤ n3 by omega)
              have hjl : j < x.t.void.length := by rw [← hn3.out]; exact hlt
              obtain ⟨a, ha, _, hc⟩ := (FV.out _ HW.out).num hjl
              rw [ha] at c3
              clear ha
              have hv := Hv.out j hjl
              unfold okAt at hv
              generalize x.t.void.getD j 0 = v at *
              obtain ⟨u, rfl⟩ := Int.eq_ofNat_of_zero_le hv.1
              rw [Int.toNat_natCast] at Hs
              have F := hide (FB.out 4 u 4 _ wr rfl rfl (by omega) (by omega))
              clear hv hjl hj
              go_wp2_with fail
              (with_reducible refine F.out.mono ?_)
              rintro e w3 ⟨A', c', rfl, hb, hl⟩
              have hcv := strU8 c' hl.out (show 4 = (beB 4 u).length by rw [beB_len])
              obtain ⟨T, hT⟩ : ∃ T, Hid (T = str (beB 4 u)) := ⟨_, hide rfl⟩
              rw [← hT.out] at hcv
              obtain ⟨hmo, q⟩ := hS.out.more (T := T) (m := beB 4 u) ⟨hT.out, by rw [beB_len]; omega⟩ (by rw [beB_len]; have := Hlen2.out; omega)
              have Hmo := hide hmo
              have HW2 := hide (HW.out.trans (hb.mono HW.out.size))
              have HT2 := hide (HT.out.below hb HT.out.lt)
              clear hmo hb hl F
              go_wp2
              go_roundw
              case rel => exact ⟨j + 1, Hj.out, by first | rfl | exact congrArg (Value.int .i64) e2, ⟨_, rfl, hide (by rw [Hs.out, ← List.append_assoc]; exact Hmo.out)⟩, HW2, HT2⟩
              case measure => first | exact measT2 rfl hlt | exact measT2 e2 hlt
            · obtain rfl : j = n3 := by omega
              have hSd : Hid (S = str x.t.data) := hide (by rw [hS.out.1, Tb.data, hn3.out])
              have hsz : S.size = x.t.data.length := by rw [hSd.out, str_size]
              rw [← hSd.out] at Fp
              have c0 := HT.out.c 0 _ rfl
              have c2 := HT.out.c 2 _ rfl
              have Fq := hide (Fp.out wr)
              clear Fp hS hlt hj
              go_wp2_with fail
              (with_reducible refine Fq.out.mono ?_)
              rintro e w3 ⟨rfl, hb⟩
              have HW2 := hide (HW.out.trans (hb.mono HW.out.size))
              clear hb Fq
              go_wp2
              go_ret
              exact ⟨rfl, HW2.out⟩
end
section
open Go.RowKit
set_option maxRecDepth 8000
instance (b : List UInt8) : Decidable (RefTab b) := by unfold RefTab; infer_instance
/-- How the reference's Read ends. -/
def RefEnd (w : World) (b : List UInt8) (e : Ending) (w' : World) : Prop := ∃ x : Tl, e = .returned (.tuple #[x.val, .bool (decide (RefTab b))]) ∧ x.t = (if RefTab b then readR (headOf b) (dataOf b) else zeroT) ∧ x.Ok w' w'.heap.size ∧ x.Few ∧ x.Hi w.heap.size ∧ Below w.heap.size w w'
set_option maxHeartbeats 4000000 in
theorem rread17_off (b : List UInt8) (w : World) (hsm : b.length ≤ 1000) (hno : ¬ (rightB b = true ∧ (headOf b).kind = 1 ∧ 74 ≤ (dataOf b).length)) : Calls Tryz.prog 85 #[.string (str b)] w (RefEnd w b) := by
  have hR : ¬ RefTab b := fun h => hno ⟨h.1, h.2.1, h.2.2.1⟩
  have hb1 := (Below.refl w.heap.size w).alloc (Nat.le_refl _) (.cells zeroTl.cells.toArray 26)
  have hz1 := BoxT.new zeroTl w
  have F := hide (get15_any b (w.alloc (.cells zeroTl.cells.toArray 26)) (by omega))
  have HB1 := hide hb1
  have HZ1 := hide hz1
  rw [show zeroTl.cells.toArray = #[.int .u64 0, .slice none 0 0, .slice none 0 0, .slice none 0 0] from rfl] at HB1 HZ1 F
  unfold RefEnd
  rw [decide_eq_false hR, if_neg hR]
  clear hR hb1 hz1
  have HN := hide hno
  have Hlen := hide (show (get15 b).2.length ≤ 1000 by
    unfold get15
    split
    · unfold dataOf; rw [List.length_take, List.length_drop]; omega
    · exact Nat.zero_le _)
  obtain ⟨h, hh⟩ : ∃ h, (get15 b).1 = h := ⟨_, rfl⟩
  obtain ⟨d, hd⟩ : ∃ d, (get15 b).2 = d := ⟨_, rfl⟩
  have HG : Hid (rightB b = true → h = headOf b ∧ d = dataOf b) := hide (fun hr => by rw [← hh, ← hd]; unfold get15; rw [if_pos hr]; exact ⟨rfl, rfl⟩)
  rw [hh, hd] at F
  rw [hd] at Hlen
  clear hh hd hno hsm
  rw [show h.val = .agg #[.int .i64 h.kind, .int .i64 h.index, .int .i64 h.count, .int .u64 (h.batch : Int), .int .u64 (h.opn : Int), .int .i64 h.lpn, .int .i64 h.len] from rfl] at F
  go_enter Tryz.func85, Tryz.ntmps85
  go_wp2_with fail
  (with_reducible refine F.out.mono ?_)
  rintro e w2 ⟨rfl, hb⟩
  have hb3 := (Below.refl w2.heap.size w2).alloc (Nat.le_refl _) (.cells #[.int .i64 h.kind, .int .i64 h.index, .int .i64 h.count, .int .u64 (h.batch : Int), .int .u64 (h.opn : Int), .int .i64 h.lpn, .int .i64 h.len] 108)
  have HB3 := hide ((HB1.out.trans (hb.mono HB1.out.size)).trans (hb3.mono (Nat.le_trans HB1.out.size hb.size)))
  have HZ3 := hide ((HZ1.out.below hb HZ1.out.lt).below hb3 (Nat.lt_of_lt_of_le HZ1.out.lt hb.size))
  have HH3 : Hid (BoxH h w2.heap.size (w2.alloc (.cells #[.int .i64 h.kind, .int .i64 h.index, .int .i64 h.count, .int .u64 (h.batch : Int), .int .u64 (h.opn : Int), .int .i64 h.lpn, .int .i64 h.len] 108))) := hide (BoxH.new h w2)
  clear hb hb3 F HB1 HZ1
  go_upto_region 2 with fail
  generalize w2.alloc (.cells #[.int .i64 h.kind, .int .i64 h.index, .int .i64 h.count, .int .u64 (h.batch : Int), .int .u64 (h.opn : Int), .int .i64 h.lpn, .int .i64 h.len] 108) = w3 at *
  generalize w2.heap.size = kh at *
  have c0 := HH3.out.c 0 _ rfl
  have z0 := HZ3.out.c 0 _ rfl
  have z1 := HZ3.out.c 1 _ rfl
  have z2 := HZ3.out.c 2 _ rfl
  have z3 := HZ3.out.c 3 _ rfl
  have y0 := HZ3.out.free 0
  have y1 := HZ3.out.free 1
  have y2 := HZ3.out.free 2
  have y3 := HZ3.out.free 3
  have hsz := str_size d
  by_cases hr : rightB b = true
  · rw [hr]
    by_cases hk : h.kind = 1
    · have hk' : (h.kind != 1) = false := by rw [hk]; rfl
      have hs : ((d.length : Int) < 74) := by
        obtain ⟨e1, e2⟩ := HG.out hr
        rcases Nat.lt_or_ge d.length 74 with h | h
        · omega
        · exact absurd ⟨hr, by rw [← e1]; exact hk, by rw [← e2]; exact h⟩ HN.out
      clear hk hr
      go_wp2
      exact bodyPost_ret (results_tb1 rfl _ _ zeroTl w.heap.size rfl (boxT4 (x := zeroTl) HZ3.out)) rfl ⟨zeroTl, rfl, rfl, zeroTl_ok _ _, zeroTl_few, zeroTl_hi _, putT_below HB3.out (Nat.le_refl _) zeroTl⟩
    · have hk' : (h.kind != 1) = true := bne_iff_ne.2 hk
      clear hk hr
      go_wp2
      exact bodyPost_ret (results_tb1 rfl _ _ zeroTl w.heap.size rfl (boxT4 (x := zeroTl) HZ3.out)) rfl ⟨zeroTl, rfl, rfl, zeroTl_ok _ _, zeroTl_few, zeroTl_hi _, putT_below HB3.out (Nat.le_refl _) zeroTl⟩
  · have hr' : rightB b = false := by simpa using hr
    rw [hr']
    clear hr hr'
    go_wp2
    exact bodyPost_ret (results_tb1 rfl _ _ zeroTl w.heap.size rfl (boxT4 (x := zeroTl) HZ3.out)) rfl ⟨zeroTl, rfl, rfl, zeroTl_ok _ _, zeroTl_few, zeroTl_hi _, putT_below HB3.out (Nat.le_refl _) zeroTl⟩
end
section
open Go.RowKit
set_option maxRecDepth 8000

/-- A string of bytes as bytes, in a block of bytes. -/
theorem strBytesT (W : World) (s : List UInt8) : ∃ c W', (convert 9 67 (.string (str s))).run Tryz.prog W = .ok (.slice (some ⟨W.heap.size, 0, none⟩) s.length c) W' ∧ s.length ≤ c ∧ Below W.heap.size W W' ∧ LiesT W' W'.heap.size (some ⟨W.heap.size, 0, none⟩) s := by
  have hr := run_bytes_of_string (P := Tryz.prog) W 9 67 5 (str s) Tryz.underlying9 Tryz.underlying67 Tryz.underlying5
  have hz : (str s).size = s.length := str_size s
  have hcap := grownCap_ge W (str s).size 0 5
  generalize hcp : grownCap W (str s).size 0 5 = cp at hr hcap
  rw [hz] at hr hcap
  refine ⟨_, _, hr, hcap, ((Below.refl _ W).drew).alloc (Nat.le_refl _) _, .inr ⟨_, rfl, by simp, ⟨_, _, heap_alloc_new W.drew _⟩, ?_⟩⟩
  intro j u hj
  have hjl : j < s.length := by have := (List.getElem?_eq_some_iff.1 hj).1; rwa [bys_len] at this
  rw [bys_at s j hjl] at hj
  cases hj
  have e : (⟨W.heap.size, 0, none⟩ : Addr).add j = ⟨W.heap.size, j, none⟩ := by unfold Addr.add; split <;> simp_all
  rw [e, show (⟨W.heap.size, j, none⟩ : Addr) = ⟨W.drew.heap.size, j, none⟩ from rfl, World.cell?_alloc_mark, bytesRow_at (str s) _ j (by simpa [str] using hjl)]
  simp [str]

/-- What lies below the rows while the reference reads a table. -/
structure R7S (w : World) (h : Hd) (kh tb B1 : Nat) (W : World) : Prop where
  hb : BoxH h kh W
  rb : BoxT zeroTl w.heap.size W
  pos : w.heap.size < kh ∧ kh < tb ∧ tb < B1
  size : B1 ≤ W.heap.size
  below : Below w.heap.size w W
section
variable {w W W' w1 : World} {h : Hd} {kh tb B1 : Nat}
theorem R7S.kept (hS : R7S w h kh tb B1 W) (hk : ∀ b, b < B1 → b ≠ tb → W'.heap[b]? = W.heap[b]?) (hs : W.heap.size ≤ W'.heap.size) (hb : Below w.heap.size w W') : R7S w h kh tb B1 W' := by
  have hp := hS.pos
  exact ⟨(hk _ (by omega) (by omega)).trans hS.hb, (hk _ (by omega) (by omega)).trans hS.rb, hp, Nat.le_trans hS.size hs, hb⟩
theorem R7S.grown {r : Option Nat} (hS : R7S w h kh tb B1 W) (hg : W.grownBy w1 r) (hr : ∀ b, r = some b → B1 ≤ b) (j : Nat) (u : Value) : R7S w h kh tb B1 (w1.setCell ⟨tb, j, none⟩ u) := by
  have hp := hS.pos
  refine hS.kept (fun b hb hne => ?_) (by simpa [World.setCell] using hg.size) ?_
  · exact (Below.heap_setCell _ _ _ _ hne).trans (hg.block b (Nat.lt_of_lt_of_le hb hS.size) (fun e => by have := hr b e.symm; omega))
  · refine Below.setCell (hS.below.trans ⟨hg.os, hg.tape, hg.output, hg.size, fun b hb => hg.block b (Nat.lt_of_lt_of_le hb hS.below.size) (fun e => ?_)⟩) (show w.heap.size ≤ tb by omega) u
    have := hr b e.symm
    omega
theorem R7S.later (hS : R7S w h kh tb B1 W) (hb : Below W.heap.size W W') : R7S w h kh tb B1 W' :=
  hS.kept (fun b hlt _ => hb.block b (Nat.lt_of_lt_of_le hlt hS.size)) hb.size (hS.below.trans (hb.mono hS.below.size))
/-- Bytes stay while a row of other things grows and its field is stored. -/
theorem LiesT.appd {n Bb j k : Nat} {e t : TypeId} {v u : Value} {xs : List Value} {cs : Array Value} {fr : Nat × Nat} {A : Option Addr} {d : List UInt8} (hl : LiesT W Bb A d) (hB : Bb ≤ W.heap.size) (o : W.ownsRow B1 e 1 v n xs) (he : e ≠ 5) (hg : W.grownBy w1 v.ownBlock) (hc : w1.heap[k]? = some (.cells cs t fr)) (ht : t ≠ 5) : LiesT (w1.setCell ⟨k, j, none⟩ u) Bb A d := by
  refine (hl.kept fun b hb ⟨cs', fr', hty⟩ => hg.block b (Nat.lt_of_lt_of_le hb hB) fun e1 => own_ne o hty he e1.symm).kept fun b hb ⟨cs', fr', hty⟩ => Below.heap_setCell _ _ _ _ fun e1 => ?_
  change b = k at e1
  subst e1
  rw [hc] at hty
  injection hty with hty
  injection hty with _ h2
  exact ht h2
end
/-- The bad ones among the first n. -/
def badR (d : List UInt8) (n : Nat) : List Int := ints ((List.range n).filter fun i => decide (bitAt d i = 1))
theorem badR_succ (d : List UInt8) (n : Nat) : badR d (n + 1) = badR d n ++ (if bitAt d n = 1 then [(n : Int)] else []) := by
  unfold badR
  rw [List.range_succ, List.filter_append]
  by_cases h : bitAt d n = 1 <;> simp [ints, h]
theorem badR_len (d : List UInt8) (n : Nat) : (badR d n).length ≤ n := by
  unfold badR ints
  rw [List.length_map]
  exact Nat.le_trans (List.length_filter_le _ _) (by simp)
/-- The counts of erases of the first n; the batches that are void. -/
def wearR (d : List UInt8) (n : Nat) : List Int := ints ((List.range n).map fun i => numAt d ((5 + 2 * i : Nat) : Int) 2)
def voidR (d : List UInt8) (n : Nat) : List Int := ints ((List.range n).map fun i => numAt d ((74 + 4 * i : Nat) : Int) 4)
theorem wearR_succ (d : List UInt8) (n : Nat) : wearR d (n + 1) = wearR d n ++ [(numAt d ((5 + 2 * n : Nat) : Int) 2 : Int)] := by
  unfold wearR; rw [List.range_succ]; simp [ints]
theorem voidR_succ (d : List UInt8) (n : Nat) : voidR d (n + 1) = voidR d n ++ [(numAt d ((74 + 4 * n : Nat) : Int) 4 : Int)] := by
  unfold voidR; rw [List.range_succ]; simp [ints]
theorem wearR_len (d : List UInt8) (n : Nat) : (wearR d n).length = n := by simp [wearR, ints]
theorem voidR_len (d : List UInt8) (n : Nat) : (voidR d n).length = n := by simp [voidR, ints]
theorem num_past (d : List UInt8) (p : Int) (k : Nat) (hk : k ≤ 8) (hp : 0 ≤ p) : (if 0 ≤ p ∧ p ≤ (d.length : Int) then numAt d p k else 0) = numAt d p k := by
  by_cases h : p ≤ (d.length : Int)
  · rw [if_pos ⟨hp, h⟩]
  · rw [if_neg (fun h' => h h'.2), numAt_out d p (.inr (by omega)) k hk]
end
end Go.Proofs.YtigpplckddnghaaGreat
