/-
  CONTRACT of the reference's Put of tables.
-/
import Derived.Test.YtfpooljpbncogaaGreatTbF
import Derived.Test.YtfpooljpbncogaaGreatPgQ
namespace Go.Proofs.YtfpooljpbncogaaGreat
open Go.RowKit
set_option maxRecDepth 8000

/-- A text so far. -/
def Txt (S : ByteArray) (l : List UInt8) : Prop := S = str l ∧ l.length ≤ 1000
theorem Txt.more {S T : ByteArray} {l m : List UInt8} (h : Txt S l) (h2 : Txt T m) (hl : l.length + m.length ≤ 1000) : Txt (S ++ T) (l ++ m) ∧ ¬ 9223372036854775807 < S.size + T.size := by
  obtain ⟨rfl, a⟩ := h
  obtain ⟨rfl, b⟩ := h2
  refine ⟨⟨str_app l m, by rw [List.length_append]; exact hl⟩, by rw [str_size, str_size]; omega⟩
theorem seqB_few (k : Nat) (f : Nat → Nat) (n : Nat) : (seqB k f n).length = k * n := seqB_len k f n

set_option maxHeartbeats 8000000 in
theorem put16_any (x : Tl) (B : Nat) (w : World) (hx : x.Ok w B) (hm : x.t.May) (hB : B ≤ w.heap.size) : Calls Tryz.prog 12 #[x.val] w fun e w' => e = .returned (.string (str x.t.page)) ∧ Below w.heap.size w w' := by
  have Hm := hide hm
  obtain ⟨h1, h2, ⟨h3, h4⟩, h5, h6⟩ := hm
  have nb : x.t.bad.length ≤ 34 := rise_len (b := 34) h2
  have FH := hide (fun W (hW : Below w.heap.size w W) (z : Int) => has16_any x.A1 x.t.bad.length x.c1 B x.t.bad z W (hx.l1.below (hW.mono hB)) rfl (by omega))
  have FW := hide (fun W (hW : Below w.heap.size w W) => hx.l2.below (hW.mono hB))
  have FV := hide (fun W (hW : Below w.heap.size w W) => hx.l3.below (hW.mono hB))
  have FB : Hid (∀ (k n : Nat) (ki ni : Int) (W : World), ki = (k : Int) → ni = (n : Int) → k ≤ 8 → n < 18446744073709551616 → Calls Tryz.prog 30 #[.int .i64 ki, .int .u64 ni] W fun e w' => ∃ A' c', e = .returned (.slice A' k c') ∧ Below W.heap.size W w' ∧ Hid (Lies w' w'.heap.size A' (bys (beB k n)))) := hide (fun k n ki ni W e1 e2 hk hn => by subst e1 e2; exact (bytes_nat k (n : Int) W hk (by omega) (by omega)).mono (by
    rintro e w' ⟨A', c', rfl, ho, hb⟩
    rw [Int.toNat_natCast] at ho
    exact ⟨A', c', rfl, hb, hide (Lies.of_own ho)⟩))
  have Fp := hide (fun W => put15_any x.t.hd x.t.data W (Tb.hd_may ⟨h1, h2, ⟨h3, h4⟩, h5, h6⟩) rfl)
  have Hdl := hide (show x.t.data.length ≤ 228 by have := x.t.data_len; omega)
  have Hw := hide h3
  have Hv := hide h6
  have Hpos := hide hx.pos
  have Hb0 := hide ((Below.refl w.heap.size w).alloc (Nat.le_refl _) (.cells x.cells.toArray 26))
  have HX := hide (BoxT.new x w)
  have e0 : x.val = .agg #[.int .u64 (x.t.seq : Int), .slice x.A1 x.t.bad.length x.c1, .slice x.A2 x.t.wear.length x.c2, .slice x.A3 x.t.void.length x.c3] := rfl
  have e1 : x.cells.toArray = #[.int .u64 (x.t.seq : Int), .slice x.A1 x.t.bad.length x.c1, .slice x.A2 x.t.wear.length x.c2, .slice x.A3 x.t.void.length x.c3] := rfl
  have e2 : x.t.hd.val = .agg #[.int .i64 1, .int .i64 0, .int .i64 1, .int .u64 (x.t.seq : Int), .int .u64 0, .int .i64 (x.t.wear.length : Int), .int .i64 (x.t.data.length : Int)] := rfl
  have Hpg : Hid (pageB x.t.hd x.t.data = x.t.page) := hide rfl
  rw [e0]
  rw [e1] at Hb0 HX
  rw [e2, Hpg.out] at Fp
  obtain ⟨n2, hn2⟩ : ∃ n2, Hid (n2 = x.t.wear.length) := ⟨_, hide rfl⟩
  obtain ⟨n3, hn3⟩ : ∃ n3, Hid (n3 = x.t.void.length) := ⟨_, hide rfl⟩
  have g2 : n2 ≤ 34 := by rw [hn2.out]; exact h4
  have g3 : n3 ≤ 36 := by rw [hn3.out]; exact h5
  clear hx hB e1 e0 e2 h1 h2 h3 h4 h5 h6 nb
  go_enter Tryz.func12, Tryz.ntmps12
  go_upto_region 1 with fail
  generalize hw1 : w.alloc (.cells #[.int .u64 (x.t.seq : Int), .slice x.A1 x.t.bad.length x.c1, .slice x.A2 x.t.wear.length x.c2, .slice x.A3 x.t.void.length x.c3] 26) = w1 at *
  clear hw1
  have HX1 : Hid (BoxT x w.heap.size w1) := HX
  clear HX
  go_wp2
  go_loopw [3, 4] (fun s i wr => ∃ j : Nat, j ≤ 5 ∧ i = .int .i64 (j : Int) ∧ (∃ S, s = .string S ∧ Hid (Txt S (seqB 1 (mkN x.t.bad) j))) ∧ Hid (Below w.heap.size w wr) ∧ Hid (BoxT x w.heap.size wr)) (fun _ i _ => 5 - (intOf i).toNat)
  case atStart => exact ⟨0, Nat.zero_le _, rfl, ⟨_, rfl, hide ⟨rfl, by simp [seqB]⟩⟩, Hb0, HX1⟩
  case round =>
    obtain ⟨j, hj, rfl, ⟨S, rfl, hS⟩, HW, HT⟩ := hrel
    by_cases hlt : j < 5
    · have hlt' : (j : Int) < 5 := by omega
      have e8 : wrap64 (8 * (j : Int)) = ((8 * j : Nat) : Int) := by unfold wrap64; omega
      have e81 : IntKind.i64.wrap (8 * (j : Int)) = ((8 * j : Nat) : Int) := by rw [show 8 * (j : Int) = ((8 * j : Nat) : Int) by omega]; exact IntWalk.i64_in _ (by omega)
      obtain ⟨E, hE⟩ : ∃ E, E = 8 * j + 8 := ⟨_, rfl⟩
      have e9 : wrap64 (((8 * j : Nat) : Int) + 8) = (E : Int) := by unfold wrap64; omega
      have HE := hide hE
      clear hE
      have e2 : wrap64 ((j : Int) + 1) = ((j + 1 : Nat) : Int) := by unfold wrap64; omega
      obtain ⟨p, hp⟩ : ∃ p : Nat → Bool, Hid (p = fun k => decide (((8 * j + k : Nat) : Int) ∈ x.t.bad)) := ⟨_, hide rfl⟩
      generalize hj8 : 8 * j = j8 at *
      have c1 := HT.out.c 1 _ rfl
      go_wp2
      go_loopw [5, 6, 7] (fun c u k wr2 => wr2 = wr ∧ ∃ m kk q a : Nat, m ≤ 8 ∧ k = .int .i64 (kk : Int) ∧ u = .int .i64 (q : Int) ∧ c = .int .i64 (a : Int) ∧ Hid (kk = j8 + m ∧ q = 2 ^ m ∧ a = mk8 p m)) (fun _ _ k _ => E - (intOf k).toNat)
      case atStart => exact ⟨rfl, 0, j8, 1, 0, Nat.zero_le _, rfl, rfl, rfl, hide ⟨rfl, rfl, rfl⟩⟩
      case round =>
        obtain ⟨rfl, m, kk, q, a, hm8, rfl, rfl, rfl, HH⟩ := hrel
        by_cases hlm : m < 8
        · have F := hide (FH.out _ HW.out (kk : Int))
          have hpm : decide ((kk : Int) ∈ x.t.bad) = p m := by rw [hp.out, HH.out.1, ← hj8]
          rw [hpm] at F
          have hlE : kk < E := by rw [HE.out, HH.out.1]; omega
          have hlt2 : (kk : Int) < (E : Int) := by omega
          have hp2 : q ≤ 128 := by rw [HH.out.2.1]; exact Nat.pow_le_pow_right (n := 2) (by decide) (show m ≤ 7 by omega)
          have hml : a < q := by rw [HH.out.2.1, HH.out.2.2]; exact mk8_lt p m
          have hk100 : kk < 100 := by rw [HH.out.1, ← hj8]; omega
          have f1 : wrap64 ((kk : Int) + 1) = ((kk + 1 : Nat) : Int) := by unfold wrap64; omega
          obtain ⟨q2, hq2⟩ : ∃ q2, q2 = 2 * q := ⟨_, rfl⟩
          have f2 : wrap64 (2 * (q : Int)) = (q2 : Int) := by unfold wrap64; omega
          have f22 : IntKind.i64.wrap (2 * (q : Int)) = (q2 : Int) := by rw [show 2 * (q : Int) = (q2 : Int) by omega]; exact IntWalk.i64_in _ (by omega)
          have Hq2 := hide (show q2 = 2 ^ (m + 1) by rw [hq2, HH.out.2.1, Nat.pow_succ, Nat.mul_comm])
          have Hk2 := hide (show kk + 1 = j8 + (m + 1) by rw [HH.out.1]; omega)
          have Hms := hide (show m + 1 ≤ 8 by omega)
          cases hb : p m with
          | true =>
            rw [hb] at F
            obtain ⟨a2, ha2⟩ : ∃ a2, a2 = a + q := ⟨_, rfl⟩
            have f3 : wrap64 ((a : Int) + (q : Int)) = (a2 : Int) := by unfold wrap64; omega
            have Ha2 := hide (show a2 = mk8 p (m + 1) by rw [ha2, mk8, hb, if_pos rfl, ← HH.out.2.1, ← HH.out.2.2])
            clear hpm hb hml hp2 hq2 ha2 hk100 hlm hm8 hj8
            go_wp2_with fail
            (with_reducible refine F.out.mono ?_)
            rintro e w3 ⟨rfl, rfl⟩
            clear F
            go_wp2
            go_roundw
            case rel => exact ⟨trivial, m + 1, kk + 1, q2, a2, Hms.out, congrArg (Value.int .i64) f1, by first | rfl | exact congrArg (Value.int .i64) f2, congrArg (Value.int .i64) f3, hide ⟨Hk2.out, Hq2.out, Ha2.out⟩⟩
            case measure => exact measT2 f1 hlE
          | false =>
            rw [hb] at F
            have Ha2 := hide (show a = mk8 p (m + 1) by rw [mk8, hb, if_neg (by decide), Nat.add_zero]; exact HH.out.2.2)
            clear hpm hb hml hp2 hq2 hk100 hlm hm8 hj8
            go_wp2_with fail
            (with_reducible refine F.out.mono ?_)
            rintro e w3 ⟨rfl, rfl⟩
            clear F
            go_wp2
            go_roundw
            case rel => exact ⟨trivial, m + 1, kk + 1, q2, a, Hms.out, congrArg (Value.int .i64) f1, by first | rfl | exact congrArg (Value.int .i64) f2, rfl, hide ⟨Hk2.out, Hq2.out, Ha2.out⟩⟩
            case measure => exact measT2 f1 hlE
        · have hm88 : m = 8 := by omega
          have hlt2 : ¬ (kk : Int) < (E : Int) := by have := HE.out; have := HH.out.1; omega
          have hlt5 : ¬ (kk : Int) < (j8 : Int) + 8 := by have := HE.out; omega
          have hmk : a = mkN x.t.bad j := by rw [HH.out.2.2, hm88, hp.out, ← hj8]; rfl
          have hmk2 := mkN_lt x.t.bad j
          have Hs := hide (seqB_succ 1 (mkN x.t.bad) j)
          rw [← hmk] at hmk2 Hs
          have Hj5 := hide (show j + 1 ≤ 5 by omega)
          have w8 : IntKind.u8.wrap (a : Int) = (a : Int) := by rw [u8_wrap_nat]; simp [Nat.mod_eq_of_lt hmk2]
          have hcv : (convert 29 9 (.slice (some ⟨wr.heap.size, 0, none⟩) 1 1)).run Tryz.prog (wr.alloc (.cells #[.int .u8 (a : Int)] 5)) = .ok (.string (str (beB 1 a))) (wr.alloc (.cells #[.int .u8 (a : Int)] 5)) :=
            strU8 1 (Lies.fresh wr (beB 1 a) _ _ _ (by rw [beB1_toNat a hmk2]; simp [bys, Nat.mod_eq_of_lt hmk2]) _ (wr.heap.size + 1) rfl (by omega)) (by rw [beB_len])
          obtain ⟨T, hT⟩ : ∃ T, Hid (T = str (beB 1 a)) := ⟨_, hide rfl⟩
          rw [← hT.out] at hcv
          obtain ⟨hmo, q⟩ := hS.out.more (T := T) (m := beB 1 a) ⟨hT.out, by rw [beB_len]; omega⟩ (by rw [beB_len]; have := hS.out.2; rw [seqB_len]; omega)
          have Hmo := hide hmo
          have HW2 := hide (HW.out.alloc HW.out.size (.cells #[.int .u8 (a : Int)] 5))
          have HT2 := hide (HT.out.below ((Below.refl wr.heap.size wr).alloc (Nat.le_refl _) (.cells #[.int .u8 (a : Int)] 5)) HT.out.lt)
          clear hmo hmk hp hlm hm8 hm88
          go_upto_region 13 with fail
          go_wp2
          go_roundw
          case rel => exact ⟨j + 1, Hj5.out, rfl, ⟨_, rfl, hide (by rw [Hs.out]; exact Hmo.out)⟩, HW2, HT2⟩
          case measure => exact measT hlt
    · have hj5 : j = 5 := by omega
      have hlt' : ¬ (j : Int) < 5 := by omega
      rw [hj5] at hS
      clear hlt hj hj5 FH
      go_wp2
      go_loopw [3, 8] (fun s i wr => ∃ j : Nat, j ≤ 34 ∧ i = .int .i64 (j : Int) ∧ (∃ S, s = .string S ∧ Hid (Txt S (seqB 1 (mkN x.t.bad) 5 ++ seqB 2 (fun b => (x.t.wear.getD b 0).toNat) j))) ∧ Hid (Below w.heap.size w wr) ∧ Hid (BoxT x w.heap.size wr)) (fun _ i _ => 34 - (intOf i).toNat)
      case atStart => exact ⟨0, Nat.zero_le _, rfl, ⟨_, rfl, hide (by rw [seqB_zero, List.append_nil]; exact hS.out)⟩, HW, HT⟩
      case round =>
        clear hS HW HT
        obtain ⟨j, hj, rfl, ⟨S, rfl, hS⟩, HW, HT⟩ := hrel
        have c2 := HT.out.c 2 (.slice x.A2 n2 x.c2) (by rw [hn2.out]; rfl)
        by_cases hlt : j < 34
        · have hlt' : (j : Int) < 34 := by omega
          have e2 : wrap64 ((j : Int) + 1) = ((j + 1 : Nat) : Int) := by unfold wrap64; omega
          have Hs := hide (seqB_succ 2 (fun b => (x.t.wear.getD b 0).toNat) j)
          have Hlen := hide (show (seqB 1 (mkN x.t.bad) 5 ++ seqB 2 (fun b => (x.t.wear.getD b 0).toNat) j).length ≤ 80 by rw [List.length_append, seqB_len, seqB_len]; omega)
          have Hj := hide (show j + 1 ≤ 34 by omega)
          by_cases hin : j < n2
          · have hin' : (j : Int) < (n2 : Int) := by omega
            have hjl : j < x.t.wear.length := by rw [← hn2.out]; exact hin
            obtain ⟨a, ha, _, hc⟩ := (FW.out _ HW.out).num hjl
            rw [ha] at c2
            clear ha
            have hv := Hw.out j hjl
            generalize x.t.wear.getD j 0 = v at *
            obtain ⟨u, rfl⟩ := Int.eq_ofNat_of_zero_le hv.1
            rw [Int.toNat_natCast] at Hs
            have wu : IntKind.u64.wrap (u : Int) = (u : Int) := u64_wrap_small u (by omega)
            have F := hide (FB.out 2 u 2 _ wr rfl rfl (by omega) (by omega))
            clear hv hjl hj
            go_wp2_with fail
            (with_reducible refine F.out.mono ?_)
            rintro e w3 ⟨A', c', rfl, hb, hl⟩
            have hcv := strU8 c' hl.out (show 2 = (beB 2 u).length by rw [beB_len])
            obtain ⟨T, hT⟩ : ∃ T, Hid (T = str (beB 2 u)) := ⟨_, hide rfl⟩
            rw [← hT.out] at hcv
            obtain ⟨hmo, q⟩ := hS.out.more (T := T) (m := beB 2 u) ⟨hT.out, by rw [beB_len]; omega⟩ (by rw [beB_len]; have := Hlen.out; omega)
            have Hmo := hide hmo
            have HW2 := hide (HW.out.trans (hb.mono HW.out.size))
            have HT2 := hide (HT.out.below hb HT.out.lt)
            clear hmo hb hl F
            go_wp2
            go_roundw
            case rel => exact ⟨j + 1, Hj.out, by first | rfl | exact congrArg (Value.int .i64) e2, ⟨_, rfl, hide (by rw [Hs.out, ← List.append_assoc]; exact Hmo.out)⟩, HW2, HT2⟩
            case measure => first | exact measT2 rfl hlt | exact measT2 e2 hlt
          · have hin' : ¬ (j : Int) < (n2 : Int) := by omega
            have hv : x.t.wear.getD j 0 = 0 := by simp [List.getD, List.getElem?_eq_none (show x.t.wear.length ≤ j by rw [← hn2.out]; omega)]
            rw [hv, show (0 : Int).toNat = 0 from rfl] at Hs
            have F := hide (FB.out 2 0 2 0 wr rfl rfl (by omega) (by omega))
            clear hv hj
            go_wp2_with fail
            (with_reducible refine F.out.mono ?_)
            rintro e w3 ⟨A', c', rfl, hb, hl⟩
            have hcv := strU8 c' hl.out (show 2 = (beB 2 0).length by rw [beB_len])
            obtain ⟨T, hT⟩ : ∃ T, Hid (T = str (beB 2 0)) := ⟨_, hide rfl⟩
            rw [← hT.out] at hcv
            obtain ⟨hmo, q⟩ := hS.out.more (T := T) (m := beB 2 0) ⟨hT.out, by rw [beB_len]; omega⟩ (by rw [beB_len]; have := Hlen.out; omega)
            have Hmo := hide hmo
            have HW2 := hide (HW.out.trans (hb.mono HW.out.size))
            have HT2 := hide (HT.out.below hb HT.out.lt)
            clear hmo hb hl F
            go_wp2
            go_roundw
            case rel => exact ⟨j + 1, Hj.out, by first | rfl | exact congrArg (Value.int .i64) e2, ⟨_, rfl, hide (by rw [Hs.out, ← List.append_assoc]; exact Hmo.out)⟩, HW2, HT2⟩
            case measure => first | exact measT2 rfl hlt | exact measT2 e2 hlt
        · have hj34 : j = 34 := by omega
          have hlt' : ¬ (j : Int) < 34 := by omega
          rw [hj34] at hS
          have wu : IntKind.u64.wrap (n3 : Int) = (n3 : Int) := u64_wrap_small n3 (by omega)
          have F := hide (FB.out 1 n3 1 _ wr rfl rfl (by omega) (by omega))
          have c3 := HT.out.c 3 (.slice x.A3 n3 x.c3) (by rw [hn3.out]; rfl)
          have Hlen := hide (show (seqB 1 (mkN x.t.bad) 5 ++ seqB 2 (fun b => (x.t.wear.getD b 0).toNat) 34).length ≤ 80 by rw [List.length_append, seqB_len, seqB_len]; omega)
          clear hlt hj hj34 FW
          go_wp2_with fail
          (with_reducible refine F.out.mono ?_)
          rintro e w3 ⟨A', c', rfl, hb, hl⟩
          have hcv := strU8 c' hl.out (show 1 = (beB 1 n3).length by rw [beB_len])
          obtain ⟨T, hT⟩ : ∃ T, Hid (T = str (beB 1 n3)) := ⟨_, hide rfl⟩
          rw [← hT.out] at hcv
          obtain ⟨hmo, q⟩ := hS.out.more (T := T) (m := beB 1 n3) ⟨hT.out, by rw [beB_len]; omega⟩ (by rw [beB_len]; have := Hlen.out; omega)
          have Hmo := hide hmo
          have HW2 := hide (HW.out.trans (hb.mono HW.out.size))
          have HT2 := hide (HT.out.below hb HT.out.lt)
          clear hmo hb hl F c2 c3 hS HW HT
          go_wp2
          go_loopw [3, 10] (fun s i wr => ∃ j : Nat, j ≤ n3 ∧ i = .int .i64 (j : Int) ∧ (∃ S, s = .string S ∧ Hid (Txt S (seqB 1 (mkN x.t.bad) 5 ++ seqB 2 (fun b => (x.t.wear.getD b 0).toNat) 34 ++ beB 1 n3 ++ seqB 4 (fun i => (x.t.void.getD i 0).toNat) j))) ∧ Hid (Below w.heap.size w wr) ∧ Hid (BoxT x w.heap.size wr)) (fun _ i _ => n3 - (intOf i).toNat)
          case atStart => exact ⟨0, Nat.zero_le _, rfl, ⟨_, rfl, hide (by rw [seqB_zero, List.append_nil]; exact Hmo.out)⟩, HW2, HT2⟩
          case round =>
            clear Hmo HW2 HT2 hcv q hT
            obtain ⟨j, hj, rfl, ⟨S, rfl, hS⟩, HW, HT⟩ := hrel
            have c3 := HT.out.c 3 (.slice x.A3 n3 x.c3) (by rw [hn3.out]; rfl)
            by_cases hlt : j < n3
            · have hlt' : (j : Int) < (n3 : Int) := by omega
              have e2 : wrap64 ((j : Int) + 1) = ((j + 1 : Nat) : Int) := by unfold wrap64; omega
              have Hs := hide (seqB_succ 4 (fun i => (x.t.void.getD i 0).toNat) j)
              have Hlen2 := hide (show (seqB 1 (mkN x.t.bad) 5 ++ seqB 2 (fun b => (x.t.wear.getD b 0).toNat) 34 ++ beB 1 n3 ++ seqB 4 (fun i => (x.t.void.getD i 0).toNat) j).length ≤ 300 by rw [List.length_append, List.length_append, List.length_append, seqB_len, seqB_len, seqB_len, beB_len]; omega)
              have Hj := hide (show j + 1 ≤ n3 by omega)
              have hjl : j < x.t.void.length := by rw [← hn3.out]; exact hlt
              obtain ⟨a, ha, _, hc⟩ := (FV.out _ HW.out).num hjl
              rw [ha] at c3
              clear ha
              have hv := Hv.out j hjl
              unfold okAt at hv
              generalize x.t.void.getD j 0 = v at *
              obtain ⟨u, rfl⟩ := Int.eq_ofNat_of_zero_le hv.1
              rw [Int.toNat_natCast] at Hs
              have F := hide (FB.out 4 u 4 _ wr rfl rfl (by omega) (by omega))
              clear hv hjl hj
              go_wp2_with fail
              (with_reducible refine F.out.mono ?_)
              rintro e w3 ⟨A', c', rfl, hb, hl⟩
              have hcv := strU8 c' hl.out (show 4 = (beB 4 u).length by rw [beB_len])
              obtain ⟨T, hT⟩ : ∃ T, Hid (T = str (beB 4 u)) := ⟨_, hide rfl⟩
              rw [← hT.out] at hcv
              obtain ⟨hmo, q⟩ := hS.out.more (T := T) (m := beB 4 u) ⟨hT.out, by rw [beB_len]; omega⟩ (by rw [beB_len]; have := Hlen2.out; omega)
              have Hmo := hide hmo
              have HW2 := hide (HW.out.trans (hb.mono HW.out.size))
              have HT2 := hide (HT.out.below hb HT.out.lt)
              clear hmo hb hl F
              go_wp2
              go_roundw
              case rel => exact ⟨j + 1, Hj.out, by first | rfl | exact congrArg (Value.int .i64) e2, ⟨_, rfl, hide (by rw [Hs.out, ← List.append_assoc]; exact Hmo.out)⟩, HW2, HT2⟩
              case measure => first | exact measT2 rfl hlt | exact measT2 e2 hlt
            · obtain rfl : j = n3 := by omega
              have hSd : Hid (S = str x.t.data) := hide (by rw [hS.out.1, Tb.data, hn3.out])
              have hsz : S.size = x.t.data.length := by rw [hSd.out, str_size]
              rw [← hSd.out] at Fp
              have c0 := HT.out.c 0 _ rfl
              have c2 := HT.out.c 2 _ rfl
              have Fq := hide (Fp.out wr)
              clear Fp hS hlt hj
              go_wp2_with fail
              (with_reducible refine Fq.out.mono ?_)
              rintro e w3 ⟨rfl, hb⟩
              have HW2 := hide (HW.out.trans (hb.mono HW.out.size))
              clear hb Fq
              go_wp2
              go_ret
              exact ⟨rfl, HW2.out⟩
end Go.Proofs.YtfpooljpbncogaaGreat
