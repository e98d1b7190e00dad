/-
  The walk of BeRows.
-/
import Derived.Test.YtfjlidngialpaaaAwakea
import Derived.Deep.DeepCutAuto
namespace Go.Proofs.Ytfjlidngialpaaa
open Go.RowKit

/-- The words of the text so far. -/
theorem str_snoc (l m : List UInt8) : str l ++ str m = str (l ++ m) := str_app l m

set_option maxHeartbeats 1000000 in
theorem beRows_any (A : Option Addr) (n c B : Nat) (l : List Nat) (w : World) (h : Lies w B A (u64s l)) (hn : n = l.length) (hB : B ≤ w.heap.size) (hc : n ≤ c) (hl : ∀ k, l.getD k 0 < 18446744073709551616) :
    Calls Try.prog 4 #[.slice A n c] w fun e w' => e = .returned (.bool true) ∧ Below w.heap.size w w' := by
  have Hn := hide hn
  have Hl := hide h
  have HL := hide hl
  clear hn h hl
  go_enter Try.func4, Try.ntmps4
  go_upto_if 8 with fail
  go_cut [0] (fun s wx => ∃ m : Nat, s = .slice A m c ∧ m = min n 60 ∧ wx = w)
  case first =>
    by_cases h60 : (60 : Int) < (n : Int)
    · go_wp2_with fail
      go_meet
      exact ⟨60, rfl, by omega, rfl⟩
    · go_wp2_with fail
      go_meet
      exact ⟨n, rfl, by omega, rfl⟩
  case rest =>
    obtain ⟨m, rfl, hm, rfl⟩ := hcut
    have Hm := hide hm
    clear hm
    have hm60 : m ≤ 60 := by have := Hm.out; omega
    have hl2 : Hid (Lies wc B A (u64s (l.take 60))) := by
      have := Hl.out.take 60
      show Lies wc B A _
      simpa [u64s] using this
    have hlen : Hid (m = (l.take 60).length) := by have h1 := Hm.out; have h2 := Hn.out; simp [Hid]; omega
    have hget : Hid (∀ k, (l.take 60).getD k 0 < 18446744073709551616) := by
      intro k
      rw [List.getD_eq_getElem?_getD, List.getElem?_take]
      split
      · have := HL.out k; rwa [List.getD_eq_getElem?_getD] at this
      · simp
    generalize l.take 60 = q at *
    go_wp2
    go_loopw [3, 4] (fun s i wr => ∃ j : Nat, 2 * j ≤ m ∧ i = .int .i64 (2 * (j : Int)) ∧ s = .string (str (rowB (q.take (2 * j)))) ∧ Below wc.heap.size wc wr) (fun _ i _ => 60 - (intOf i).toNat)
    case atStart => exact ⟨0, Nat.zero_le _, rfl, rfl, Below.refl _ _⟩
    case round =>
      obtain ⟨j, hj, rfl, rfl, hb⟩ := hrel
      have Hb := hide hb
      clear hb
      have HLr := hide (hl2.out.below (Hb.out.mono hB))
      by_cases hlt : 2 * (j : Int) + 1 < (m : Int)
      · obtain ⟨a, rfl, _, hca⟩ := HLr.out.u64 (k := 2 * j) (by have := hlen.out; omega)
        have hcb : wr.cell? (a.add (2 * j + 1)) = some (.int .u64 ((q.getD (2 * j + 1) 0 : Nat) : Int)) := by
          obtain ⟨a', ha, _, h⟩ := HLr.out.u64 (k := 2 * j + 1) (by have := hlen.out; omega)
          cases ha; exact h
        have hcb2 : wr.cell? ⟨a.block, a.off + (2 * j + 1), none⟩ = some (.int .u64 ((q.getD (2 * j + 1) 0 : Nat) : Int)) := by
          have e : a.add (2 * j + 1) = ⟨a.block, a.off + (2 * j + 1), none⟩ := by unfold Addr.add; rw [if_neg (by omega)]
          rw [← e]; exact hcb
        have hyb := hide (hget.out (2 * j + 1))
        have hrow := hide (take_two q j (by have := hlen.out; omega))
        have hql : Hid ((q.take (2 * j)).length = 2 * j) := by show _ = _; simp; have := hlen.out; omega
        have hsz : Hid ((rowB (q.take (2 * j))).length ≤ 240) := by
          have := rowB_len (q.take (2 * j)); have := hql.out; show _ ≤ _; omega
        generalize hx : q.getD (2 * j) 0 = x at *
        generalize hy : q.getD (2 * j + 1) 0 = y at *
        clear hx hy
        have hnew : Hid (rowB (q.take (2 * j + 2)) = rowB (q.take (2 * j)) ++ beB (min x 8) y) := by
          show _ = _
          rw [hrow.out, rowB_two _ _ _ j hql.out]
        have fin : ∀ (W : World) (p : Int), p = ((min x 8 : Nat) : Int) → Calls Try.prog 10 #[.int .i64 p, .int .u64 (y : Int)] W fun e w' => ∃ A' m' c', e = .returned (.slice A' m' c') ∧
            (convert 22 9 (.slice A' m' c')).run Try.prog w' = .ok (.string (str (beB (min x 8) y))) w' ∧ Below W.heap.size W w' := by
          rintro W p rfl
          refine (bytes_nat (min x 8) y W (by omega) (by omega) (by have := hyb.out; omega)).mono ?_
          rintro e w' ⟨A', c', rfl, ho, hb⟩
          exact ⟨A', _, c', rfl, own_str ho rfl, hb⟩
        have Hfin := hide fin
        clear fin
        have hsum : ¬ 9223372036854775807 < (str (rowB (q.take (2 * j)))).size + (str (beB (min x 8) y)).size := by
          rw [str_size, str_size, beB_len]; have := hsz.out; omega
        have hap : str (rowB (q.take (2 * j))) ++ str (beB (min x 8) y) = str (rowB (q.take (2 * j + 2))) := by rw [str_app, hnew.out]
        generalize str (rowB (q.take (2 * j))) = s1 at *
        generalize hs3 : str (rowB (q.take (2 * j + 2))) = s3 at *
        have Hs3 := hide hs3
        clear hs3
        generalize str (beB (min x 8) y) = s2 at *
        by_cases h8 : x < 8
        · have h8' : (x : Int) < 8 := by omega
          have e8 := hide (show (x : Int) = ((min x 8 : Nat) : Int) by omega)
          go_wp2_with fail
          refine (Hfin.out _ _ e8.out).mono ?_
          rintro e w2 ⟨A2, m2, c2, rfl, hs, hb2⟩
          have Hb2 := hide (Hb.out.trans (hb2.mono Hb.out.size))
          clear hb2
          go_wp2
          refine ⟨⟨j + 1, by omega, by go_num, ?_, Hb2.out⟩, by simp [intOf]; omega⟩
          rw [← Hs3.out]; rfl
        · have h8' : ¬ (x : Int) < 8 := by omega
          have e8 := hide (show (8 : Int) = ((min x 8 : Nat) : Int) by omega)
          go_wp2_with fail
          refine (Hfin.out _ _ e8.out).mono ?_
          rintro e w2 ⟨A2, m2, c2, rfl, hs, hb2⟩
          have Hb2 := hide (Hb.out.trans (hb2.mono Hb.out.size))
          clear hb2
          go_wp2
          refine ⟨⟨j + 1, by omega, by go_num, ?_, Hb2.out⟩, by simp [intOf]; omega⟩
          rw [← Hs3.out]; rfl
      · have hend := hide (rowB_odd q j (by have := hlen.out; omega) (by have := hlen.out; omega))
        go_wp2_with fail
        refine (awake1_any _).mono ?_
        rintro e w2 ⟨rfl, hb2⟩
        have Hb2 := hide (Hb.out.trans (hb2.mono Hb.out.size))
        clear hb2
        have hwl : B ≤ w2.heap.size := Nat.le_trans hB Hb2.out.size
        go_wp2_with fail
        refine (row_any A m c B q _ (hl2.out.below (Hb2.out.mono hB)) hlen.out hwl (by omega)).mono ?_
        rintro e w3 ⟨A3, m3, c3, rfl, ho3, hb3⟩
        have hs3 := own_str ho3 rfl
        have Hb3 := hide (Hb2.out.trans (hb3.mono Hb2.out.size))
        rw [← hend.out] at hs3
        clear ho3 hb3
        go_wp2
        go_ret
        exact ⟨rfl, Hb3.out⟩

end Go.Proofs.Ytfjlidngialpaaa
