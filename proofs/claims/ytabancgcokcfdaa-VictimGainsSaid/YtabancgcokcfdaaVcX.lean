/-
  LAYER 22: VictimPicks.
-/
import Derived.Test.YtabancgcokcfdaaVcV
namespace Go.Proofs.Ytabancgcokcfdaa
open Go.RowKit
set_option maxRecDepth 8000
namespace Vc
theorem light22 (A A2 : Option Addr) (n c n2 c2 : Nat) (w : World) :
    Calls Try.prog 5 #[.slice A n c, .slice A2 n2 c2] w fun e w' => e = .returned (.bool (decide (n ≤ 40 ∧ n2 ≤ 100))) ∧ w = w' := by
  by_cases h1 : n ≤ 40
  · have g1 : decide ((n : Int) ≤ 40) = true := decide_eq_true (by omega)
    by_cases h2 : n2 ≤ 100
    · have g2 : decide ((n2 : Int) ≤ 100) = true := decide_eq_true (by omega)
      rw [decide_eq_true ⟨h1, h2⟩]
      clear h1 h2
      go_enter Try.func5, Try.ntmps5
      go_wp2
      go_ret
      exact ⟨rfl, rfl⟩
    · have g2 : decide ((n2 : Int) ≤ 100) = false := decide_eq_false (by omega)
      rw [decide_eq_false (fun h => h2 h.2)]
      clear h1 h2
      go_enter Try.func5, Try.ntmps5
      go_wp2
      go_ret
      exact ⟨rfl, rfl⟩
  · have g1 : decide ((n : Int) ≤ 40) = false := decide_eq_false (by omega)
    rw [decide_eq_false (fun h => h1 h.1)]
    clear h1
    go_enter Try.func5, Try.ntmps5
    go_wp2
    go_ret
    exact ⟨rfl, rfl⟩
set_option maxHeartbeats 4000000 in
theorem picks_off (A A2 : Option Addr) (n c n2 c2 : Nat) (p : Int) (w : World) (h : ¬ (n ≤ 40 ∧ n2 ≤ 100)) :
    Calls Try.prog 3 #[.slice A n c, .slice A2 n2 c2, .int .i64 p] w fun e w' => e = .returned (.bool true) ∧ Below w.heap.size w w' := by
  have FA := hide (awake22_any w)
  have F0 := hide (light22 A A2 n c n2 c2 w)
  rw [decide_eq_false h] at F0
  clear h
  go_enter Try.func3, Try.ntmps3
  go_wp2_with fail
  (with_reducible refine F0.out.mono ?_); rintro e w2 ⟨rfl, rfl⟩
  go_wp2_with fail
  (with_reducible refine FA.out.mono ?_); rintro e w2 ⟨rfl, hb⟩
  have HB := hide hb
  clear hb F0 FA
  go_wp2
  go_ret
  exact ⟨rfl, HB.out⟩
set_option maxHeartbeats 8000000 in
theorem picks_on (A A2 : Option Addr) (c c2 : Nat) (zs : List Int) (L : List Pl2) (p : Int) (w : World) (hz : Lies w w.heap.size A (nums .i64 zs)) (hl : Lies w w.heap.size A2 (rowQ L)) (he : Env L zs) (h1 : zs.length ≤ 40) (h2 : L.length ≤ 100) :
    Calls Try.prog 3 #[.slice A zs.length c, .slice A2 L.length c2, .int .i64 p] w fun e w' => e = .returned (.bool true) ∧ Below w.heap.size w w' := by
  have FA := hide awake22_any
  have F0 := hide (light22 A A2 zs.length c L.length c2 w)
  rw [decide_eq_true ⟨h1, h2⟩] at F0
  have F1 := hide (pick_any A A2 c c2 zs L p w hz hl he)
  have F2 := hide (fun W (hb : Below w.heap.size w W) => rpick_any A A2 c c2 zs L p W (goV hz hb) (goV hl hb) he)
  have F3 := hide (fun b W (hb : Below w.heap.size w W) => rcount_any A2 c2 W.heap.size L b W (goV hl hb) he.l)
  have HZ := hide hz
  have HMIN : Hid ((ansP L p zs).2 = true → ∀ k, k < zs.length → ¬ cntB (zs.getD k 0) L < cntB (ansP L p zs).1 L) := hide (fun h k hk => ansP_min h hk)
  generalize (ansP L p zs).1 = X at *
  generalize (ansP L p zs).2 = Y at *
  obtain ⟨n, hn⟩ : ∃ n, zs.length = n := ⟨_, rfl⟩
  obtain ⟨m, hm⟩ : ∃ m, L.length = m := ⟨_, rfl⟩
  rw [hn, hm] at F0 F1 F2 ⊢
  rw [hn] at h1 HMIN
  rw [hm] at F3
  have Hn := hide hn
  have H1 := hide h1
  clear hz hl he h1 h2 hn hm
  go_enter Try.func3, Try.ntmps3
  go_wp2_with fail
  (with_reducible refine F0.out.mono ?_); rintro e w2 ⟨rfl, rfl⟩
  go_wp2_with fail
  (with_reducible refine F1.out.mono ?_); rintro e w1 ⟨rfl, hb⟩
  have HB := hide hb
  clear hb F0 F1
  go_wp2_with fail
  (with_reducible refine (F2.out w1 HB.out).mono ?_); rintro e w2 ⟨rfl, rfl⟩
  clear F2
  go_wp2_with fail
  go_loop [11] (fun i => ∃ k : Nat, k ≤ n ∧ i = .int .i64 (k : Int)) (fun i => n - (RowKit.intOf i).toNat)
  case atStart => exact ⟨0, Nat.zero_le _, rfl⟩
  case round =>
    obtain ⟨k, hk, rfl⟩ := hrel
    by_cases hlt : k < n ∧ Y = true
    · obtain ⟨hlt, rfl⟩ := hlt
      have hlt' : (k : Int) < (n : Int) := by omega
      have g1 : decide (k < n) = true := decide_eq_true hlt
      have hkl : k < zs.length := by rw [Hn.out]; exact hlt
      obtain ⟨a, rfl, hab, hca⟩ := (HZ.out.below HB.out).num hkl
      have e1 : wrap64 ((k : Int) + 1) = ((k + 1 : Nat) : Int) := by have := H1.out; unfold wrap64; omega
      have g2 : decide ((cntB (zs.getD k 0) L : Int) < (cntB X L : Int)) = false := decide_eq_false (by have := HMIN.out rfl k hlt; omega)
      have F4 := hide (F3.out (zs.getD k 0) w1 HB.out)
      have F5 := hide (F3.out X w1 HB.out)
      generalize zs.getD k 0 = b at *
      generalize (cntB b L : Int) = x at *
      generalize (cntB X L : Int) = y at *
      clear hkl
      go_wp2_with fail
      (with_reducible refine F4.out.mono ?_); rintro e w2 ⟨rfl, rfl⟩
      go_wp2_with fail
      (with_reducible refine F5.out.mono ?_); rintro e w2 ⟨rfl, rfl⟩
      go_wp2
      go_round
      case rel => exact ⟨k + 1, hlt, congrArg (Value.int .i64) e1⟩
      case measure => first | exact measU hlt | exact measV e1 hlt
    · clear F3 HMIN
      by_cases hk2 : k < n
      · have hY : Y = false := by cases Y <;> simp_all
        subst hY
        have g1 : decide (k < n) = true := decide_eq_true hk2
        have g1' : decide ((k : Int) < (n : Int)) = true := decide_eq_true (by omega)
        clear hlt hk2 hk
        have e1 : (X == X) = true := beq_self_eq_true X
        go_wp2_with fail
        (with_reducible refine (FA.out _).mono ?_); rintro e w3 ⟨rfl, hb⟩
        have HB3 := hide (HB.out.trans (hb.mono HB.out.size))
        clear hb HB FA
        go_wp2
        go_ret
        exact ⟨rfl, HB3.out⟩
      · have g1 : decide (k < n) = false := decide_eq_false hk2
        have g1' : decide ((k : Int) < (n : Int)) = false := decide_eq_false (by omega)
        clear hlt hk2 hk
        have e1 : (X == X) = true := beq_self_eq_true X
        have e2 : (Y == Y) = true := beq_self_eq_true Y
        go_wp2_with fail
        (with_reducible refine (FA.out _).mono ?_); rintro e w3 ⟨rfl, hb⟩
        have HB3 := hide (HB.out.trans (hb.mono HB.out.size))
        clear hb HB FA
        go_wp2
        go_ret
        exact ⟨rfl, HB3.out⟩
theorem picks_any (A A2 : Option Addr) (n c n2 c2 : Nat) (p : Int) (zs : List Int) (L : List Pl2) (w : World) (hz : Lies w w.heap.size A (nums .i64 zs)) (hn : n = zs.length) (ho : ∀ z ∈ zs, Ok64 z) (hl : Lies w w.heap.size A2 (rowQ L)) (hn2 : n2 = L.length) :
    Calls Try.prog 3 #[.slice A n c, .slice A2 n2 c2, .int .i64 p] w fun e w' => e = .returned (.bool true) ∧ Below w.heap.size w w' := by
  by_cases h : n ≤ 40 ∧ n2 ≤ 100
  · subst hn hn2
    exact picks_on A A2 c c2 zs L p w hz hl ⟨by omega, by omega, ho⟩ h.1 h.2
  · exact picks_off A A2 n c n2 c2 p w h
end Vc
end Go.Proofs.Ytabancgcokcfdaa
