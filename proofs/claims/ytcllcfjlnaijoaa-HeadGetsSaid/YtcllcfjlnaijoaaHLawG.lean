/-
  The walk of HeadGets.
-/
import Derived.Test.YtcllcfjlnaijoaaAwakee
import Derived.Test.YtcllcfjlnaijoaaRef5
import Derived.Test.YtcllcfjlnaijoaaMakes
import Derived.Deep.RegionWith
import Derived.Deep.DeepCutAuto
namespace Go.Proofs.Ytcllcfjlnaijoaa
open Go.RowKit

set_option maxHeartbeats 2000000 in
theorem headGets_any (A : Option Addr) (n c B : Nat) (l : List UInt8) (w : World) (h : Lies w B A (bys l)) (hn : n = l.length) (hc : n ≤ c) (hcm : c ≤ maxLen) (hB : B ≤ w.heap.size) :
    Calls Try.prog 4 #[.slice A n c] w fun e w' => e = .returned (.bool true) ∧ Below w.heap.size w w' := by
  by_cases h100 : 100 < n
  · have h1 : (100 : Int) < (n : Int) := by omega
    clear h hn hcm
    go_enter Try.func4, Try.ntmps4
    go_wp2_with fail
    (with_reducible refine (awake5_any _).mono ?_)
    rintro e w1 ⟨rfl, hb⟩
    go_wp2
    go_ret
    exact ⟨rfl, hb⟩
  have h1 : ¬ (100 : Int) < (n : Int) := by omega
  obtain ⟨M, N, K, E, hG⟩ : ∃ M N K E, getH l = (M, N, K, E) := ⟨_, _, _, _, rfl⟩
  have Hn := hide hn
  have Hl := hide h
  have Hg := hide (fun W (hW : Lies W B A (bys l)) (hz : B ≤ W.heap.size) => hgets_any A n c B l W hW hn (by omega) hz)
  have Hr := hide (fun W (hW : Lies W B A (bys l)) (hz : B ≤ W.heap.size) => get5_any A n c B l W hW hn (by omega) hz)
  have Hback := hide (headB_getH l M N K)
  rw [hG] at Hg Hr Hback
  clear hn h hG
  by_cases hE0 : E = 0
  · subst hE0
    obtain ⟨hM, hN, hKn, hKs, hhd⟩ := Hback.out rfl
    have Hp := hide (fun W => put5_any M N W hM hN)
    rw [← hKs, hhd] at Hp
    have hK : K = (l.take K).length := by simp; omega
    have hK1 : (K : Int) ≤ (c : Int) := by have := Hn.out; omega
    have HK := hide hK
    clear hKs hhd hK hKn Hback
    go_enter Try.func4, Try.ntmps4
    go_wp2_with fail
    have fp := Hg.out w Hl.out hB
    rw [show getV (M, N, K, 0) = .tuple #[.int .i64 (M : Int), .int .u64 (N : Int), .int .i64 (K : Int), .int .i64 0] from rfl] at fp
    (with_reducible refine fp.mono ?_)
    clear fp
    rintro e w0 ⟨rfl, hb0⟩
    have Hb0 := hide hb0
    have HL0 := hide (Hl.out.below (hb0.mono hB))
    have hz0 : B ≤ w0.heap.size := Nat.le_trans hB hb0.size
    have hz00 := hb0.size
    clear hb0
    go_wp2_with fail
    have fp := Hr.out w0 HL0.out hz0
    rw [show getV (M, N, K, 0) = .tuple #[.int .i64 (M : Int), .int .u64 (N : Int), .int .i64 (K : Int), .int .i64 0] from rfl] at fp
    (with_reducible refine fp.mono ?_)
    clear fp
    rintro e w1 ⟨rfl, hb1⟩
    have Hb1 := hide (Hb0.out.trans (hb1.mono hz00))
    have HL := hide (HL0.out.below (hb1.mono hz0))
    have hz : B ≤ w1.heap.size := Nat.le_trans hz0 hb1.size
    clear hb1 Hb0 HL0 Hg Hr
    have FR : Hid (∀ W, Below w1.heap.size w1 W → Makes 8 #[.int .i64 (M : Int), .int .u64 (N : Int)] W K (l.take K)) := hide (fun W _ => Makes.of HK.out (Hp.out W))
    have HC : Hid (∀ W, Below w1.heap.size w1 W → (convert 23 9 (.slice A K c)).run Try.prog W = .ok (.string (str (l.take K))) W) := hide (fun W hW => strU8 c (by rw [bys_take]; exact ((HL.out.below (hW.mono hz)).take K)) HK.out)
    go_upto_region 5 with fail
    refine wp_region_flow (by kernel_rfl) (fun d => if d = 2 then is (.bool true) else List.getD [is (.bool true), is (.bool true), is (.int .i64 (M : Int)), is (.int .i64 (M : Int)), is (.bool true), is (.bool true), is (.bool true), is (.int .u64 (N : Int)), is (.int .u64 (N : Int)), is (.bool true), is (.bool true), is (.bool true), is (.int .i64 (K : Int)), is (.int .i64 (K : Int)), is (.bool true), is (.bool true), is (.bool true), is (.int .i64 0), is (.int .i64 0), is (.bool true), is (.bool true), is (.bool true), is (.int .i64 0), is (.bool false), is (.bool false), is (.int .i64 (M : Int)), is (.int .u64 (N : Int)), SliceStr K (l.take K), is (.string (str (l.take K))), is (.slice A n c), is (.int .i64 (K : Int)), is (.slice A K c), is (.string (str (l.take K))), is (.bool true), is (.bool true), is (.bool true)] (d - 29) (fun _ _ => True)) 2 (by kernel_rfl) (by kernel_rfl) ?_ ?_
    · refine And.intro ?_ (And.intro ?_ (And.intro ?_ (And.intro ?_ (And.intro ?_ (And.intro ?_ (And.intro ?_ (And.intro ?_ (And.intro ?_ (And.intro ?_ (And.intro ?_ (And.intro ?_ (And.intro ?_ (And.intro ?_ (And.intro ?_ (And.intro ?_ (And.intro ?_ (And.intro ?_ (And.intro ?_ (And.intro ?_ (And.intro ?_ (And.intro ?_ (And.intro ?_ (And.intro ?_ (And.intro ?_ (And.intro ?_ (And.intro ?_ (And.intro ?_ (And.intro ?_ (And.intro ?_ (And.intro ?_ (And.intro ?_ (And.intro ?_ (And.intro ?_ (And.intro ?_ (And.intro ?_ (And.intro ?_ trivial))))))))))))))))))))))))))))))))))))
      · intro a w hb h
        exact .called (want0 rfl) rfl (by simp [go_sem]) (belowF (awake5_any w))
      · intro a w hb h
        have e29 := (sw h 29 (by kernel_rfl) (by kernel_rfl)).eq
        exact .val (want0 rfl) rfl (by simp [Act.eval, e29, go_sem]) (Keeps.is rfl)
      · intro a w hb h
        have eg := (sw h 30 (by kernel_rfl) (by kernel_rfl)).eq
        have e3 : a.tmps.getD 3 undef = .int .i64 (M : Int) := sb h 3 (by kernel_rfl) (by kernel_rfl) rfl
        exact .val (wantg rfl (by kernel_rfl) eg) rfl (by simp [Act.eval, e3, go_sem]) (Keeps.is rfl)
      · intro a w hb h
        have eg := (sw h 30 (by kernel_rfl) (by kernel_rfl)).eq
        have e7 : a.tmps.getD 7 undef = .int .i64 (M : Int) := sb h 7 (by kernel_rfl) (by kernel_rfl) rfl
        exact .val (wantg rfl (by kernel_rfl) eg) rfl (by simp [Act.eval, e7, go_sem]) (Keeps.is rfl)
      · intro a w hb h
        have eg := (sw h 30 (by kernel_rfl) (by kernel_rfl)).eq
        have e31 := (sw h 31 (by kernel_rfl) (by kernel_rfl)).eq
        have e32 := (sw h 32 (by kernel_rfl) (by kernel_rfl)).eq
        exact .val (wantg rfl (by kernel_rfl) eg) rfl (by simp [Act.eval, e31, e32, go_sem]) (Keeps.is rfl)
      · intro a w hb h
        have e30 := (sw h 30 (by kernel_rfl) (by kernel_rfl)).eq
        have e33 := (sw h 33 (by kernel_rfl) (by kernel_rfl)).eq
        exact .val (want0 rfl) rfl (by simp [Act.eval, e30, e33, go_sem]) (Keeps.is rfl)
      · intro a w hb h
        have e34 := (sw h 34 (by kernel_rfl) (by kernel_rfl)).eq
        exact .val (want0 rfl) rfl (by simp [Act.eval, e34, go_sem]) (Keeps.is rfl)
      · intro a w hb h
        have eg := (sw h 35 (by kernel_rfl) (by kernel_rfl)).eq
        have e4 : a.tmps.getD 4 undef = .int .u64 (N : Int) := sb h 4 (by kernel_rfl) (by kernel_rfl) rfl
        exact .val (wantg rfl (by kernel_rfl) eg) rfl (by simp [Act.eval, e4, go_sem]) (Keeps.is rfl)
      · intro a w hb h
        have eg := (sw h 35 (by kernel_rfl) (by kernel_rfl)).eq
        have e8 : a.tmps.getD 8 undef = .int .u64 (N : Int) := sb h 8 (by kernel_rfl) (by kernel_rfl) rfl
        exact .val (wantg rfl (by kernel_rfl) eg) rfl (by simp [Act.eval, e8, go_sem]) (Keeps.is rfl)
      · intro a w hb h
        have eg := (sw h 35 (by kernel_rfl) (by kernel_rfl)).eq
        have e36 := (sw h 36 (by kernel_rfl) (by kernel_rfl)).eq
        have e37 := (sw h 37 (by kernel_rfl) (by kernel_rfl)).eq
        exact .val (wantg rfl (by kernel_rfl) eg) rfl (by simp [Act.eval, e36, e37, go_sem]) (Keeps.is rfl)
      · intro a w hb h
        have e35 := (sw h 35 (by kernel_rfl) (by kernel_rfl)).eq
        have e38 := (sw h 38 (by kernel_rfl) (by kernel_rfl)).eq
        exact .val (want0 rfl) rfl (by simp [Act.eval, e35, e38, go_sem]) (Keeps.is rfl)
      · intro a w hb h
        have e39 := (sw h 39 (by kernel_rfl) (by kernel_rfl)).eq
        exact .val (want0 rfl) rfl (by simp [Act.eval, e39, go_sem]) (Keeps.is rfl)
      · intro a w hb h
        have eg := (sw h 40 (by kernel_rfl) (by kernel_rfl)).eq
        have e5 : a.tmps.getD 5 undef = .int .i64 (K : Int) := sb h 5 (by kernel_rfl) (by kernel_rfl) rfl
        exact .val (wantg rfl (by kernel_rfl) eg) rfl (by simp [Act.eval, e5, go_sem]) (Keeps.is rfl)
      · intro a w hb h
        have eg := (sw h 40 (by kernel_rfl) (by kernel_rfl)).eq
        have e9 : a.tmps.getD 9 undef = .int .i64 (K : Int) := sb h 9 (by kernel_rfl) (by kernel_rfl) rfl
        exact .val (wantg rfl (by kernel_rfl) eg) rfl (by simp [Act.eval, e9, go_sem]) (Keeps.is rfl)
      · intro a w hb h
        have eg := (sw h 40 (by kernel_rfl) (by kernel_rfl)).eq
        have e41 := (sw h 41 (by kernel_rfl) (by kernel_rfl)).eq
        have e42 := (sw h 42 (by kernel_rfl) (by kernel_rfl)).eq
        exact .val (wantg rfl (by kernel_rfl) eg) rfl (by simp [Act.eval, e41, e42, go_sem]) (Keeps.is rfl)
      · intro a w hb h
        have e40 := (sw h 40 (by kernel_rfl) (by kernel_rfl)).eq
        have e43 := (sw h 43 (by kernel_rfl) (by kernel_rfl)).eq
        exact .val (want0 rfl) rfl (by simp [Act.eval, e40, e43, go_sem]) (Keeps.is rfl)
      · intro a w hb h
        have e44 := (sw h 44 (by kernel_rfl) (by kernel_rfl)).eq
        exact .val (want0 rfl) rfl (by simp [Act.eval, e44, go_sem]) (Keeps.is rfl)
      · intro a w hb h
        have eg := (sw h 45 (by kernel_rfl) (by kernel_rfl)).eq
        have e6 : a.tmps.getD 6 undef = .int .i64 0 := sb h 6 (by kernel_rfl) (by kernel_rfl) rfl
        exact .val (wantg rfl (by kernel_rfl) eg) rfl (by simp [Act.eval, e6, go_sem]) (Keeps.is rfl)
      · intro a w hb h
        have eg := (sw h 45 (by kernel_rfl) (by kernel_rfl)).eq
        have e10 : a.tmps.getD 10 undef = .int .i64 0 := sb h 10 (by kernel_rfl) (by kernel_rfl) rfl
        exact .val (wantg rfl (by kernel_rfl) eg) rfl (by simp [Act.eval, e10, go_sem]) (Keeps.is rfl)
      · intro a w hb h
        have eg := (sw h 45 (by kernel_rfl) (by kernel_rfl)).eq
        have e46 := (sw h 46 (by kernel_rfl) (by kernel_rfl)).eq
        have e47 := (sw h 47 (by kernel_rfl) (by kernel_rfl)).eq
        exact .val (wantg rfl (by kernel_rfl) eg) rfl (by simp [Act.eval, e46, e47, go_sem]) (Keeps.is rfl)
      · intro a w hb h
        have e45 := (sw h 45 (by kernel_rfl) (by kernel_rfl)).eq
        have e48 := (sw h 48 (by kernel_rfl) (by kernel_rfl)).eq
        exact .val (want0 rfl) rfl (by simp [Act.eval, e45, e48, go_sem]) (Keeps.is rfl)
      · intro a w hb h
        have e49 := (sw h 49 (by kernel_rfl) (by kernel_rfl)).eq
        exact .val (want0 rfl) rfl (by simp [Act.eval, e49, go_sem]) (Keeps.is rfl)
      · intro a w hb h
        have eg := (sw h 50 (by kernel_rfl) (by kernel_rfl)).eq
        have e6 : a.tmps.getD 6 undef = .int .i64 0 := sb h 6 (by kernel_rfl) (by kernel_rfl) rfl
        exact .val (wantg rfl (by kernel_rfl) eg) rfl (by simp [Act.eval, e6, go_sem]) (Keeps.is rfl)
      · intro a w hb h
        have eg := (sw h 50 (by kernel_rfl) (by kernel_rfl)).eq
        have e51 := (sw h 51 (by kernel_rfl) (by kernel_rfl)).eq
        exact .val (wantg rfl (by kernel_rfl) eg) rfl (by simp [Act.eval, e51, go_sem]) (Keeps.is rfl)
      · intro a w hb h
        have eg := (sw h 50 (by kernel_rfl) (by kernel_rfl)).eq
        have e52 := (sw h 52 (by kernel_rfl) (by kernel_rfl)).eq
        exact .val (wantg rfl (by kernel_rfl) eg) rfl (by simp [Act.eval, e52, go_sem]) (Keeps.is rfl)
      · intro a w hb h
        have eg := (sw h 53 (by kernel_rfl) (by kernel_rfl)).eq
        have e3 : a.tmps.getD 3 undef = .int .i64 (M : Int) := sb h 3 (by kernel_rfl) (by kernel_rfl) rfl
        exact .val (wantg rfl (by kernel_rfl) eg) rfl (by simp [Act.eval, e3, go_sem]) (Keeps.is rfl)
      · intro a w hb h
        have eg := (sw h 53 (by kernel_rfl) (by kernel_rfl)).eq
        have e4 : a.tmps.getD 4 undef = .int .u64 (N : Int) := sb h 4 (by kernel_rfl) (by kernel_rfl) rfl
        exact .val (wantg rfl (by kernel_rfl) eg) rfl (by simp [Act.eval, e4, go_sem]) (Keeps.is rfl)
      · intro a w hb h
        have eg := (sw h 53 (by kernel_rfl) (by kernel_rfl)).eq
        have e54 := (sw h 54 (by kernel_rfl) (by kernel_rfl)).eq
        have e55 := (sw h 55 (by kernel_rfl) (by kernel_rfl)).eq
        exact .called (wantg rfl (by kernel_rfl) eg) rfl (by simp [Act.eval, e54, e55, go_sem]) (FR.out w hb)
      · intro a w hb h
        have eg := (sw h 53 (by kernel_rfl) (by kernel_rfl)).eq
        have e56 := sw h 56 (by kernel_rfl) (by kernel_rfl)
        obtain ⟨A', c', e', hc'⟩ := e56.now
        rw [e'] at hc'
        exact .val (wantg rfl (by kernel_rfl) eg) rfl (by simp [Act.eval, e', hc', go_sem]) (Keeps.is rfl)
      · intro a w hb h
        have eg := (sw h 53 (by kernel_rfl) (by kernel_rfl)).eq
        have e0 : a.tmps.getD 0 undef = .slice A n c := sb h 0 (by kernel_rfl) (by kernel_rfl) rfl
        exact .val (wantg rfl (by kernel_rfl) eg) rfl (by simp [Act.eval, e0, go_sem]) (Keeps.is rfl)
      · intro a w hb h
        have eg := (sw h 53 (by kernel_rfl) (by kernel_rfl)).eq
        have e5 : a.tmps.getD 5 undef = .int .i64 (K : Int) := sb h 5 (by kernel_rfl) (by kernel_rfl) rfl
        exact .val (wantg rfl (by kernel_rfl) eg) rfl (by simp [Act.eval, e5, go_sem]) (Keeps.is rfl)
      · intro a w hb h
        have eg := (sw h 53 (by kernel_rfl) (by kernel_rfl)).eq
        have e58 := (sw h 58 (by kernel_rfl) (by kernel_rfl)).eq
        have e59 := (sw h 59 (by kernel_rfl) (by kernel_rfl)).eq
        exact .val (wantg rfl (by kernel_rfl) eg) rfl (by simp [Act.eval, e58, e59, hK1, go_sem]) (Keeps.is rfl)
      · intro a w hb h
        have eg := (sw h 53 (by kernel_rfl) (by kernel_rfl)).eq
        have e60 := (sw h 60 (by kernel_rfl) (by kernel_rfl)).eq
        exact .val (wantg rfl (by kernel_rfl) eg) rfl (by simp [Act.eval, e60, HC.out w hb, go_sem]) (Keeps.is rfl)
      · intro a w hb h
        have eg := (sw h 53 (by kernel_rfl) (by kernel_rfl)).eq
        have e57 := (sw h 57 (by kernel_rfl) (by kernel_rfl)).eq
        have e61 := (sw h 61 (by kernel_rfl) (by kernel_rfl)).eq
        exact .val (wantg rfl (by kernel_rfl) eg) rfl (by simp [Act.eval, e57, e61, go_sem]) (Keeps.is rfl)
      · intro a w hb h
        have eg := (sw h 50 (by kernel_rfl) (by kernel_rfl)).eq
        have e53 := (sw h 53 (by kernel_rfl) (by kernel_rfl)).eq
        have e62 := (sw h 62 (by kernel_rfl) (by kernel_rfl)).eq
        exact .val (wantg rfl (by kernel_rfl) eg) rfl (by simp [Act.eval, e53, e62, go_sem]) (Keeps.is rfl)
      · intro a w hb h
        have e50 := (sw h 50 (by kernel_rfl) (by kernel_rfl)).eq
        have e63 := (sw h 63 (by kernel_rfl) (by kernel_rfl)).eq
        exact .val (want0 rfl) rfl (by simp [Act.eval, e50, e63, go_sem]) (Keeps.is rfl)
      · intro a w hb h
        have e64 := (sw h 64 (by kernel_rfl) (by kernel_rfl)).eq
        exact .val (want0 rfl) rfl (by simp [Act.eval, e64, go_sem]) (Keeps.is rfl)
    · intro a w2 hd hb hv
      have er := hv.eq
      clear hv
      simp only [Exit.then]
      go_wp2
      exact ⟨hd, _, results_tmp rfl _ _ _, by rw [er], Hb1.out.trans (hb.mono Hb1.out.size)⟩
  · have hE : ((E : Int) != 0) = true := by simp; omega
    clear Hback
    go_enter Try.func4, Try.ntmps4
    go_wp2_with fail
    have fp := Hg.out w Hl.out hB
    rw [show getV (M, N, K, E) = .tuple #[.int .i64 (M : Int), .int .u64 (N : Int), .int .i64 (K : Int), .int .i64 (E : Int)] from rfl] at fp
    (with_reducible refine fp.mono ?_)
    clear fp
    rintro e w0 ⟨rfl, hb0⟩
    have Hb0 := hide hb0
    have HL0 := hide (Hl.out.below (hb0.mono hB))
    have hz0 : B ≤ w0.heap.size := Nat.le_trans hB hb0.size
    have hz00 := hb0.size
    clear hb0
    go_wp2_with fail
    have fp := Hr.out w0 HL0.out hz0
    rw [show getV (M, N, K, E) = .tuple #[.int .i64 (M : Int), .int .u64 (N : Int), .int .i64 (K : Int), .int .i64 (E : Int)] from rfl] at fp
    (with_reducible refine fp.mono ?_)
    clear fp
    rintro e w1 ⟨rfl, hb1⟩
    have Hb1 := hide (Hb0.out.trans (hb1.mono hz00))
    clear hb1 Hb0 HL0 Hg Hr
    go_upto_region 5 with fail
    refine wp_region_flow (by kernel_rfl) (fun d => if d = 2 then is (.bool true) else List.getD [is (.bool true), is (.bool true), is (.int .i64 (M : Int)), is (.int .i64 (M : Int)), is (.bool true), is (.bool true), is (.bool true), is (.int .u64 (N : Int)), is (.int .u64 (N : Int)), is (.bool true), is (.bool true), is (.bool true), is (.int .i64 (K : Int)), is (.int .i64 (K : Int)), is (.bool true), is (.bool true), is (.bool true), is (.int .i64 (E : Int)), is (.int .i64 (E : Int)), is (.bool true), is (.bool true), is (.bool true), is (.int .i64 (E : Int)), is (.bool true), is (.bool true), is (undef), is (undef), is (undef), is (undef), is (undef), is (undef), is (undef), is (undef), is (undef), is (.bool true), is (.bool true)] (d - 29) (fun _ _ => True)) 2 (by kernel_rfl) (by kernel_rfl) ?_ ?_
    · refine And.intro ?_ (And.intro ?_ (And.intro ?_ (And.intro ?_ (And.intro ?_ (And.intro ?_ (And.intro ?_ (And.intro ?_ (And.intro ?_ (And.intro ?_ (And.intro ?_ (And.intro ?_ (And.intro ?_ (And.intro ?_ (And.intro ?_ (And.intro ?_ (And.intro ?_ (And.intro ?_ (And.intro ?_ (And.intro ?_ (And.intro ?_ (And.intro ?_ (And.intro ?_ (And.intro ?_ (And.intro ?_ (And.intro ?_ (And.intro ?_ (And.intro ?_ (And.intro ?_ (And.intro ?_ (And.intro ?_ (And.intro ?_ (And.intro ?_ (And.intro ?_ (And.intro ?_ (And.intro ?_ (And.intro ?_ trivial))))))))))))))))))))))))))))))))))))
      · intro a w hb h
        exact .called (want0 rfl) rfl (by simp [go_sem]) (belowF (awake5_any w))
      · intro a w hb h
        have e29 := (sw h 29 (by kernel_rfl) (by kernel_rfl)).eq
        exact .val (want0 rfl) rfl (by simp [Act.eval, e29, go_sem]) (Keeps.is rfl)
      · intro a w hb h
        have eg := (sw h 30 (by kernel_rfl) (by kernel_rfl)).eq
        have e3 : a.tmps.getD 3 undef = .int .i64 (M : Int) := sb h 3 (by kernel_rfl) (by kernel_rfl) rfl
        exact .val (wantg rfl (by kernel_rfl) eg) rfl (by simp [Act.eval, e3, go_sem]) (Keeps.is rfl)
      · intro a w hb h
        have eg := (sw h 30 (by kernel_rfl) (by kernel_rfl)).eq
        have e7 : a.tmps.getD 7 undef = .int .i64 (M : Int) := sb h 7 (by kernel_rfl) (by kernel_rfl) rfl
        exact .val (wantg rfl (by kernel_rfl) eg) rfl (by simp [Act.eval, e7, go_sem]) (Keeps.is rfl)
      · intro a w hb h
        have eg := (sw h 30 (by kernel_rfl) (by kernel_rfl)).eq
        have e31 := (sw h 31 (by kernel_rfl) (by kernel_rfl)).eq
        have e32 := (sw h 32 (by kernel_rfl) (by kernel_rfl)).eq
        exact .val (wantg rfl (by kernel_rfl) eg) rfl (by simp [Act.eval, e31, e32, go_sem]) (Keeps.is rfl)
      · intro a w hb h
        have e30 := (sw h 30 (by kernel_rfl) (by kernel_rfl)).eq
        have e33 := (sw h 33 (by kernel_rfl) (by kernel_rfl)).eq
        exact .val (want0 rfl) rfl (by simp [Act.eval, e30, e33, go_sem]) (Keeps.is rfl)
      · intro a w hb h
        have e34 := (sw h 34 (by kernel_rfl) (by kernel_rfl)).eq
        exact .val (want0 rfl) rfl (by simp [Act.eval, e34, go_sem]) (Keeps.is rfl)
      · intro a w hb h
        have eg := (sw h 35 (by kernel_rfl) (by kernel_rfl)).eq
        have e4 : a.tmps.getD 4 undef = .int .u64 (N : Int) := sb h 4 (by kernel_rfl) (by kernel_rfl) rfl
        exact .val (wantg rfl (by kernel_rfl) eg) rfl (by simp [Act.eval, e4, go_sem]) (Keeps.is rfl)
      · intro a w hb h
        have eg := (sw h 35 (by kernel_rfl) (by kernel_rfl)).eq
        have e8 : a.tmps.getD 8 undef = .int .u64 (N : Int) := sb h 8 (by kernel_rfl) (by kernel_rfl) rfl
        exact .val (wantg rfl (by kernel_rfl) eg) rfl (by simp [Act.eval, e8, go_sem]) (Keeps.is rfl)
      · intro a w hb h
        have eg := (sw h 35 (by kernel_rfl) (by kernel_rfl)).eq
        have e36 := (sw h 36 (by kernel_rfl) (by kernel_rfl)).eq
        have e37 := (sw h 37 (by kernel_rfl) (by kernel_rfl)).eq
        exact .val (wantg rfl (by kernel_rfl) eg) rfl (by simp [Act.eval, e36, e37, go_sem]) (Keeps.is rfl)
      · intro a w hb h
        have e35 := (sw h 35 (by kernel_rfl) (by kernel_rfl)).eq
        have e38 := (sw h 38 (by kernel_rfl) (by kernel_rfl)).eq
        exact .val (want0 rfl) rfl (by simp [Act.eval, e35, e38, go_sem]) (Keeps.is rfl)
      · intro a w hb h
        have e39 := (sw h 39 (by kernel_rfl) (by kernel_rfl)).eq
        exact .val (want0 rfl) rfl (by simp [Act.eval, e39, go_sem]) (Keeps.is rfl)
      · intro a w hb h
        have eg := (sw h 40 (by kernel_rfl) (by kernel_rfl)).eq
        have e5 : a.tmps.getD 5 undef = .int .i64 (K : Int) := sb h 5 (by kernel_rfl) (by kernel_rfl) rfl
        exact .val (wantg rfl (by kernel_rfl) eg) rfl (by simp [Act.eval, e5, go_sem]) (Keeps.is rfl)
      · intro a w hb h
        have eg := (sw h 40 (by kernel_rfl) (by kernel_rfl)).eq
        have e9 : a.tmps.getD 9 undef = .int .i64 (K : Int) := sb h 9 (by kernel_rfl) (by kernel_rfl) rfl
        exact .val (wantg rfl (by kernel_rfl) eg) rfl (by simp [Act.eval, e9, go_sem]) (Keeps.is rfl)
      · intro a w hb h
        have eg := (sw h 40 (by kernel_rfl) (by kernel_rfl)).eq
        have e41 := (sw h 41 (by kernel_rfl) (by kernel_rfl)).eq
        have e42 := (sw h 42 (by kernel_rfl) (by kernel_rfl)).eq
        exact .val (wantg rfl (by kernel_rfl) eg) rfl (by simp [Act.eval, e41, e42, go_sem]) (Keeps.is rfl)
      · intro a w hb h
        have e40 := (sw h 40 (by kernel_rfl) (by kernel_rfl)).eq
        have e43 := (sw h 43 (by kernel_rfl) (by kernel_rfl)).eq
        exact .val (want0 rfl) rfl (by simp [Act.eval, e40, e43, go_sem]) (Keeps.is rfl)
      · intro a w hb h
        have e44 := (sw h 44 (by kernel_rfl) (by kernel_rfl)).eq
        exact .val (want0 rfl) rfl (by simp [Act.eval, e44, go_sem]) (Keeps.is rfl)
      · intro a w hb h
        have eg := (sw h 45 (by kernel_rfl) (by kernel_rfl)).eq
        have e6 : a.tmps.getD 6 undef = .int .i64 (E : Int) := sb h 6 (by kernel_rfl) (by kernel_rfl) rfl
        exact .val (wantg rfl (by kernel_rfl) eg) rfl (by simp [Act.eval, e6, go_sem]) (Keeps.is rfl)
      · intro a w hb h
        have eg := (sw h 45 (by kernel_rfl) (by kernel_rfl)).eq
        have e10 : a.tmps.getD 10 undef = .int .i64 (E : Int) := sb h 10 (by kernel_rfl) (by kernel_rfl) rfl
        exact .val (wantg rfl (by kernel_rfl) eg) rfl (by simp [Act.eval, e10, go_sem]) (Keeps.is rfl)
      · intro a w hb h
        have eg := (sw h 45 (by kernel_rfl) (by kernel_rfl)).eq
        have e46 := (sw h 46 (by kernel_rfl) (by kernel_rfl)).eq
        have e47 := (sw h 47 (by kernel_rfl) (by kernel_rfl)).eq
        exact .val (wantg rfl (by kernel_rfl) eg) rfl (by simp [Act.eval, e46, e47, go_sem]) (Keeps.is rfl)
      · intro a w hb h
        have e45 := (sw h 45 (by kernel_rfl) (by kernel_rfl)).eq
        have e48 := (sw h 48 (by kernel_rfl) (by kernel_rfl)).eq
        exact .val (want0 rfl) rfl (by simp [Act.eval, e45, e48, go_sem]) (Keeps.is rfl)
      · intro a w hb h
        have e49 := (sw h 49 (by kernel_rfl) (by kernel_rfl)).eq
        exact .val (want0 rfl) rfl (by simp [Act.eval, e49, go_sem]) (Keeps.is rfl)
      · intro a w hb h
        have eg := (sw h 50 (by kernel_rfl) (by kernel_rfl)).eq
        have e6 : a.tmps.getD 6 undef = .int .i64 (E : Int) := sb h 6 (by kernel_rfl) (by kernel_rfl) rfl
        exact .val (wantg rfl (by kernel_rfl) eg) rfl (by simp [Act.eval, e6, go_sem]) (Keeps.is rfl)
      · intro a w hb h
        have eg := (sw h 50 (by kernel_rfl) (by kernel_rfl)).eq
        have e51 := (sw h 51 (by kernel_rfl) (by kernel_rfl)).eq
        exact .val (wantg rfl (by kernel_rfl) eg) rfl (by simp [Act.eval, e51, hE, go_sem]) (Keeps.is rfl)
      · intro a w hb h
        have eg := (sw h 50 (by kernel_rfl) (by kernel_rfl)).eq
        have e52 := (sw h 52 (by kernel_rfl) (by kernel_rfl)).eq
        exact .val (wantg rfl (by kernel_rfl) eg) rfl (by simp [Act.eval, e52, go_sem]) (Keeps.is rfl)
      · intro a w hb h
        have eg := (sw h 53 (by kernel_rfl) (by kernel_rfl)).eq
        exact .off (idleg rfl (by kernel_rfl) eg rfl) rfl (Keeps.is rfl)
      · intro a w hb h
        have eg := (sw h 53 (by kernel_rfl) (by kernel_rfl)).eq
        exact .off (idleg rfl (by kernel_rfl) eg rfl) rfl (Keeps.is rfl)
      · intro a w hb h
        have eg := (sw h 53 (by kernel_rfl) (by kernel_rfl)).eq
        exact .off (idleg rfl (by kernel_rfl) eg rfl) rfl (Keeps.is rfl)
      · intro a w hb h
        have eg := (sw h 53 (by kernel_rfl) (by kernel_rfl)).eq
        exact .off (idleg rfl (by kernel_rfl) eg rfl) rfl (Keeps.is rfl)
      · intro a w hb h
        have eg := (sw h 53 (by kernel_rfl) (by kernel_rfl)).eq
        exact .off (idleg rfl (by kernel_rfl) eg rfl) rfl (Keeps.is rfl)
      · intro a w hb h
        have eg := (sw h 53 (by kernel_rfl) (by kernel_rfl)).eq
        exact .off (idleg rfl (by kernel_rfl) eg rfl) rfl (Keeps.is rfl)
      · intro a w hb h
        have eg := (sw h 53 (by kernel_rfl) (by kernel_rfl)).eq
        exact .off (idleg rfl (by kernel_rfl) eg rfl) rfl (Keeps.is rfl)
      · intro a w hb h
        have eg := (sw h 53 (by kernel_rfl) (by kernel_rfl)).eq
        exact .off (idleg rfl (by kernel_rfl) eg rfl) rfl (Keeps.is rfl)
      · intro a w hb h
        have eg := (sw h 53 (by kernel_rfl) (by kernel_rfl)).eq
        exact .off (idleg rfl (by kernel_rfl) eg rfl) rfl (Keeps.is rfl)
      · intro a w hb h
        have eg := (sw h 50 (by kernel_rfl) (by kernel_rfl)).eq
        have e53 := (sw h 53 (by kernel_rfl) (by kernel_rfl)).eq
        exact .val (wantg rfl (by kernel_rfl) eg) rfl (by simp [Act.eval, e53, go_sem]) (Keeps.is rfl)
      · intro a w hb h
        have e50 := (sw h 50 (by kernel_rfl) (by kernel_rfl)).eq
        have e63 := (sw h 63 (by kernel_rfl) (by kernel_rfl)).eq
        exact .val (want0 rfl) rfl (by simp [Act.eval, e50, e63, go_sem]) (Keeps.is rfl)
      · intro a w hb h
        have e64 := (sw h 64 (by kernel_rfl) (by kernel_rfl)).eq
        exact .val (want0 rfl) rfl (by simp [Act.eval, e64, go_sem]) (Keeps.is rfl)
    · intro a w2 hd hb hv
      have er := hv.eq
      clear hv
      simp only [Exit.then]
      go_wp2
      exact ⟨hd, _, results_tmp rfl _ _ _, by rw [er], Hb1.out.trans (hb.mono Hb1.out.size)⟩

end Go.Proofs.Ytcllcfjlnaijoaa
