/-
  The walk of ZerosProgram; 'few' of one, two, three slices.
-/
import Derived.Test.YtbcplfdbnfmhoaaAwakeb
import Derived.Deep.QuietTactic
import Derived.BigQuiet
import Derived.Deep.RegionWith
import Derived.Test.YtbcplfdbnfmhoaaFlow
import Derived.Deep.DeepCutAuto
namespace Go.Proofs.Ytbcplfdbnfmhoaa
open Go.RowKit

theorem few_3 (A A2 A3 : Option Addr) (n c n2 c2 n3 c3 : Nat) (w : World) (r : Bool) (hr : r = decide (n ≤ 60 ∧ n2 ≤ 60 ∧ n3 ≤ 60)) :
    Calls Try.prog 7 #[.slice (some ⟨w.heap.size, 0, none⟩) 3 3] (w.alloc (.cells #[.slice A n c, .slice A2 n2 c2, .slice A3 n3 c3] 22)) fun e w' => e = .returned (.bool r) ∧ w.alloc (.cells #[.slice A n c, .slice A2 n2 c2, .slice A3 n3 c3] 22) = w' :=
  few2_any _ 3 3 (fun j => if j = 0 then n else if j = 1 then n2 else n3) _ r
    (by rw [hr]; congr 1; exact propext ⟨fun ⟨h1, h2, h3⟩ j hj => by rcases (by omega : j = 0 ∨ j = 1 ∨ j = 2) with rfl | rfl | rfl <;> simpa, fun h => ⟨by simpa using h 0 (by omega), by simpa using h 1 (by omega), by simpa using h 2 (by omega)⟩⟩)
    (by omega)
    (fun j hj => by rcases (by omega : j = 0 ∨ j = 1 ∨ j = 2) with rfl | rfl | rfl <;> exact ⟨_, _, by simp [Addr.add]; first | exact ⟨rfl, rfl⟩ | rfl⟩)

theorem few_2 (A A2 : Option Addr) (n c n2 c2 : Nat) (w : World) (r : Bool) (hr : r = decide (n ≤ 60 ∧ n2 ≤ 60)) :
    Calls Try.prog 7 #[.slice (some ⟨w.heap.size, 0, none⟩) 2 2] (w.alloc (.cells #[.slice A n c, .slice A2 n2 c2] 22)) fun e w' => e = .returned (.bool r) ∧ w.alloc (.cells #[.slice A n c, .slice A2 n2 c2] 22) = w' :=
  few2_any _ 2 2 (fun j => if j = 0 then n else n2) _ r
    (by rw [hr]; congr 1; exact propext ⟨fun ⟨h1, h2⟩ j hj => by rcases (by omega : j = 0 ∨ j = 1) with rfl | rfl <;> simpa, fun h => ⟨by simpa using h 0 (by omega), by simpa using h 1 (by omega)⟩⟩)
    (by omega)
    (fun j hj => by rcases (by omega : j = 0 ∨ j = 1) with rfl | rfl <;> exact ⟨_, _, by simp [Addr.add]; first | exact ⟨rfl, rfl⟩ | rfl⟩)

theorem few_1 (A : Option Addr) (n c : Nat) (w : World) (r : Bool) (hr : r = decide (n ≤ 60)) :
    Calls Try.prog 7 #[.slice (some ⟨w.heap.size, 0, none⟩) 1 1] (w.alloc (.cells #[.slice A n c] 22)) fun e w' => e = .returned (.bool r) ∧ w.alloc (.cells #[.slice A n c] 22) = w' :=
  few2_any _ 1 1 (fun _ => n) _ r
    (by rw [hr]; congr 1; exact propext ⟨fun h1 j hj => h1, fun h => h 0 (by omega)⟩)
    (by omega)
    (fun j hj => by obtain rfl : j = 0 := by omega
                    exact ⟨_, _, by simp [Addr.add]; first | exact ⟨rfl, rfl⟩ | rfl⟩)

/-- A slice of k bytes that turns into a string. -/
def SliceStr (k : Nat) (l : List UInt8) : Value → World → Prop := fun v w => ∃ A c, v = .slice A k c ∧ (convert 22 9 v).run Try.prog w = .ok (.string (str l)) w
/-- A call that makes bytes. -/
def Makes (f : FuncId) (args : Array Value) (W : World) (k : Nat) (l : List UInt8) : Prop :=
  Calls Try.prog f args W fun e w' => ∃ v, e = .returned v ∧ Below W.heap.size W w' ∧ Keeps (SliceStr k l) v w'
theorem Makes.of {f : FuncId} {args : Array Value} {W : World} {k : Nat} {l : List UInt8} (hk : k = l.length)
    (h : Calls Try.prog f args W fun e w' => ∃ A' c', e = .returned (.slice A' k c') ∧ w'.ownsRow W.heap.size 5 1 (.slice A' k c') k (bys l) ∧ Below W.heap.size W w') : Makes f args W k l :=
  h.mono fun _ _ ⟨A', c', he, ho, hb'⟩ => ⟨_, he, hb', fun _ hW => ⟨A', c', rfl, strU8 c' ((Lies.of_own ho).below hW) hk⟩⟩

set_option maxHeartbeats 1000000 in
theorem zerosProgram_any (A A2 A3 : Option Addr) (n c n2 c2 n3 c3 B : Nat) (l b m : List UInt8) (w : World) (h : Lies w B A (bys l)) (hn : n = l.length) (h2 : Lies w B A2 (bys b)) (hn2 : n2 = b.length)
    (h3 : Lies w B A3 (bys m)) (hn3 : n3 = m.length) (hB : B ≤ w.heap.size) :
    Calls Try.prog 4 #[.slice A n c, .slice A2 n2 c2, .slice A3 n3 c3] w fun e w' => e = .returned (.bool true) ∧ Below w.heap.size w w' := by
  have Hn := hide hn
  have Hl := hide h
  have Hn2 := hide hn2
  have Hl2 := hide h2
  have Hn3 := hide hn3
  have Hl3 := hide h3
  clear hn h hn2 h2 hn3 h3
  by_cases hfew : n ≤ 60 ∧ n2 ≤ 60 ∧ n3 ≤ 60
  · have Hfew := hide (decide_eq_true hfew)
    go_enter Try.func4, Try.ntmps4
    go_wp2_with fail
    (with_reducible refine (few_3 A A2 A3 n c n2 c2 n3 c3 w true Hfew.out.symm).mono ?_)
    rintro e w1 ⟨rfl, hw1⟩
    have hb1 : Below w.heap.size w w1 := by rw [← hw1]; exact (Below.refl _ w).alloc (Nat.le_refl _) _
    clear hw1
    go_wp2_with fail
    have HL := hide (Hl.out.below (hb1.mono hB))
    have HL2 := hide (Hl2.out.below (hb1.mono hB))
    have HL3 := hide (Hl3.out.below (hb1.mono hB))
    have Hb1 := hide hb1
    have hz := Nat.le_trans hB hb1.size
    have hd0 : Below w1.heap.size w1 w1.drew := (Below.refl _ w1).drew
    clear hb1
    have fp : ∀ W, Below w1.heap.size w1 W → Makes 16 #[.slice A n c, .slice A2 n2 c2, .slice A3 n3 c3] W n (progL l b m) := fun W hW =>
      Makes.of (by rw [progL_len]; exact Hn.out) (program_any A A2 A3 n c n2 c2 n3 c3 B l b m W (HL.out.below (hW.mono hz)) Hn.out (by omega) (HL2.out.below (hW.mono hz)) Hn2.out (by omega) (HL3.out.below (hW.mono hz)) Hn3.out (Nat.le_trans hz hW.size))
    have fr : ∀ W, Below w1.heap.size w1 W → Makes 17 #[.slice A n c, .slice A2 n2 c2, .slice A3 n3 c3] W n (progL l b m) := fun W hW =>
      Makes.of (by rw [progL_len]; exact Hn.out) (program2_any A A2 A3 n c n2 c2 n3 c3 B l b m W (HL.out.below (hW.mono hz)) Hn.out (by omega) (HL2.out.below (hW.mono hz)) Hn2.out (by omega) (HL3.out.below (hW.mono hz)) Hn3.out (by omega) (Nat.le_trans hz hW.size))
    have FP := hide fp
    have FR := hide fr
    clear fp fr
    go_upto_region 3 with fail
    refine wp_region_flow (by kernel_rfl) (fun d => if d = 6 then is (.bool true) else List.getD [is (.bool true), is (.bool true), is (.slice A n c), is (.slice A2 n2 c2), is (.slice A3 n3 c3), SliceStr n (progL l b m), is (.string (str (progL l b m))), is (.slice A n c), is (.slice A2 n2 c2), is (.slice A3 n3 c3), SliceStr n (progL l b m), is (.string (str (progL l b m))), is (.bool true), is (.bool true)] (d - 14) (fun _ _ => True)) 6 (by kernel_rfl) (by kernel_rfl) ?_ ?_
    · refine And.intro ?_ (And.intro ?_ (And.intro ?_ (And.intro ?_ (And.intro ?_ (And.intro ?_ (And.intro ?_ (And.intro ?_ (And.intro ?_ (And.intro ?_ (And.intro ?_ (And.intro ?_ (And.intro ?_ (And.intro ?_ (And.intro ?_ trivial))))))))))))))
      · intro a w hb h
        exact .called (want0 rfl) rfl (by simp [go_sem]) (belowF (awake2_any w))
      · intro a w hb h
        have e14 := (sw h 14 (by kernel_rfl) (by kernel_rfl)).eq
        exact .val (want0 rfl) rfl (by simp [Act.eval, e14, go_sem]) (Keeps.is rfl)
      · intro a w hb h
        have eg := (sw h 15 (by kernel_rfl) (by kernel_rfl)).eq
        have e0 : a.tmps.getD 0 undef = .slice A n c := sb h 0 (by kernel_rfl) (by kernel_rfl) rfl
        exact .val (wantg rfl (by kernel_rfl) eg) rfl (by simp [Act.eval, e0, go_sem]) (Keeps.is rfl)
      · intro a w hb h
        have eg := (sw h 15 (by kernel_rfl) (by kernel_rfl)).eq
        have e1 : a.tmps.getD 1 undef = .slice A2 n2 c2 := sb h 1 (by kernel_rfl) (by kernel_rfl) rfl
        exact .val (wantg rfl (by kernel_rfl) eg) rfl (by simp [Act.eval, e1, go_sem]) (Keeps.is rfl)
      · intro a w hb h
        have eg := (sw h 15 (by kernel_rfl) (by kernel_rfl)).eq
        have e2 : a.tmps.getD 2 undef = .slice A3 n3 c3 := sb h 2 (by kernel_rfl) (by kernel_rfl) rfl
        exact .val (wantg rfl (by kernel_rfl) eg) rfl (by simp [Act.eval, e2, go_sem]) (Keeps.is rfl)
      · intro a w hb h
        have eg := (sw h 15 (by kernel_rfl) (by kernel_rfl)).eq
        have e16 := (sw h 16 (by kernel_rfl) (by kernel_rfl)).eq
        have e17 := (sw h 17 (by kernel_rfl) (by kernel_rfl)).eq
        have e18 := (sw h 18 (by kernel_rfl) (by kernel_rfl)).eq
        exact .called (wantg rfl (by kernel_rfl) eg) rfl (by simp [Act.eval, e16, e17, e18, go_sem]) (FP.out w hb)
      · intro a w hb h
        have eg := (sw h 15 (by kernel_rfl) (by kernel_rfl)).eq
        have e19 := sw h 19 (by kernel_rfl) (by kernel_rfl)
        obtain ⟨A', c', e', hc'⟩ := e19.now
        rw [e'] at hc'
        exact .val (wantg rfl (by kernel_rfl) eg) rfl (by simp [Act.eval, e', hc', go_sem]) (Keeps.is rfl)
      · intro a w hb h
        have eg := (sw h 15 (by kernel_rfl) (by kernel_rfl)).eq
        have e0 : a.tmps.getD 0 undef = .slice A n c := sb h 0 (by kernel_rfl) (by kernel_rfl) rfl
        exact .val (wantg rfl (by kernel_rfl) eg) rfl (by simp [Act.eval, e0, go_sem]) (Keeps.is rfl)
      · intro a w hb h
        have eg := (sw h 15 (by kernel_rfl) (by kernel_rfl)).eq
        have e1 : a.tmps.getD 1 undef = .slice A2 n2 c2 := sb h 1 (by kernel_rfl) (by kernel_rfl) rfl
        exact .val (wantg rfl (by kernel_rfl) eg) rfl (by simp [Act.eval, e1, go_sem]) (Keeps.is rfl)
      · intro a w hb h
        have eg := (sw h 15 (by kernel_rfl) (by kernel_rfl)).eq
        have e2 : a.tmps.getD 2 undef = .slice A3 n3 c3 := sb h 2 (by kernel_rfl) (by kernel_rfl) rfl
        exact .val (wantg rfl (by kernel_rfl) eg) rfl (by simp [Act.eval, e2, go_sem]) (Keeps.is rfl)
      · intro a w hb h
        have eg := (sw h 15 (by kernel_rfl) (by kernel_rfl)).eq
        have e21 := (sw h 21 (by kernel_rfl) (by kernel_rfl)).eq
        have e22 := (sw h 22 (by kernel_rfl) (by kernel_rfl)).eq
        have e23 := (sw h 23 (by kernel_rfl) (by kernel_rfl)).eq
        exact .called (wantg rfl (by kernel_rfl) eg) rfl (by simp [Act.eval, e21, e22, e23, go_sem]) (FR.out w hb)
      · intro a w hb h
        have eg := (sw h 15 (by kernel_rfl) (by kernel_rfl)).eq
        have e24 := sw h 24 (by kernel_rfl) (by kernel_rfl)
        obtain ⟨A', c', e', hc'⟩ := e24.now
        rw [e'] at hc'
        exact .val (wantg rfl (by kernel_rfl) eg) rfl (by simp [Act.eval, e', hc', go_sem]) (Keeps.is rfl)
      · intro a w hb h
        have eg := (sw h 15 (by kernel_rfl) (by kernel_rfl)).eq
        have e20 := (sw h 20 (by kernel_rfl) (by kernel_rfl)).eq
        have e25 := (sw h 25 (by kernel_rfl) (by kernel_rfl)).eq
        exact .val (wantg rfl (by kernel_rfl) eg) rfl (by simp [Act.eval, e20, e25, go_sem]) (Keeps.is rfl)
      · intro a w hb h
        have e15 := (sw h 15 (by kernel_rfl) (by kernel_rfl)).eq
        have e26 := (sw h 26 (by kernel_rfl) (by kernel_rfl)).eq
        exact .val (want0 rfl) rfl (by simp [Act.eval, e15, e26, go_sem]) (Keeps.is rfl)
      · intro a w hb h
        have e27 := (sw h 27 (by kernel_rfl) (by kernel_rfl)).eq
        exact .val (want0 rfl) rfl (by simp [Act.eval, e27, go_sem]) (Keeps.is rfl)
    · intro a w2 hd hb hv
      have er := hv.eq
      clear hv
      simp only [Exit.then]
      go_wp2
      exact ⟨hd, _, results_tmp rfl _ _ _, by rw [er], Hb1.out.trans (hb.mono Hb1.out.size)⟩
  · have Hfew := hide (decide_eq_false hfew)
    go_enter Try.func4, Try.ntmps4
    go_wp2_with fail
    (with_reducible refine (few_3 A A2 A3 n c n2 c2 n3 c3 w false Hfew.out.symm).mono ?_)
    rintro e w1 ⟨rfl, hw1⟩
    have Hb1 := hide (show Below w.heap.size w w1 by rw [← hw1]; exact (Below.refl _ w).alloc (Nat.le_refl _) _)
    clear hw1
    go_wp2_with fail
    refine (awake2_any _).mono ?_
    rintro e w2 ⟨rfl, hb2⟩
    have Hb2 := hide (Hb1.out.trans (hb2.mono Hb1.out.size))
    clear hb2
    go_wp2
    go_ret
    exact ⟨rfl, Hb2.out⟩
end Go.Proofs.Ytbcplfdbnfmhoaa
