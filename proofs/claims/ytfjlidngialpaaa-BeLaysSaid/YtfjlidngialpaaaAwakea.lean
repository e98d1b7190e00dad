/-
  'awake' of layer 1 answers true, whatever the world.
-/
import Derived.Test.YtfjlidngialpaaaRdr
import Derived.Test.YtfjlidngialpaaaRow
namespace Go.Proofs.Ytfjlidngialpaaa
open Go.RowKit

theorem strU8 {w : World} {B : Nat} {A : Option Addr} {l : List UInt8} {n : Nat} (c : Nat) (h : Lies w B A (bys l)) (hn : n = l.length) : (convert 22 9 (.slice A n c)).run Try.prog w = .ok (.string (str l)) w :=
  run_str 22 9 5 n c h hn Try.underlying22 Try.underlying5 Try.underlying9

theorem own_str {w : World} {base m c : Nat} {A : Option Addr} {l : List UInt8} {n : Nat} (h : w.ownsRow base 5 1 (.slice A m c) n (bys l)) (hm : m = n) : (convert 22 9 (.slice A m c)).run Try.prog w = .ok (.string (str l)) w :=
  strU8 c (Lies.of_own h) (by have := h.1; rw [bys_len] at this; omega)

set_option maxHeartbeats 1000000 in
theorem awake1_any (w : World) : Calls Try.prog 6 #[] w fun e w' => e = .returned (.bool true) ∧ Below w.heap.size w w' := by
  go_enter Try.func6, Try.ntmps6
  go_wp2_with fail
  refine (put_any (some ⟨w.heap.size, 0, none⟩) 1 1 (w.heap.size + 1) [9] 2 258 _ (Lies.new w #[.int .u8 9] 5 (0, 0) _ (by omega)) rfl (by omega) (by omega)).mono ?_
  rintro e w1 ⟨v1, rfl, ho1, hb1⟩
  obtain ⟨A1, c1, rfl, _, _⟩ := own_form ho1
  have e1 : ([9] ++ beB (min (max (2 : Int) 0) 8).toNat (258 : Int).toNat) = [9, 1, 2] := by decide
  have e2 : 1 + (min (max (2 : Int) 0) 8).toNat = 3 := by decide
  rw [e1] at ho1
  rw [e2] at ho1 ⊢
  clear e1 e2
  simp only [World.size_alloc] at ho1 hb1
  have Ho1 := hide ho1
  have Hb1 := hide (((Below.refl w.heap.size w).alloc (Nat.le_refl _) (.cells #[.int .u8 9] 5)).trans (hb1.mono (by omega)))
  clear ho1 hb1
  go_wp2_with fail
  refine (over_any A1 3 c1 w1.heap.size [9, 1, 2] _ (Lies.of_own Ho1.out) rfl (by omega)).mono ?_
  rintro e w2 ⟨g, rfl, hgl, hr2, hb2⟩
  have Hl2 := hide ((Lies.of_own Ho1.out).below hb2)
  have Hr2 := hide hr2
  have Hb2 := hide (Hb1.out.trans (hb2.mono Hb1.out.size))
  have Hgl := hide (Nat.le_trans Hb1.out.size hgl)
  clear hr2 hb2 hgl
  have hs2 : (convert 22 9 (.slice A1 3 c1)).run Try.prog w2 = .ok (.string ⟨#[9, 1, 2]⟩) w2 := strU8 c1 Hl2.out rfl
  go_wp2_with fail
  refine (get_any A1 3 c1 w1.heap.size [9, 1, 2] 1 2 _ Hl2.out rfl (by omega) (by omega) (by omega)).mono ?_
  rintro e w3 ⟨rfl, rfl⟩
  rw [show (numAt [9, 1, 2] 1 (min (max (2 : Int) 0) 8).toNat : Int) = 258 by decide]
  go_wp2_with fail
  refine (n_any g [9, 1, 2] false 3 _ Hr2.out (by omega) (by omega)).mono ?_
  rintro e w3 ⟨x, rfl, hx, hgr⟩
  obtain ⟨rfl, hr3⟩ : x = 590082 ∧ Rdr w3 g [] false := by
    rcases hx with ⟨_, _, _, h1, h2⟩ | ⟨h, _⟩
    · exact ⟨h1.trans (by decide), h2⟩
    · exact absurd ⟨by omega, by omega, by simp⟩ h
  have Hr3 := hide hr3
  have Hb3 := hide (Hb2.out.grown hgr Hb2.out.size (fun k hk => by injection hk with hk; rw [← hk]; exact Hgl.out))
  clear hx hr3 hgr hs2
  go_wp2_with fail
  refine (end_any g [] false _ Hr3.out).mono ?_
  rintro e w4 ⟨rfl, rfl⟩
  go_wp2_with fail
  refine (row_any (some ⟨w3.heap.size, 0, none⟩) 4 4 (w3.heap.size + 1) [1, 5, 2, 6] _ (Lies.new w3 #[.int .u64 1, .int .u64 5, .int .u64 2, .int .u64 6] 23 (0, 0) _ (by omega)) rfl (by simp) (by omega)).mono ?_
  rintro e w5 ⟨A5, m5, c5, rfl, ho5, hb5⟩
  simp only [World.size_alloc] at ho5 hb5
  have hs5 : (convert 22 9 (.slice A5 m5 c5)).run Try.prog w5 = .ok (.string ⟨#[5, 0, 6]⟩) w5 := own_str (l := [5, 0, 6]) ho5 rfl
  have hb6 := (Hb3.out.alloc Hb3.out.size (.cells #[.int .u64 1, .int .u64 5, .int .u64 2, .int .u64 6] 23)).trans (hb5.mono (by have := Hb3.out.size; omega))
  have Hb6 := hide hb6
  clear ho5 hb5 hb6
  go_wp2
  go_ret
  exact ⟨rfl, Hb6.out⟩

end Go.Proofs.Ytfjlidngialpaaa
