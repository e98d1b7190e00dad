/-
  RunesParts, walked.
-/
import Derived.Test.YtlenlopeakmplaaDoorAwaked
namespace Go.Proofs.YtlenlopeakmplaaDoor
open Go.RowKit

set_option maxHeartbeats 4000000 in
set_option maxRecDepth 1000000 in
theorem runesParts_any (s : ByteArray) (w : World) (hR : Ready w) : Calls Tryd.prog 4 #[.string s] w fun e w' => e = .returned (.bool true) ∧ Below w.heap.size w w' := by
  have hRs := hR.size
  have haw := awake_run w hR
  by_cases hlen : s.size ≤ 300
  · have h1 : ¬ (300 : Int) < (s.size : Int) := by omega
    have hW : ∀ W, Below w.heap.size w W → Calls Tryd.prog 15 #[.string s] W fun e W' => ∃ A c, e = .returned (.slice A (spl 32 9 true [] s.data.toList).length c) ∧ Lies W' W'.heap.size A (strs (spl 32 9 true [] s.data.toList)) ∧ Below w.heap.size w W' := fun W hW =>
      (words_run s W (by omega)).mono fun e W' ⟨A, c, he, hl, hb⟩ => ⟨A, c, he, hl, hW.trans (hb.mono hW.size)⟩
    have hL : ∀ W, Below w.heap.size w W → Calls Tryd.prog 17 #[.string s] W fun e W' => ∃ A c, e = .returned (.slice A (spl 10 10 false [] s.data.toList).length c) ∧ Lies W' W'.heap.size A (strs (spl 10 10 false [] s.data.toList)) ∧ Below w.heap.size w W' := fun W hW =>
      (lines_run s W (by omega)).mono fun e W' ⟨A, c, he, hl, hb⟩ => ⟨A, c, he, hl, hW.trans (hb.mono hW.size)⟩
    have hS1 : ∀ W (A : Option Addr) (ls : List (List UInt8)), Below w.heap.size w W → Lies W W.heap.size A (strs ls) → Calls Tryd.prog 16 #[.string s, .int .u8 32, .int .u8 9, .bool true] W fun e W' => ∃ A' c', e = .returned (.slice A' (spl 32 9 true [] s.data.toList).length c') ∧ Lies W' W'.heap.size A' (strs (spl 32 9 true [] s.data.toList)) ∧ Lies W' W'.heap.size A (strs ls) ∧ Below w.heap.size w W' := fun W A ls hW hl =>
      (ref_split s 32 9 true W (by omega)).mono fun e W' ⟨A', c', he, ho, hb⟩ => ⟨A', c', he, Lies.of_own ho, (hl.below hb).up hb.size, hW.trans (hb.mono hW.size)⟩
    have hS2 : ∀ W (A : Option Addr) (ls : List (List UInt8)), Below w.heap.size w W → Lies W W.heap.size A (strs ls) → Calls Tryd.prog 16 #[.string s, .int .u8 10, .int .u8 10, .bool false] W fun e W' => ∃ A' c', e = .returned (.slice A' (spl 10 10 false [] s.data.toList).length c') ∧ Lies W' W'.heap.size A' (strs (spl 10 10 false [] s.data.toList)) ∧ Lies W' W'.heap.size A (strs ls) ∧ Below w.heap.size w W' := fun W A ls hW hl =>
      (ref_split s 10 10 false W (by omega)).mono fun e W' ⟨A', c', he, ho, hb⟩ => ⟨A', c', he, Lies.of_own ho, (hl.below hb).up hb.size, hW.trans (hb.mono hW.size)⟩
    have hsl : ∀ a b few (part l : List UInt8), (spl a b few part l).length ≤ l.length + 1 := by
      intro a b few part l
      induction l generalizing part with
      | nil => unfold spl; split <;> simp
      | cons c r ih =>
        unfold spl
        split
        · have := ih (part ++ [c]); simp; omega
        · rw [List.length_append]
          have := ih []
          split <;> (simp; omega)
    have hdl : s.data.toList.length = s.size := by rw [Array.length_toList]; rfl
    obtain ⟨R1, hR1⟩ : ∃ R1, R1 = spl 32 9 true [] s.data.toList := ⟨_, rfl⟩
    obtain ⟨R2, hR2⟩ : ∃ R2, R2 = spl 10 10 false [] s.data.toList := ⟨_, rfl⟩
    have hl1 : R1.length ≤ 301 := by rw [hR1]; have := hsl 32 9 true [] s.data.toList; omega
    have hl2 : R2.length ≤ 301 := by rw [hR2]; have := hsl 10 10 false [] s.data.toList; omega
    rw [← hR1] at hW hS1
    rw [← hR2] at hL hS2
    clear hsl hdl hR1 hR2 hlen hR
    have hT : ∀ W (A A' : Option Addr) (n c c' : Nat) (ls : List (List UInt8)), n = ls.length → n ≤ 301 → Below w.heap.size w W → Lies W W.heap.size A (strs ls) → Lies W W.heap.size A' (strs ls) → Calls Tryd.prog 14 #[.slice A n c, .slice A' n c'] W fun e W' => e = .returned (.bool true) ∧ Below w.heap.size w W' := fun W A A' n c c' ls hn hb' hW h1 h2 =>
      (texts_same A A' n c c' W.heap.size ls W h1 h2 hn (by omega)).mono fun e W' ⟨he, hb⟩ => ⟨he, hW.trans (hb.mono hW.size)⟩
    obtain ⟨n1, hn1⟩ : ∃ n, n = R1.length := ⟨_, rfl⟩
    obtain ⟨n2, hn2⟩ : ∃ n, n = R2.length := ⟨_, rfl⟩
    rw [← hn1] at hW hS1 hl1
    rw [← hn2] at hL hS2 hl2
    have Hn1 := hide hn1
    have Hn2 := hide hn2
    clear hn1 hn2
    go_enter Tryd.func4, Tryd.ntmps4
    go_wp2_with (first
      | (go_at_call 7; (with_reducible refine haw.mono ?_); rintro e w1 ⟨rfl, hb⟩; have B1 := hide hb; clear hb haw)
      | (go_at_call 15; (with_reducible refine (hW w1 B1.out).mono ?_); rintro e w2 ⟨A, c, rfl, hl, hb⟩; have L2 := hide hl; have B2 := hide hb; clear hb hl hW)
      | (go_at_call 16; (with_reducible refine (hS1 w2 A R1 B2.out L2.out).mono ?_); rintro e w3 ⟨A', c', rfl, hl, hl', hb⟩; have L3 := hide hl; have L3' := hide hl'; have B3 := hide hb; clear hb hl hl' hS1)
      | (go_at_call 14; (with_reducible refine (hT w3 A A' n1 c c' R1 Hn1.out hl1 B3.out L3'.out L3.out).mono ?_); rintro e w4 ⟨rfl, hb⟩; have B4 := hide hb; clear hb hl1)
      | (go_at_call 17; (with_reducible refine (hL w4 B4.out).mono ?_); rintro e w5 ⟨D, k, rfl, hl, hb⟩; have L5 := hide hl; have B5 := hide hb; clear hb hl hL)
      | (go_at_call 16; (with_reducible refine (hS2 w5 D R2 B5.out L5.out).mono ?_); rintro e w6 ⟨D', k', rfl, hl, hl', hb⟩; have L6 := hide hl; have L6' := hide hl'; have B6 := hide hb; clear hb hl hl' hS2)
      | (go_at_call 14; (with_reducible refine (hT w6 D D' n2 k k' R2 Hn2.out hl2 B6.out L6'.out L6.out).mono ?_); rintro e w7 ⟨rfl, hb⟩; have B7 := hide hb; clear hb hl2))
    go_ret
    exact ⟨rfl, B7.out⟩
  · have h1 : (300 : Int) < (s.size : Int) := by omega
    clear hR
    go_enter Tryd.func4, Tryd.ntmps4
    go_wp2_with (go_at_call 7; (with_reducible refine haw.mono ?_); rintro e w1 ⟨rfl, hb⟩; have B1 := hide hb; clear hb haw)
    go_ret
    exact ⟨rfl, B1.out⟩

end Go.Proofs.YtlenlopeakmplaaDoor
