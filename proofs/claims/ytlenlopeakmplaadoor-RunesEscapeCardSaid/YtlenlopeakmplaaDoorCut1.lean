/-
  CONTRACTS: strings.Cut at one byte.
-/
import Derived.Test.YtlenlopeakmplaaDoorNumd
namespace Go.Proofs.YtlenlopeakmplaaDoor
open Go.RowKit

theorem indexByte_span (l : List UInt8) (c : UInt8) : (l.dropWhile (· != c) = [] → Lib.indexByte l c = -1) ∧ (l.dropWhile (· != c) ≠ [] → Lib.indexByte l c = ((l.takeWhile (· != c)).length : Nat)) := by
  induction l with
  | nil => exact ⟨fun _ => rfl, fun h => absurd rfl h⟩
  | cons b l ih =>
    by_cases hb : b = c
    · subst hb
      rw [List.dropWhile_cons_of_neg (p := (· != b)) (by simp), List.takeWhile_cons_of_neg (p := (· != b)) (by simp)]
      refine ⟨fun h => absurd h (by simp), fun _ => ?_⟩
      unfold Lib.indexByte
      simp
    · have hp : (b != c) = true := by simpa using hb
      have hq : (b == c) = false := by simpa using hb
      rw [List.dropWhile_cons_of_pos (p := (· != c)) hp, List.takeWhile_cons_of_pos (p := (· != c)) hp]
      unfold Lib.indexByte
      rw [hq]
      refine ⟨fun h => ?_, fun h => ?_⟩
      · rw [ih.1 h]; rfl
      · rw [ih.2 h]
        have hne : (((l.takeWhile (· != c)).length : Nat) : Int) ≠ -1 := by omega
        simp [hne]

set_option maxRecDepth 100000 in
theorem index1_run (s sep : ByteArray) (c : UInt8) (w : World) (hsep : sep = ⟨#[c]⟩) : Calls Tryd.prog 70 #[.string s, .string sep] w fun e w' => e = .returned (.int .i64 (Lib.indexByte s.data.toList c)) ∧ w' = w := by
  have hib := Tryd.stringslite_IndexByte s (c.toNat : Int) w
  rw [show ((c.toNat : Int)).toNat.toUInt8 = c by simp] at hib
  have h1 : sep.size = 1 := by rw [hsep]; rfl
  have q0 : 0 < sep.size := by omega
  have hx : (sep[0]'q0).toNat = c.toNat := by subst hsep; rfl
  by_cases he : sep = s
  · have hr : Lib.indexByte s.data.toList c = 0 := by
      rw [← he, hsep]
      show Lib.indexByte [c] c = 0
      unfold Lib.indexByte
      simp
    rw [hr]
    have heq : (sep.toList == s.toList) = true := by rw [he]; exact beq_self_eq_true _
    clear hib hr hsep he
    go_enter Tryd.func70, Tryd.ntmps70
    go_wp2
    go_ret
    exact ⟨rfl, rfl⟩
  · generalize Lib.indexByte s.data.toList c = r at hib ⊢
    have heq : (sep.toList == s.toList) = false := by
      rw [beq_eq_false_iff_ne, ByteArray.toList_eq, ByteArray.toList_eq]
      intro h
      exact he (by rw [st_of sep, st_of s, h])
    clear he
    have Hsep := hide hsep
    clear hsep
    go_enter Tryd.func70, Tryd.ntmps70
    go_wp2_with (go_at_call 80; (with_reducible refine hib.mono ?_); rintro e w' ⟨rfl, rfl⟩)
    go_ret
    exact ⟨rfl, rfl⟩

/-- What Cut tells: ahead, behind, whether it was found. -/
def cutV (l : List UInt8) (c : UInt8) : Value :=
  match l.dropWhile (· != c) with
  | [] => .tuple #[.string (st l), .string ⟨#[]⟩, .bool false]
  | _ :: r => .tuple #[.string (st (l.takeWhile (· != c))), .string (st r), .bool true]

theorem cut1in (s sep : ByteArray) (c : UInt8) (w : World) (hsep : sep = ⟨#[c]⟩) (hs : s.size ≤ 1000000) : Calls Tryd.prog 57 #[.string s, .string sep] w fun e w' => e = .returned (cutV s.data.toList c) ∧ Below w.heap.size w w' := by
  have hix := index1_run s sep c w hsep
  have hsp := indexByte_span s.data.toList c
  have h1 : sep.size = 1 := by rw [hsep]; rfl
  clear hsep
  cases hd : s.data.toList.dropWhile (· != c) with
  | nil =>
    rw [hsp.1 hd] at hix
    have hcv : cutV s.data.toList c = .tuple #[.string s, .string ⟨#[]⟩, .bool false] := by unfold cutV; rw [hd]; show Value.tuple #[.string (st s.data.toList), _, _] = _; rw [← st_of]
    rw [hcv]
    clear hsp hd hcv
    go_enter Tryd.func57, Tryd.ntmps57
    go_wp2_with fail
    (with_reducible refine hix.mono ?_)
    rintro e w' ⟨rfl, rfl⟩
    go_wp2
    go_ret3
    exact ⟨rfl, Below.refl _ _⟩
  | cons b r =>
    have hne : s.data.toList.dropWhile (· != c) ≠ [] := by rw [hd]; simp
    rw [hsp.2 hne] at hix
    have happ : s.data.toList.takeWhile (· != c) ++ b :: r = s.data.toList := by rw [← hd, List.takeWhile_append_dropWhile]
    obtain ⟨k, hk⟩ : ∃ k, k = (s.data.toList.takeWhile (· != c)).length := ⟨_, rfl⟩
    have hks : k + 1 ≤ s.size := by
      have := congrArg List.length happ
      have e : s.data.toList.length = s.size := by rw [Array.length_toList]; rfl
      rw [List.length_append, List.length_cons, ← hk, e] at this
      omega
    have htk : s.data.toList.take k = s.data.toList.takeWhile (· != c) := by
      conv => lhs; rw [← happ]
      rw [hk]; simp
    have hdr : s.data.toList.drop (k + 1) = r := by
      conv => lhs; rw [← happ]
      rw [hk, List.drop_append]; simp
    have hcv : cutV s.data.toList c = .tuple #[.string (s.extract 0 k), .string (s.extract (k + 1) s.size), .bool true] := by
      unfold cutV; rw [hd]
      show Value.tuple #[.string (st _), .string (st r), _] = _
      rw [st_from, hdr, st_ext, List.drop_zero, htk]
    rw [hcv]
    rw [← hk] at hix
    clear hsp hd hcv htk hdr happ hk hne
    have g1 : (k : Int) ≤ (s.size : Int) := by omega
    have g2 : (k : Int) + 1 ≤ (s.size : Int) := by omega
    go_enter Tryd.func57, Tryd.ntmps57
    go_wp2_with fail
    (with_reducible refine hix.mono ?_)
    rintro e w' ⟨rfl, rfl⟩
    go_wp2
    go_quiet (fail)
    go_wp2
    go_ret3
    exact ⟨rfl, bel_drewN (Below.refl _ _) _⟩

theorem cut1_run (s sep : ByteArray) (c : UInt8) (w : World) (hsep : sep = ⟨#[c]⟩) (hs : s.size ≤ 1000000) : Calls Tryd.prog 46 #[.string s, .string sep] w fun e w' => e = .returned (cutV s.data.toList c) ∧ Below w.heap.size w w' := by
  have hin := cut1in s sep c w hsep hs
  obtain ⟨a, b, d, hv⟩ : ∃ a b d, cutV s.data.toList c = .tuple #[.string a, .string b, .bool d] := by
    unfold cutV; split
    · exact ⟨_, _, _, rfl⟩
    · exact ⟨_, _, _, rfl⟩
  rw [hv] at hin ⊢
  clear hv hsep
  go_enter Tryd.func46, Tryd.ntmps46
  go_wp2_with fail
  (with_reducible refine hin.mono ?_)
  rintro e w' ⟨rfl, hb⟩
  have Hb := hide hb
  clear hb hin
  go_wp2
  go_ret3
  exact ⟨rfl, Hb.out⟩

end Go.Proofs.YtlenlopeakmplaaDoor
