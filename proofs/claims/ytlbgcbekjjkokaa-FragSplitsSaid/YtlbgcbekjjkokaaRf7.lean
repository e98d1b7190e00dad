/-
  THE REFERENCE's Right of names (wagtailref07).
-/
import Derived.Test.YtlbgcbekjjkokaaEidr
namespace Go.Proofs.Ytlbgcbekjjkokaa
open Go.RowKit

theorem right_two {name : ByteArray} {node svc : Nat} {sch : Int} (h : sch = 2) : Nm.right ⟨sch, name, node, svc⟩ = name.toList.isEmpty := by
  have hsz : name.size = 0 ↔ name.toList.isEmpty = true := by
    rw [ByteArray.toList_eq, List.isEmpty_iff, ← List.length_eq_zero_iff, Array.length_toList]; exact Iff.rfl
  unfold Nm.right
  subst h
  by_cases hn : name.size = 0
  · simp [hn, hsz.1 hn]
  · have : name.toList.isEmpty = false := by
      cases hb : name.toList.isEmpty with
      | true => exact absurd (hsz.2 hb) hn
      | false => rfl
    simp [hn, this]
theorem right_other {name : ByteArray} {node svc : Nat} {sch : Int} (h : ¬ sch = 2) (h2 : ¬ (sch = 1 ∧ node = 0 ∧ svc = 0)) : Nm.right ⟨sch, name, node, svc⟩ = false := by
  unfold Nm.right; rw [decide_eq_false h, decide_eq_false h2]; rfl
theorem right_one {name : ByteArray} (h : ¬ name.size = 0) : Nm.right ⟨1, name, 0, 0⟩ = properB name := by
  unfold Nm.right; simp [h]
theorem right_none {name : ByteArray} (h : name.size = 0) : Nm.right ⟨1, name, 0, 0⟩ = true := by
  unfold Nm.right; simp [h]
theorem okB_at {l : List UInt8} {k : Nat} (hk : k < l.length) : okB (l.drop k) = (decide (33 ≤ (l.getD k 0).toNat ∧ (l.getD k 0).toNat ≤ 126) && okB (l.drop (k + 1))) := by
  unfold okB
  rw [List.drop_eq_getElem_cons hk, List.all_cons]
  simp [List.getD, List.getElem?_eq_getElem hk]

set_option maxHeartbeats 1000000 in
theorem ref7_any (e : Nm) (w : World) (hs : e.name.size ≤ 1000000000000) : Calls Try.prog 34 #[e.val] w fun r w' => r = .returned (.bool e.right) ∧ Below w.heap.size w w' := by
  rcases e with ⟨sch, name, node, svc⟩
  have Hb := hide (fun o => (Below.refl w.heap.size w).alloc (Nat.le_refl _) o)
  simp only at hs
  simp only [Nm.val, Nm.cells]
  by_cases h2 : sch = 2
  · rw [right_two h2]
    go_enter Try.func34, Try.ntmps34
    go_wp2
    go_ret
    exact ⟨rfl, Hb.out _⟩
  by_cases h1 : sch = 1
  · by_cases hn0 : node = 0
    · by_cases hs0 : svc = 0
      · subst h1 hn0 hs0
        clear h2
        simp only [Int.natCast_zero]
        have hsz : name.toList.length = name.size := by rw [ByteArray.toList_eq, Array.length_toList]; rfl
        by_cases hz : name.size = 0
        · rw [right_none hz]
          have he : name.toList.isEmpty = true := by rw [List.isEmpty_iff, ← List.length_eq_zero_iff, hsz, hz]
          clear hz hsz
          go_enter Try.func34, Try.ntmps34
          go_wp2
          go_ret
          exact ⟨rfl, Hb.out _⟩
        have he : name.toList.isEmpty = false := by
          cases hl : name.toList with
          | nil => rw [hl] at hsz; simp only [List.length_nil] at hsz; omega
          | cons => rfl
        rw [right_one hz]
        unfold properB
        by_cases h3 : name.size < 3
        · rw [decide_eq_false (show ¬ (3 ≤ name.size ∧ name.size ≤ 64) by omega)]
          have h3' : (name.size : Int) < 3 := by omega
          clear hz hsz h3
          go_enter Try.func34, Try.ntmps34
          go_wp2
          go_ret
          exact ⟨rfl, Hb.out _⟩
        have h3' : ¬ (name.size : Int) < 3 := by omega
        by_cases h64 : 64 < name.size
        · rw [decide_eq_false (show ¬ (3 ≤ name.size ∧ name.size ≤ 64) by omega)]
          have h64' : (64 : Int) < (name.size : Int) := by omega
          clear hz hsz h3 h64
          go_enter Try.func34, Try.ntmps34
          go_wp2
          go_ret
          exact ⟨rfl, Hb.out _⟩
        have h64' : ¬ (64 : Int) < (name.size : Int) := by omega
        rw [decide_eq_true (show (3 ≤ name.size ∧ name.size ≤ 64) by omega)]
        unfold slashB
        have h2s : (2 : Int) ≤ (name.size : Int) := by omega
        cases hb : ((name.extract 0 2).toList == [47, 47]) with
        | false =>
          clear hz hsz h3 h64
          go_enter Try.func34, Try.ntmps34
          go_wp2
          go_ret
          exact ⟨rfl, Hb.out _⟩
        | true =>
          have hlen : name.data.toList.length = name.size := by rw [Array.length_toList]; rfl
          obtain ⟨R, hR⟩ : ∃ R, R = okB name.data.toList := ⟨_, rfl⟩
          rw [← hR]
          simp only [Bool.true_and]
          have HR := hide hR
          clear hz hsz hR
          go_enter Try.func34, Try.ntmps34
          go_wp2
          go_loop [4] (fun i => ∃ k : Nat, k ≤ name.size ∧ i = .int .i64 (k : Int) ∧ Hid (okB (name.data.toList.drop k) = R)) (fun i => name.size - (intOf i).toNat)
          case atStart => exact ⟨0, Nat.zero_le _, rfl, hide (by rw [List.drop_zero]; exact HR.out.symm)⟩
          case round =>
            obtain ⟨k, hk, rfl, HK⟩ := hrel
            by_cases hlt : k < name.size
            · have hlt' : (k : Int) < (name.size : Int) := by omega
              have hat := okB_at (l := name.data.toList) (k := k) (by omega)
              have hget : name.data.toList.getD k 0 = name[k] := by
                simp [List.getD, List.getElem?_eq_getElem (show k < name.data.toList.length by omega)]; rfl
              rw [hget, HK.out] at hat
              by_cases hx1 : 33 ≤ name[k].toNat
              · have g1 : ¬ ((name[k].toNat : Int) ≤ 32) := by omega
                by_cases hx2 : name[k].toNat ≤ 126
                · have g2 : ¬ (127 ≤ (name[k].toNat : Int)) := by omega
                  rw [decide_eq_true (show 33 ≤ name[k].toNat ∧ name[k].toNat ≤ 126 from ⟨hx1, hx2⟩), Bool.true_and] at hat
                  have Hat := hide hat
                  clear hat hx1 hx2 HK hget
                  go_wp2
                  go_round
                  case rel => exact ⟨k + 1, by omega, by go_num, hide Hat.out.symm⟩
                  case measure => simp [intOf]; omega
                · have g2 : (127 ≤ (name[k].toNat : Int)) := by omega
                  rw [decide_eq_false (show ¬ (33 ≤ name[k].toNat ∧ name[k].toNat ≤ 126) from fun h => hx2 h.2), Bool.false_and] at hat
                  subst hat
                  clear hx1 hx2 HK hget
                  go_wp2
                  go_ret
                  exact ⟨rfl, Hb.out _⟩
              · have g1 : ((name[k].toNat : Int) ≤ 32) := by omega
                rw [decide_eq_false (show ¬ (33 ≤ name[k].toNat ∧ name[k].toNat ≤ 126) from fun h => hx1 h.1), Bool.false_and] at hat
                subst hat
                clear hx1 HK hget
                go_wp2
                go_ret
                exact ⟨rfl, Hb.out _⟩
            · have hlt' : ¬ (k : Int) < (name.size : Int) := by omega
              have hat : R = true := by
                rw [← HK.out, List.drop_eq_nil_of_le (by omega)]; rfl
              subst hat
              clear HK
              go_wp2
              go_ret
              exact ⟨rfl, Hb.out _⟩
      · rw [right_other h2 (fun h => hs0 h.2.2)]
        have : ¬ (svc : Int) = 0 := by omega
        subst h1 hn0
        go_enter Try.func34, Try.ntmps34
        go_wp2
        go_ret
        exact ⟨rfl, Hb.out _⟩
    · rw [right_other h2 (fun h => hn0 h.2.1)]
      have : ¬ (node : Int) = 0 := by omega
      subst h1
      go_enter Try.func34, Try.ntmps34
      go_wp2
      go_ret
      exact ⟨rfl, Hb.out _⟩
  · rw [right_other h2 (fun h => h1 h.1)]
    go_enter Try.func34, Try.ntmps34
    go_wp2
    go_ret
    exact ⟨rfl, Hb.out _⟩

end Go.Proofs.Ytlbgcbekjjkokaa
