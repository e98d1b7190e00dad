/-
  CONTRACTS, slices.IndexFunc and slices.ContainsFunc at blocks and at bundles, whatever the predicate.
-/
import Derived.Test.YtlbgcbekjjkokaaBrow
import Derived.Shelf.GgClosure.Gives
namespace Go.Proofs.Ytlbgcbekjjkokaa
open Go.RowKit Go.Shelf Go.Lib

set_option maxHeartbeats 2000000 in
theorem indexB_any (g : Nat) (lb : Array Value) (eg : ∀ args w, (callFunc g args).run Try.prog w = .ok (.enter g args) w) (A : Option Addr) (n c B : Nat) (l : List Bk) (p : Bk → Bool) (w : World) (h : Lies w B A (l.flatMap Bk.cells)) (hn : n = l.length) (hB : B ≤ w.heap.size) (hbig : n ≤ 1000000000000)
    (hp : ∀ W, Below w.heap.size w W → ∀ k (hk : k < l.length), Calls Try.prog g (#[.agg (l[k]).cells.toArray] ++ lb) W fun e w' => e = .returned (.bool (p l[k])) ∧ Below W.heap.size W w') :
    Calls Try.prog 57 #[.slice A n c, .func (.func g) #[] lb] w fun e w' => e = .returned (.int .i64 (if l.any p then (l.findIdx p : Int) else -1)) ∧ Below w.heap.size w w' := by
  obtain ⟨z, hz⟩ : ∃ z : Int, z = (if l.any p then (l.findIdx p : Int) else -1) := ⟨_, rfl⟩
  rw [← hz]
  have Hz := hide hz
  have Hl := hide h
  have Hn := hide hn
  have Hp := hide hp
  clear hz h hn hp
  go_enter Try.func57, Try.ntmps57
  go_wp2
  go_loopw [5, 8] (fun s5 s8 wr => ∃ k : Nat, k ≤ n ∧ s8 = .int .i64 (k : Int) ∧ Below w.heap.size w wr ∧ Hid (∀ j (hj : j < l.length), j < k → p l[j] = false)) (fun s5 s8 wr => n - (intOf s8).toNat)
  case atStart => exact ⟨0, Nat.zero_le _, rfl, Below.refl _ w, hide (fun j hj h => by omega)⟩
  case round =>
    obtain ⟨k, hk, rfl, hbw, HF⟩ := hrel
    have Hbw := hide hbw
    have hzw := hbw.size
    clear hbw
    by_cases hlt : k < n
    · have hlt' : (k : Int) < (n : Int) := by omega
      have hkl : k < l.length := by rw [← Hn.out]; exact hlt
      obtain ⟨a, rfl, _, hca⟩ := (Hl.out.below (Hbw.out.mono hB)).elem (f := Bk.cells) (m := 5) Bk.cells_len hkl (by omega)
      have Hca := hide hca
      have hcall := Hp.out wr Hbw.out k hkl
      have Hhit := hide (show p l[k] = true → (k : Int) = z by
        intro ht
        have hany : l.any p = true := List.any_eq_true.2 ⟨l[k], List.getElem_mem hkl, ht⟩
        have hidx : l.findIdx p = k := by
          rw [List.findIdx_eq hkl]
          exact ⟨ht, fun j hj => by
            have := HF.out j (by omega) hj
            exact this⟩
        rw [Hz.out, if_pos hany, hidx])
      have HF2 := hide (show p l[k] = false → ∀ j (hj : j < l.length), j < k + 1 → p l[j] = false by
        intro hf j hj h1
        by_cases h2 : j = k
        · subst h2; exact hf
        · exact HF.out j hj (by omega))
      clear hca HF
      generalize l[k] = x at *
      cases hq : p x with
      | true =>
        rw [hq] at hcall
        have hkz := Hhit.out hq
        subst hkz
        clear HF2 hq Hp Hz Hhit
        go_wp2_with (first
          | (with_reducible refine wpl_load_addr rfl 31 (.tmp 14) rfl (a.add (k * 5)) _ Hca.out rfl _ Try.underlying31 rfl 5 info31 (by with_unfolding_all rfl) ?_)
          | (go_at_fn g; refine hcall.mono ?_; rintro e w' ⟨rfl, hb⟩))
        go_ret
        exact ⟨rfl, Hbw.out.trans (hb.mono hzw)⟩
      | false =>
        rw [hq] at hcall
        have HF3 := hide (HF2.out hq)
        clear HF2 hq Hp Hhit
        go_wp2_with (first
          | (with_reducible refine wpl_load_addr rfl 31 (.tmp 14) rfl (a.add (k * 5)) _ Hca.out rfl _ Try.underlying31 rfl 5 info31 (by with_unfolding_all rfl) ?_)
          | (go_at_fn g; refine hcall.mono ?_; rintro e w' ⟨rfl, hb⟩))
        go_roundw
        case rel => exact ⟨k + 1, by omega, by go_num, Hbw.out.trans (hb.mono hzw), HF3⟩
        case measure => simp [intOf]; omega
    · have hlt' : ¬ (k : Int) < (n : Int) := by omega
      have hz1 : z = -1 := by
        have hany : l.any p = false := by
          rw [List.any_eq_false]
          intro x hx
          obtain ⟨j, hj, rfl⟩ := List.getElem_of_mem hx
          rw [HF.out j hj (by have := Hn.out; omega)]; decide
        rw [Hz.out, if_neg (by rw [hany]; decide)]
      subst hz1
      clear Hp HF
      go_wp2
      go_ret
      exact ⟨rfl, Hbw.out⟩

theorem containsB_any (g : Nat) (lb : Array Value) (eg : ∀ args w, (callFunc g args).run Try.prog w = .ok (.enter g args) w) (A : Option Addr) (n c B : Nat) (l : List Bk) (p : Bk → Bool) (w : World) (h : Lies w B A (l.flatMap Bk.cells)) (hn : n = l.length) (hB : B ≤ w.heap.size) (hbig : n ≤ 1000000000000)
    (hp : ∀ W, Below w.heap.size w W → ∀ k (hk : k < l.length), Calls Try.prog g (#[.agg (l[k]).cells.toArray] ++ lb) W fun e w' => e = .returned (.bool (p l[k])) ∧ Below W.heap.size W w') :
    Calls Try.prog 48 #[.slice A n c, .func (.func g) #[] lb] w fun e w' => e = .returned (.bool (l.any p)) ∧ Below w.heap.size w w' := by
  have fp := indexB_any g lb eg A n c B l p w h hn hB hbig hp
  clear hp h hn
  cases hb : l.any p with
  | true =>
    rw [hb, if_pos rfl] at fp
    generalize List.findIdx p l = i at *
    clear hb
    go_enter Try.func48, Try.ntmps48
    go_wp2_with fail
    (with_reducible refine fp.mono ?_)
    rintro e w1 ⟨rfl, hb⟩
    have hi : (0 : Int) ≤ (i : Int) := by omega
    go_wp2
    go_ret
    exact ⟨rfl, hb⟩
  | false =>
    rw [hb, if_neg (by decide)] at fp
    clear hb
    go_enter Try.func48, Try.ntmps48
    go_wp2_with fail
    (with_reducible refine fp.mono ?_)
    rintro e w1 ⟨rfl, hb⟩
    go_wp2
    go_ret
    exact ⟨rfl, hb⟩

set_option maxHeartbeats 2000000 in
theorem indexN_any (g : Nat) (lb : Array Value) (eg : ∀ args w, (callFunc g args).run Try.prog w = .ok (.enter g args) w) (A : Option Addr) (n c B : Nat) (l : List Bn) (p : Bn → Bool) (w : World) (h : Lies w B A (l.flatMap Bn.cells)) (hn : n = l.length) (hB : B ≤ w.heap.size) (hbig : n ≤ 1000000000000)
    (hp : ∀ W, Below w.heap.size w W → ∀ k (hk : k < l.length), Calls Try.prog g (#[.agg (l[k]).cells.toArray] ++ lb) W fun e w' => e = .returned (.bool (p l[k])) ∧ Below W.heap.size W w') :
    Calls Try.prog 36 #[.slice A n c, .func (.func g) #[] lb] w fun e w' => e = .returned (.int .i64 (if l.any p then (l.findIdx p : Int) else -1)) ∧ Below w.heap.size w w' := by
  obtain ⟨z, hz⟩ : ∃ z : Int, z = (if l.any p then (l.findIdx p : Int) else -1) := ⟨_, rfl⟩
  rw [← hz]
  have Hz := hide hz
  have Hl := hide h
  have Hn := hide hn
  have Hp := hide hp
  clear hz h hn hp
  go_enter Try.func36, Try.ntmps36
  go_wp2
  go_loopw [5, 8] (fun s5 s8 wr => ∃ k : Nat, k ≤ n ∧ s8 = .int .i64 (k : Int) ∧ Below w.heap.size w wr ∧ Hid (∀ j (hj : j < l.length), j < k → p l[j] = false)) (fun s5 s8 wr => n - (intOf s8).toNat)
  case atStart => exact ⟨0, Nat.zero_le _, rfl, Below.refl _ w, hide (fun j hj h => by omega)⟩
  case round =>
    obtain ⟨k, hk, rfl, hbw, HF⟩ := hrel
    have Hbw := hide hbw
    have hzw := hbw.size
    clear hbw
    by_cases hlt : k < n
    · have hlt' : (k : Int) < (n : Int) := by omega
      have hkl : k < l.length := by rw [← Hn.out]; exact hlt
      obtain ⟨a, rfl, _, hca⟩ := (Hl.out.below (Hbw.out.mono hB)).elem (f := Bn.cells) (m := 25) Bn.cells_len hkl (by omega)
      have Hca := hide hca
      have hcall := Hp.out wr Hbw.out k hkl
      have Hhit := hide (show p l[k] = true → (k : Int) = z by
        intro ht
        have hany : l.any p = true := List.any_eq_true.2 ⟨l[k], List.getElem_mem hkl, ht⟩
        have hidx : l.findIdx p = k := by
          rw [List.findIdx_eq hkl]
          exact ⟨ht, fun j hj => by
            have := HF.out j (by omega) hj
            exact this⟩
        rw [Hz.out, if_pos hany, hidx])
      have HF2 := hide (show p l[k] = false → ∀ j (hj : j < l.length), j < k + 1 → p l[j] = false by
        intro hf j hj h1
        by_cases h2 : j = k
        · subst h2; exact hf
        · exact HF.out j hj (by omega))
      clear hca HF
      generalize l[k] = x at *
      cases hq : p x with
      | true =>
        rw [hq] at hcall
        have hkz := Hhit.out hq
        subst hkz
        clear HF2 hq Hp Hz Hhit
        go_wp2_with (first
          | (with_reducible refine wpl_load_addr rfl 33 (.tmp 14) rfl (a.add (k * 25)) _ Hca.out rfl _ Try.underlying33 rfl 25 info33 (by with_unfolding_all rfl) ?_)
          | (go_at_fn g; refine hcall.mono ?_; rintro e w' ⟨rfl, hb⟩))
        go_ret
        exact ⟨rfl, Hbw.out.trans (hb.mono hzw)⟩
      | false =>
        rw [hq] at hcall
        have HF3 := hide (HF2.out hq)
        clear HF2 hq Hp Hhit
        go_wp2_with (first
          | (with_reducible refine wpl_load_addr rfl 33 (.tmp 14) rfl (a.add (k * 25)) _ Hca.out rfl _ Try.underlying33 rfl 25 info33 (by with_unfolding_all rfl) ?_)
          | (go_at_fn g; refine hcall.mono ?_; rintro e w' ⟨rfl, hb⟩))
        go_roundw
        case rel => exact ⟨k + 1, by omega, by go_num, Hbw.out.trans (hb.mono hzw), HF3⟩
        case measure => simp [intOf]; omega
    · have hlt' : ¬ (k : Int) < (n : Int) := by omega
      have hz1 : z = -1 := by
        have hany : l.any p = false := by
          rw [List.any_eq_false]
          intro x hx
          obtain ⟨j, hj, rfl⟩ := List.getElem_of_mem hx
          rw [HF.out j hj (by have := Hn.out; omega)]; decide
        rw [Hz.out, if_neg (by rw [hany]; decide)]
      subst hz1
      clear Hp HF
      go_wp2
      go_ret
      exact ⟨rfl, Hbw.out⟩

theorem containsN_any (g : Nat) (lb : Array Value) (eg : ∀ args w, (callFunc g args).run Try.prog w = .ok (.enter g args) w) (A : Option Addr) (n c B : Nat) (l : List Bn) (p : Bn → Bool) (w : World) (h : Lies w B A (l.flatMap Bn.cells)) (hn : n = l.length) (hB : B ≤ w.heap.size) (hbig : n ≤ 1000000000000)
    (hp : ∀ W, Below w.heap.size w W → ∀ k (hk : k < l.length), Calls Try.prog g (#[.agg (l[k]).cells.toArray] ++ lb) W fun e w' => e = .returned (.bool (p l[k])) ∧ Below W.heap.size W w') :
    Calls Try.prog 22 #[.slice A n c, .func (.func g) #[] lb] w fun e w' => e = .returned (.bool (l.any p)) ∧ Below w.heap.size w w' := by
  have fp := indexN_any g lb eg A n c B l p w h hn hB hbig hp
  clear hp h hn
  cases hb : l.any p with
  | true =>
    rw [hb, if_pos rfl] at fp
    generalize List.findIdx p l = i at *
    clear hb
    go_enter Try.func22, Try.ntmps22
    go_wp2_with fail
    (with_reducible refine fp.mono ?_)
    rintro e w1 ⟨rfl, hb⟩
    have hi : (0 : Int) ≤ (i : Int) := by omega
    go_wp2
    go_ret
    exact ⟨rfl, hb⟩
  | false =>
    rw [hb, if_neg (by decide)] at fp
    clear hb
    go_enter Try.func22, Try.ntmps22
    go_wp2_with fail
    (with_reducible refine fp.mono ?_)
    rintro e w1 ⟨rfl, hb⟩
    go_wp2
    go_ret
    exact ⟨rfl, hb⟩

end Go.Proofs.Ytlbgcbekjjkokaa
