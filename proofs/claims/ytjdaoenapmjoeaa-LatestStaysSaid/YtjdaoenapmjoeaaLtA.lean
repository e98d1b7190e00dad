/-
  LAYER 19, CONTRACTS: Highest; IndexFunc and ContainsFunc at finds; Broken.
-/
import Derived.Test.YtjdaoenapmjoeaaLtM
import Derived.Shelf.GgClosure.Gives
namespace Go.Proofs.Ytjdaoenapmjoeaa
open Go.RowKit Go.Shelf Go.Lib
set_option maxRecDepth 8000

set_option maxHeartbeats 4000000 in
theorem high_any (A : Option Addr) (n c B : Nat) (l : List Fo) (w : World) (hl : Lies w B A (rowO l)) (hB : B ≤ w.heap.size) (hn : n = l.length) (hbig : n ≤ 2000) :
    Calls Try.prog 12 #[.slice A n c] w fun e w' => e = .returned (.tuple #[.int .u64 (hiO l), .bool (decide (0 < n))]) ∧ Below w.heap.size w w' := by
  have HL := hide hl
  have HB := hide hB
  have Hn := hide hn
  have Hbig := hide hbig
  have S0 : Hid (hiO (l.take 0) = 0) := hide rfl
  clear hl hn hbig hB
  go_enter Try.func12, Try.ntmps12
  go_wp2
  go_loopw [4, 6, 9] (fun h _ i wr => ∃ k : Nat, k ≤ n ∧ h = .int .u64 (hiO (l.take k)) ∧ i = .int .i64 (k : Int) ∧ Hid (Below w.heap.size w wr)) (fun _ _ i _ => n - (intOf i).toNat)
  case atStart => exact ⟨0, Nat.zero_le _, rfl, rfl, hide (Below.refl _ _)⟩
  case round =>
    clear S0
    obtain ⟨k, hk, rfl, rfl, HW⟩ := hrel
    by_cases hlt : k < n
    · have hlt' : (k : Int) < (n : Int) := by omega
      have e7 : wrap64 ((k : Int) + 1) = ((k + 1 : Nat) : Int) := by have := Hbig.out; unfold wrap64; omega
      have hnl : k < l.length := by rw [← Hn.out]; exact hlt
      obtain ⟨ad, rfl, hab, hca⟩ := (HL.out.below (HW.out.mono HB.out)).elem Fo.cells_len hnl (by decide)
      have Hca := hide hca
      have Hnx := hide (hiO_next hnl)
      generalize hiO (l.take k) = h0 at *
      generalize l[k] = f at *
      clear hnl hca hab
      rcases f with ⟨fx, fy, kd, ix, ct, bt, op, lp, ln⟩
      have HX4 := hide (BoxO.new ⟨fx, fy, kd, ix, ct, bt, op, lp, ln⟩ wr)
      have HA4 := hide (HW.out.alloc HW.out.size (.cells (Fo.cells ⟨fx, fy, kd, ix, ct, bt, op, lp, ln⟩).toArray 34))
      unfold Fo.cells at *
      dsimp only at *
      go_upto_region 5 with (with_reducible refine wpl_load_addr rfl 34 (.tmp 11) rfl (ad.add (k * 9)) _ Hca.out rfl _ Try.underlying34 rfl 9 infoFo rfl ?_)
      generalize wr.alloc (.cells #[.int .i64 fx, .int .i64 fy, .int .i64 kd, .int .i64 ix, .int .i64 ct, .int .u64 bt, .int .u64 op, .int .i64 lp, .int .i64 ln] 34) = w4 at *
      have x5 := HX4.out.c 5 _ rfl
      go_wp2
      go_roundw
      case rel => exact ⟨k + 1, hlt, congrArg (Value.int .u64) Hnx.out.symm, congrArg (Value.int .i64) e7, HA4⟩
      case measure => first | exact measT hlt | exact measT2 e7 hlt
    · obtain rfl : k = n := by omega
      have e : l.take k = l := List.take_of_length_le (by rw [← Hn.out]; exact Nat.le_refl _)
      rw [e]
      have HW2 := hide HW.out
      clear HW
      go_wp2
      refine bodyPost_ret (results_tmp2 rfl _ _ _) rfl ?_
      exact ⟨by first | rfl | simp, HW2.out⟩

/-! ### IndexFunc, ContainsFunc -/
set_option maxHeartbeats 4000000 in
theorem indexF_any (g : Nat) (lb : Array Value) (eg : ∀ args w, (callFunc g args).run Try.prog w = .ok (.enter g args) w) (A : Option Addr) (n c B : Nat) (l : List Fo) (p : Fo → Bool) (w : World) (h : Lies w B A (rowO l)) (hn : n = l.length) (hB : B ≤ w.heap.size) (hbig : n ≤ 2000)
    (hp : ∀ W, Below w.heap.size w W → ∀ k (hk : k < l.length), Calls Try.prog g (#[.agg (l[k]).cells.toArray] ++ lb) W fun e w' => e = .returned (.bool (p l[k])) ∧ Below W.heap.size W w') :
    Calls Try.prog 37 #[.slice A n c, .func (.func g) #[] lb] w fun e w' => e = .returned (.int .i64 (if l.any p then (l.findIdx p : Int) else -1)) ∧ Below w.heap.size w w' := by
  obtain ⟨z, hz⟩ : ∃ z : Int, z = (if l.any p then (l.findIdx p : Int) else -1) := ⟨_, rfl⟩
  rw [← hz]
  have Hz := hide hz
  have Hl := hide h
  have Hn := hide hn
  have Hp := hide hp
  have Hbig := hide hbig
  clear hz h hn hp hbig
  go_enter Try.func37, Try.ntmps37
  go_wp2
  go_loopw [5, 8] (fun _ i wr => ∃ k : Nat, k ≤ n ∧ i = .int .i64 (k : Int) ∧ Hid (Below w.heap.size w wr) ∧ Hid (∀ j (hj : j < l.length), j < k → p l[j] = false)) (fun _ i _ => n - (intOf i).toNat)
  case atStart => exact ⟨0, Nat.zero_le _, rfl, hide (Below.refl _ w), hide (fun j hj h => by omega)⟩
  case round =>
    obtain ⟨k, hk, rfl, Hbw, HF⟩ := hrel
    by_cases hlt : k < n
    · have hlt' : (k : Int) < (n : Int) := by omega
      have hkl : k < l.length := by rw [← Hn.out]; exact hlt
      have e7 : wrap64 ((k : Int) + 1) = ((k + 1 : Nat) : Int) := by have := Hbig.out; unfold wrap64; omega
      obtain ⟨a, rfl, _, hca⟩ := (Hl.out.below (Hbw.out.mono hB)).elem (f := Fo.cells) (m := 9) Fo.cells_len hkl (by omega)
      have Hca := hide hca
      have hcall := Hp.out wr Hbw.out k hkl
      have Hhit := hide (show p l[k] = true → (k : Int) = z by
        intro ht
        have hany : l.any p = true := List.any_eq_true.2 ⟨l[k], List.getElem_mem hkl, ht⟩
        have hidx : l.findIdx p = k := by
          rw [List.findIdx_eq hkl]
          exact ⟨ht, fun j hj => HF.out j (by omega) hj⟩
        rw [Hz.out, if_pos hany, hidx])
      have HF2 := hide (show p l[k] = false → ∀ j (hj : j < l.length), j < k + 1 → p l[j] = false by
        intro hf j hj h1
        by_cases h2 : j = k
        · subst h2; exact hf
        · exact HF.out j hj (by omega))
      clear hca HF
      generalize l[k] = x at *
      clear hkl
      unfold Fo.cells at *
      cases hq : p x with
      | true =>
        rw [hq] at hcall
        have hkz := Hhit.out hq
        subst hkz
        clear HF2 hq Hp Hz Hhit
        go_wp2_with (first
          | (with_reducible refine wpl_load_addr rfl 34 (.tmp 14) rfl (a.add (k * 9)) _ Hca.out rfl _ Try.underlying34 rfl 9 infoFo (by with_unfolding_all rfl) ?_)
          | (go_at_fn g; refine hcall.mono ?_; rintro e w' ⟨rfl, hb⟩))
        go_ret
        exact ⟨rfl, Hbw.out.trans (hb.mono Hbw.out.size)⟩
      | false =>
        rw [hq] at hcall
        have HF3 := hide (HF2.out hq)
        clear HF2 hq Hp Hhit
        go_wp2_with (first
          | (with_reducible refine wpl_load_addr rfl 34 (.tmp 14) rfl (a.add (k * 9)) _ Hca.out rfl _ Try.underlying34 rfl 9 infoFo (by with_unfolding_all rfl) ?_)
          | (go_at_fn g; refine hcall.mono ?_; rintro e w' ⟨rfl, hb⟩))
        go_roundw
        case rel => exact ⟨k + 1, hlt, congrArg (Value.int .i64) e7, hide (Hbw.out.trans (hb.mono Hbw.out.size)), HF3⟩
        case measure => first | exact measT hlt | exact measT2 e7 hlt
    · have hlt' : ¬ (k : Int) < (n : Int) := by omega
      have hz1 : z = -1 := by
        have hany : l.any p = false := by
          rw [List.any_eq_false]
          intro x hx
          obtain ⟨j, hj, rfl⟩ := List.getElem_of_mem hx
          rw [HF.out j hj (by have := Hn.out; omega)]; decide
        rw [Hz.out, if_neg (by rw [hany]; decide)]
      subst hz1
      go_wp2
      go_ret
      exact ⟨rfl, Hbw.out⟩
theorem containsF_any (g : Nat) (lb : Array Value) (eg : ∀ args w, (callFunc g args).run Try.prog w = .ok (.enter g args) w) (A : Option Addr) (n c B : Nat) (l : List Fo) (p : Fo → Bool) (w : World) (h : Lies w B A (rowO l)) (hn : n = l.length) (hB : B ≤ w.heap.size) (hbig : n ≤ 2000)
    (hp : ∀ W, Below w.heap.size w W → ∀ k (hk : k < l.length), Calls Try.prog g (#[.agg (l[k]).cells.toArray] ++ lb) W fun e w' => e = .returned (.bool (p l[k])) ∧ Below W.heap.size W w') :
    Calls Try.prog 26 #[.slice A n c, .func (.func g) #[] lb] w fun e w' => e = .returned (.bool (l.any p)) ∧ Below w.heap.size w w' := by
  have fp := indexF_any g lb eg A n c B l p w h hn hB hbig hp
  clear hp h hn
  cases hb : l.any p with
  | true =>
    rw [hb, if_pos rfl] at fp
    generalize List.findIdx p l = i at *
    clear hb
    go_enter Try.func26, Try.ntmps26
    go_wp2_with fail
    (with_reducible refine fp.mono ?_)
    rintro e w1 ⟨rfl, hb⟩
    have hi : (0 : Int) ≤ (i : Int) := by omega
    go_wp2
    go_ret
    exact ⟨rfl, hb⟩
  | false =>
    rw [hb, if_neg (by decide)] at fp
    clear hb
    go_enter Try.func26, Try.ntmps26
    go_wp2_with fail
    (with_reducible refine fp.mono ?_)
    rintro e w1 ⟨rfl, hb⟩
    go_wp2
    go_ret
    exact ⟨rfl, hb⟩

/-! ### Broken -/
set_option maxHeartbeats 4000000 in
theorem ends_any (q : Nat) (h : Int) (f : Fo) (w : World) (hq : w.cell? ⟨q, 0, none⟩ = some (.int .u64 h)) :
    Calls Try.prog 25 #[.agg f.cells.toArray, .pointer (some ⟨q, 0, none⟩)] w fun e w' => e = .returned (.bool (endO h f)) ∧ Below w.heap.size w w' := by
  rcases f with ⟨fx, fy, kd, ix, ct, bt, op, lp, ln⟩
  have hb := (Below.refl w.heap.size w).alloc (Nat.le_refl _) (.cells (Fo.cells ⟨fx, fy, kd, ix, ct, bt, op, lp, ln⟩).toArray 34)
  have HX := hide (BoxO.new ⟨fx, fy, kd, ix, ct, bt, op, lp, ln⟩ w)
  have hq2 := (Lib.cell?_alloc_some (W := w) (.cells (Fo.cells ⟨fx, fy, kd, ix, ct, bt, op, lp, ln⟩).toArray 34) hq)
  have HB := hide hb
  obtain ⟨R, hR⟩ : ∃ R, endO h ⟨fx, fy, kd, ix, ct, bt, op, lp, ln⟩ = R := ⟨_, rfl⟩
  rw [hR]
  have HR : Hid ((decide (bt = h) && decide (ix = wrap64 (ct - 1))) = R) := hide hR
  unfold Fo.cells at *
  dsimp only at *
  clear hb hR
  go_enter Try.func25, Try.ntmps25
  go_upto_region 1 with fail
  generalize w.alloc (.cells #[.int .i64 fx, .int .i64 fy, .int .i64 kd, .int .i64 ix, .int .i64 ct, .int .u64 bt, .int .u64 op, .int .i64 lp, .int .i64 ln] 34) = w2 at *
  have x3 := HX.out.c 3 _ rfl
  have x4 := HX.out.c 4 _ rfl
  have x5 := HX.out.c 5 _ rfl
  by_cases h1 : bt = h
  · subst h1
    have g1 : (bt == bt) = true := beq_self_eq_true bt
    have hr := HR.out
    rw [decide_eq_true (rfl : bt = bt), Bool.true_and] at hr
    have Hr := hide hr
    clear hr
    go_wp2
    go_ret
    exact ⟨ret_bool (by rw [← Hr.out, Bool.eq_iff_iff]; simp), HB.out⟩
  · have g1 : (bt == h) = false := beq_eq_false_iff_ne.2 h1
    have hr := HR.out
    rw [decide_eq_false h1, Bool.false_and] at hr
    subst hr
    clear h1
    go_wp2
    go_ret
    exact ⟨rfl, HB.out⟩
set_option maxHeartbeats 4000000 in
theorem broken_any (A : Option Addr) (n c B : Nat) (l : List Fo) (w : World) (hl : Lies w B A (rowO l)) (hB : B ≤ w.heap.size) (hn : n = l.length) (hbig : n ≤ 2000) :
    Calls Try.prog 14 #[.slice A n c] w fun e w' => e = .returned (.bool (brokenO l)) ∧ Below w.heap.size w w' := by
  have F1 := hide (high_any A n c B l w hl hB hn hbig)
  have HL := hide hl
  have HB := hide hB
  have Hn := hide hn
  have Hbig := hide hbig
  have eg : ∀ args w, (callFunc 25 args).run Try.prog w = .ok (.enter 25 args) w := enters_of Try.func25 (by kernel_rfl) rfl
  unfold brokenO
  rw [← hn]
  generalize hiO l = h at *
  obtain ⟨R, hR⟩ : ∃ R, (decide (0 < n) && !(l.any (endO h))) = R := ⟨_, rfl⟩
  rw [hR]
  have HR := hide hR
  clear hl hn hbig hB hR
  go_enter Try.func14, Try.ntmps14
  go_wp2_with fail
  (with_reducible refine F1.out.mono ?_)
  rintro e w1 ⟨rfl, hb⟩
  have HB1 := hide hb
  have HB2 := hide (hb.alloc hb.size (.cells #[.int .u64 h] 26))
  have hq : (w1.alloc (.cells #[.int .u64 h] 26)).cell? ⟨w1.heap.size, 0, none⟩ = some (.int .u64 h) := by simp
  have Hq := hide hq
  have F2 : Hid (Calls Try.prog 26 #[.slice A n c, .func (.func 25) #[] #[.pointer (some ⟨w1.heap.size, 0, none⟩)]] (w1.alloc (.cells #[.int .u64 h] 26)) fun e w' => e = .returned (.bool (l.any (endO h))) ∧ Below (w1.alloc (.cells #[.int .u64 h] 26)).heap.size (w1.alloc (.cells #[.int .u64 h] 26)) w') :=
    hide (containsF_any _ _ eg A n c B l (endO h) _ (HL.out.below (HB2.out.mono HB.out)) Hn.out (Nat.le_trans HB.out HB2.out.size) Hbig.out (fun W hW k hk => ends_any w1.heap.size h l[k] W ((hW.cell (p := ⟨w1.heap.size, 0, none⟩) (by simp)).trans Hq.out)))
  clear hb F1 hq eg
  by_cases h0 : 0 < n
  · have hr := HR.out
    rw [decide_eq_true h0, Bool.true_and] at hr
    have g1 : decide (0 < n) = true := decide_eq_true h0
    generalize l.any (endO h) = r at *
    subst hr
    clear h0
    go_wp2_with fail
    (with_reducible refine F2.out.mono ?_)
    rintro e w2 ⟨rfl, hb⟩
    have HB3 := hide (HB2.out.trans (hb.mono HB2.out.size))
    clear hb F2
    go_wp2
    go_ret
    exact ⟨rfl, HB3.out⟩
  · have hr := HR.out
    rw [decide_eq_false h0, Bool.false_and] at hr
    subst hr
    have g1 : decide (0 < n) = false := decide_eq_false h0
    clear h0 F2
    go_wp2
    go_ret
    exact ⟨rfl, HB2.out⟩
end Go.Proofs.Ytjdaoenapmjoeaa
