/-
  LAYER 20, CONTRACTS: mover, the function that it makes, and the function within.
-/
import Derived.Test.YtofokljhlcdebaaPkD
namespace Go.Proofs.Ytofokljhlcdebaa
open Go.RowKit
set_option maxRecDepth 8000

set_option maxHeartbeats 4000000 in
theorem indexP_any (g : Nat) (lb : Array Value) (eg : ∀ args w, (callFunc g args).run Try.prog w = .ok (.enter g args) w) (A : Option Addr) (n c B : Nat) (l : List Pl2) (p : Pl2 → Bool) (w : World) (h : Lies w B A (rowQ l)) (hn : n = l.length) (hB : B ≤ w.heap.size) (hbig : n ≤ 1000)
    (hp : ∀ W, Below w.heap.size w W → ∀ k (hk : k < l.length), Calls Try.prog g (#[.agg (plc l[k]).toArray] ++ lb) W fun e w' => e = .returned (.bool (p l[k])) ∧ Below W.heap.size W w') :
    Calls Try.prog 62 #[.slice A n c, .func (.func g) #[] lb] w fun e w' => e = .returned (.int .i64 (if l.any p then (l.findIdx p : Int) else -1)) ∧ Below w.heap.size w w' := by
  obtain ⟨z, hz⟩ : ∃ z : Int, z = (if l.any p then (l.findIdx p : Int) else -1) := ⟨_, rfl⟩
  rw [← hz]
  have Hz := hide hz
  have Hl := hide h
  have Hn := hide hn
  have Hp := hide hp
  have Hbig := hide hbig
  clear hz h hn hp hbig
  go_enter Try.func62, Try.ntmps62
  go_wp2
  go_loopw [5, 8] (fun _ i wr => ∃ k : Nat, k ≤ n ∧ i = .int .i64 (k : Int) ∧ Hid (Below w.heap.size w wr) ∧ Hid (∀ j (hj : j < l.length), j < k → p l[j] = false)) (fun _ i _ => n - (intOf i).toNat)
  case atStart => exact ⟨0, Nat.zero_le _, rfl, hide (Below.refl _ w), hide (fun j hj h => by omega)⟩
  case round =>
    obtain ⟨k, hk, rfl, Hbw, HF⟩ := hrel
    by_cases hlt : k < n
    · have hlt' : (k : Int) < (n : Int) := by omega
      have hkl : k < l.length := by rw [← Hn.out]; exact hlt
      have e7 : wrap64 ((k : Int) + 1) = ((k + 1 : Nat) : Int) := by have := Hbig.out; unfold wrap64; omega
      obtain ⟨a, rfl, _, hca⟩ := (Hl.out.below (Hbw.out.mono hB)).elem (f := plc) (m := 2) plc_len hkl (by omega)
      have Hca := hide hca
      have hcall := Hp.out wr Hbw.out k hkl
      have Hhit := hide (show p l[k] = true → (k : Int) = z by
        intro ht
        have hany : l.any p = true := List.any_eq_true.2 ⟨l[k], List.getElem_mem hkl, ht⟩
        have hidx : l.findIdx p = k := by
          rw [List.findIdx_eq hkl]
          exact ⟨ht, fun j hj => HF.out j (by omega) hj⟩
        rw [Hz.out, if_pos hany, hidx])
      have HF2 := hide (show p l[k] = false → ∀ j (hj : j < l.length), j < k + 1 → p l[j] = false by
        intro hf j hj h1
        by_cases h2 : j = k
        · subst h2; exact hf
        · exact HF.out j hj (by omega))
      clear hca HF
      generalize l[k] = x at *
      clear hkl
      unfold plc at *
      cases hq : p x with
      | true =>
        rw [hq] at hcall
        have hkz := Hhit.out hq
        subst hkz
        clear HF2 hq Hp Hz Hhit
        go_wp2_with (first
          | (with_reducible refine wpl_load_addr rfl 30 (.tmp 14) rfl (a.add (k * 2)) _ Hca.out rfl _ Try.underlying30 rfl 2 infoPl2 (by with_unfolding_all rfl) ?_)
          | (go_at_fn g; refine hcall.mono ?_; rintro e w' ⟨rfl, hb⟩))
        go_ret
        exact ⟨rfl, Hbw.out.trans (hb.mono Hbw.out.size)⟩
      | false =>
        rw [hq] at hcall
        have HF3 := hide (HF2.out hq)
        clear HF2 hq Hp Hhit
        go_wp2_with (first
          | (with_reducible refine wpl_load_addr rfl 30 (.tmp 14) rfl (a.add (k * 2)) _ Hca.out rfl _ Try.underlying30 rfl 2 infoPl2 (by with_unfolding_all rfl) ?_)
          | (go_at_fn g; refine hcall.mono ?_; rintro e w' ⟨rfl, hb⟩))
        go_roundw
        case rel => exact ⟨k + 1, hlt, congrArg (Value.int .i64) e7, hide (Hbw.out.trans (hb.mono Hbw.out.size)), HF3⟩
        case measure => first | exact measT hlt | exact measT2 e7 hlt
    · have hlt' : ¬ (k : Int) < (n : Int) := by omega
      have hz1 : z = -1 := by
        have hany : l.any p = false := by
          rw [List.any_eq_false]
          intro x hx
          obtain ⟨j, hj, rfl⟩ := List.getElem_of_mem hx
          rw [HF.out j hj (by have := Hn.out; omega)]; decide
        rw [Hz.out, if_neg (by rw [hany]; decide)]
      subst hz1
      go_wp2
      go_ret
      exact ⟨rfl, Hbw.out⟩

/-- What mover's functions look at: where the map and the function on bad blocks lie. -/
structure Mq (bad : List Int) (L : List Pl2) (F : Int → List Int) (bm n : Nat) (D : DataW Value) (V : Int → Value) (lo qb q4 q5 : Nat) (W : World) : Prop where
  m4 : W.heap[q4]? = some (.cells #[.map (some bm)] 73 (0, 0))
  m5 : W.heap[q5]? = some (.cells #[.func (.func 64) #[] #[.pointer (some ⟨qb, 0, none⟩)]] 77 (0, 0))
  amg : Amg bad lo qb W
  us : Us W bm n D V F
  uses : UsesB F L
section
variable {bad : List Int} {L : List Pl2} {F : Int → List Int} {bm n : Nat} {D : DataW Value} {V : Int → Value} {lo qb q4 q5 : Nat} {W W' : World}
theorem Mq.later (h : Mq bad L F bm n D V lo qb q4 q5 W) (hb : Below W.heap.size W W') : Mq bad L F bm n D V lo qb q4 q5 W' :=
  ⟨(hb.block q4 (Array.getElem?_eq_some_iff.1 h.m4).1).trans h.m4, (hb.block q5 (Array.getElem?_eq_some_iff.1 h.m5).1).trans h.m5, h.amg.below hb h.amg.lt, h.us.later hb, h.uses⟩
theorem Mq.c4 (h : Mq bad L F bm n D V lo qb q4 q5 W) : W.cell? ⟨q4, 0, none⟩ = some (.map (some bm)) := by simp [World.cell?, h.m4]
theorem Mq.c5 (h : Mq bad L F bm n D V lo qb q4 q5 W) : W.cell? ⟨q5, 0, none⟩ = some (.func (.func 64) #[] #[.pointer (some ⟨qb, 0, none⟩)]) := by simp [World.cell?, h.m5]
set_option maxHeartbeats 4000000 in
theorem other_any (x y b : Int) (q : Nat) (W : World) (h : Mq bad L F bm n D V lo qb q4 q5 W) (hq : W.heap[q]? = some (.cells #[.int .i64 b] 3 (0, 0))) (hx : Ok64 x) :
    Calls Try.prog 61 #[.agg #[.int .i64 x, .int .i64 y], .pointer (some ⟨q, 0, none⟩), .pointer (some ⟨q4, 0, none⟩), .pointer (some ⟨q5, 0, none⟩)] W fun e w' => e = .returned (.bool (okP bad L b (x, y))) ∧ Below W.heap.size W w' := by
  have eg : ∀ args w, (callFunc 64 args).run Try.prog w = .ok (.enter 64 args) w := enters_of Try.func64 (by kernel_rfl) rfl
  have HB := hide ((Below.refl W.heap.size W).alloc (Nat.le_refl _) (.cells #[.int .i64 x, .int .i64 y] 30))
  have HX := BoxQ2.new (x, y) W
  have HM := h.later HB.out
  have xc := HX.c0
  have x4 := HM.c4
  have x5 := HM.c5
  have xb : (W.alloc (.cells #[.int .i64 x, .int .i64 y] 30)).cell? ⟨q, 0, none⟩ = some (.int .i64 b) := by
    have := (HB.out.block q (Array.getElem?_eq_some_iff.1 hq).1).trans hq
    simp [World.cell?, this]
  have lk := HM.us.look hx
  have F5 := hide (fun W' (hb : Below (W.alloc (.cells #[.int .i64 x, .int .i64 y] 30)).heap.size (W.alloc (.cells #[.int .i64 x, .int .i64 y] 30)) W') => among1_any bad lo qb x W' ((HM.later hb).amg))
  obtain ⟨AV, cV, hV⟩ := h.us.form x
  rw [hV] at lk
  have hused := h.uses.used x
  have HR : Hid ((decide (x ≠ b) && decide (x ∈ L.map Prod.fst) && !decide (x ∈ bad)) = okP bad L b (x, y)) := hide rfl
  generalize okP bad L b (x, y) = R at *
  have F6 := F5.out _ (Below.refl _ _)
  clear F5
  generalize decide (x ∈ bad) = r at *
  dsimp only at xc
  clear h hq hx HM HX
  by_cases h1 : x = b
  · have g1 : (x != b) = false := by simp [h1]
    have hr : R = false := by rw [← HR.out]; simp [h1]
    subst hr
    clear h1 hused HR
    go_enter Try.func61, Try.ntmps61
    go_wp2
    go_ret
    exact ⟨rfl, HB.out⟩
  · have g1 : (x != b) = true := by simp [h1]
    by_cases h2 : F x = []
    · have hr : R = false := by
        rw [← HR.out]
        have : ¬ x ∈ L.map Prod.fst := fun hm => (hused.2 hm) h2
        simp [this]
      subst hr
      rw [h2] at lk
      clear h1 h2 hused HR
      go_enter Try.func61, Try.ntmps61
      go_wp2
      go_ret
      exact ⟨rfl, HB.out⟩
    · obtain ⟨m, hm⟩ : ∃ m, (F x).length = m := ⟨_, rfl⟩
      rw [hm] at lk
      have hm0 : 0 < m := by
        rw [← hm]
        exact List.length_pos_iff.2 h2
      have g2 : decide ((0 : Int) < (m : Int)) = true := decide_eq_true (by omega)
      have g2n : decide (0 < m) = true := decide_eq_true hm0
      have hr : (!r) = R := by
        rw [← HR.out]
        have : x ∈ L.map Prod.fst := hused.1 h2
        rw [decide_eq_true h1, decide_eq_true this]
        rfl
      have Hr := hide hr
      clear h1 h2 hused HR hm hm0 hr
      go_enter Try.func61, Try.ntmps61
      go_wp2_with (go_at_fn 64; refine F6.mono ?_; rintro e w' ⟨rfl, rfl⟩)
      go_ret
      exact ⟨ret_bool Hr.out, HB.out⟩
end
end Go.Proofs.Ytofokljhlcdebaa
