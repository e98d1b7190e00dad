/-
  CONTRACTS of package mirror: Tables.
-/
import Derived.Test.YtigpplckddnghaaMrT
namespace Go.Proofs.Ytigpplckddnghaa
open Go.RowKit
set_option maxRecDepth 8000

theorem hi_row {w W : World} {l : List Tl} {A : Option Addr} {c : Nat} (h : W.ownsRow (w.heap.size + 1) 39 4 (.slice A l.length c) l.length (rowT l)) : rowT l = [] ∨ ∃ a, A = some a ∧ w.heap.size ≤ a.block := by
  rcases h.2 with ⟨_, hn⟩ | ⟨g, cap, cur, hv, hb, _⟩
  · left
    exact List.eq_nil_of_length_eq_zero (by rw [rowT_len, hn])
  · injection hv with hA _ _
    exact .inr ⟨_, hA, by show w.heap.size ≤ g; omega⟩
section
variable {w : World} {B0 B : Nat} {D : Dv} {k kb kp km : Nat}
set_option maxHeartbeats 4000000 in
theorem mtabs_any (h : DevAt w B0 B D k kb kp km) (hB : B ≤ w.heap.size) (hd : D.dn = false) (r : Nat) (hr : r < 2) :
    Calls Try.prog 15 #[.pointer (some ⟨k, 0, none⟩), .int .i64 (r : Int)] w fun e w' => ∃ (l : List Tl) (A : Option Addr) (c : Nat), e = .returned (.slice A l.length c) ∧ Tls l (D.tabs r) w' ∧ Lies w' w'.heap.size A (rowT l) ∧ (rowT l = [] ∨ ∃ a, A = some a ∧ w.heap.size ≤ a.block) ∧ (∀ x ∈ l, x.Hi w.heap.size) ∧ Below w.heap.size w w' := by
  have hs := h.sides
  have hb1 := (Below.refl w.heap.size w).alloc (Nat.le_refl _) (.cells #[.pointer (some ⟨k, 0, none⟩)] 32)
  have hbox := heap_alloc_new w (.cells #[.pointer (some ⟨k, 0, none⟩)] 32)
  have HB1 := hide hb1
  have HX1 := hide hbox
  have HD1 := hide (h.below (hb1.mono hB))
  have Hr := hide hr
  have Hd := hide hd
  have HS := hide hs
  have HBB := hide hB
  have r0 : ¬ (r : Int) < 0 := by omega
  have r1 : ¬ (2 : Int) ≤ (r : Int) := by omega
  have hg : D.g.val = .agg #[.int .i64 D.g.b, .int .i64 (D.np : Int), .int .i64 D.g.r] := by unfold Gm.val; rw [hs.2.2.2.2.2]
  clear h hB hd hr hs hb1 hbox
  go_enter Try.func15, Try.ntmps15
  go_wp2_with fail
  (with_reducible refine (asker_any _ _).mono ?_)
  rintro e w1 ⟨rfl, hw⟩
  subst hw
  generalize hw1 : w.alloc (.cells #[.pointer (some ⟨k, 0, none⟩)] 32) = w1 at *
  have F := hide (sides_any HD1.out)
  rw [hg] at F
  clear hg hw1
  have hfd := fun W => field_pages D.g.b (D.np : Int) D.g.r W
  go_wp2_with fail
  (with_reducible refine F.out.mono ?_)
  rintro e w2 ⟨rfl, hb⟩
  have S0 : Hid (TabS w D r 0 w.heap.size k B0 B kb kp km [] (.slice none 0 0) w2) := hide
    ⟨HD1.out.below (hb.mono (Nat.le_trans HBB.out HB1.out.size)), (hb.block _ (Array.getElem?_eq_some_iff.1 HX1.out).1).trans HX1.out, ⟨rfl, by simp, by simp⟩, ⟨rfl, .inl ⟨rfl, rfl⟩⟩, (fun x hx => absurd hx (by simp)), (fun x hx => absurd hx (by simp)), HB1.out.trans (hb.mono HB1.out.size)⟩
  clear hb F HD1 HX1 HB1
  go_wp2
  clear hfd
  go_loopw [6, 7, 8, 9, 21] (fun v _ _ _ i wr => ∃ (n : Nat) (l : List Tl) (A : Option Addr) (c : Nat), n ≤ D.np ∧ v = .slice A l.length c ∧ i = .int .i64 (n : Int) ∧ Hid (TabS w D r n w.heap.size k B0 B kb kp km l (.slice A l.length c) wr)) (fun _ _ _ _ i _ => D.np - (intOf i).toNat)
  case atStart => exact ⟨0, [], none, 0, Nat.zero_le _, rfl, rfl, S0⟩
  case round =>
    obtain ⟨n, l, A, c, hn, rfl, rfl, HT⟩ := hrel
    by_cases hlt : n < D.np
    · have hlt' : (n : Int) < (D.np : Int) := by omega
      have hBw := Nat.le_trans HBB.out HT.out.below.size
      have F := hide (ask_any HT.out.dev hBw Hd.out r n w.heap.size (by have := HS.out.1; have := Hr.out; omega) hlt HT.out.box)
      have HBw := hide hBw
      clear hBw
      unfold GetEnd at F
      go_wp2_with fail
      (with_reducible refine F.out.mono ?_)
      rintro e w3 ⟨x, q, rfl, hxt, hq, hok, hfew, hb, hhi⟩
      have HB3 := hide hb
      have Hxt := hide hxt
      have Hq := hide hq
      have Hok := hide hok
      have Hfew := hide hfew
      have Hhi := hide hhi
      have e0 : x.val = .agg #[.int .u64 (x.t.seq : Int), .slice x.A1 x.t.bad.length x.c1, .slice x.A2 x.t.wear.length x.c2, .slice x.A3 x.t.void.length x.c3] := rfl
      have e1 : x.cells.toArray = #[.int .u64 (x.t.seq : Int), .slice x.A1 x.t.bad.length x.c1, .slice x.A2 x.t.wear.length x.c2, .slice x.A3 x.t.void.length x.c3] := rfl
      have HB4 := hide (hb.alloc hb.size (.cells x.cells.toArray 39))
      have HX4 := hide (BoxT.new x w3)
      have HO4 := hide ((hok.below ((Below.refl w3.heap.size w3).alloc (Nat.le_refl _) (.cells x.cells.toArray 39))).up (show w3.heap.size ≤ (w3.alloc (.cells x.cells.toArray 39)).heap.size by simp))
      rw [e0]
      rw [e1] at HB4 HX4 HO4
      clear hxt hq hok hfew hhi hb F e0
      go_upto_region 9 with fail
      generalize w3.alloc (.cells #[.int .u64 (x.t.seq : Int), .slice x.A1 x.t.bad.length x.c1, .slice x.A2 x.t.wear.length x.c2, .slice x.A3 x.t.void.length x.c3] 39) = w4 at *
      generalize w3.heap.size = kx at *
      have e7 : wrap64 ((n : Int) + 1) = ((n + 1 : Nat) : Int) := by have := HS.out.2.2.2.1; unfold wrap64; omega
      by_cases h0 : q = 0
      · subst h0
        have HA5 := hide (HB4.out.alloc HB4.out.size (.cells x.cells.toArray 39))
        have HO5 := hide ((HO4.out.below ((Below.refl w4.heap.size w4).alloc (Nat.le_refl _) (.cells x.cells.toArray 39))).up (show w4.heap.size ≤ (w4.alloc (.cells x.cells.toArray 39)).heap.size by simp))
        rw [e1] at HA5 HO5
        have c0 := HX4.out.c 0 _ rfl
        have c1 := HX4.out.c 1 _ rfl
        have c2 := HX4.out.c 2 _ rfl
        have c3 := HX4.out.c 3 _ rfl
        have Hlen := hide (show l.length ≤ 1000 by rw [HT.out.tls.len]; exact Nat.le_trans (tabsF_few _ _ _) (by have := HS.out.2.2.2.1; omega))
        go_wp2_with (at_builtin; refine wpl_app _ rfl telems (.tmp 34) (.tmp 36) rfl (w.heap.size + 1) _ l.length (rowT l) rfl (own_keepT HT.out.own HA5.out) (w4.heap.size + 1) (some ⟨w4.heap.size, 0, none⟩) 1 1 _ rfl (by rfl) (Lies.new w4 _ _ _ _ (Nat.lt_succ_self _)) (by simp [Value.oneCell']) (by have := Hlen.out; unfold maxLen; omega) (by have := Hlen.out; omega) (by have := (Array.getElem?_eq_some_iff.1 HT.out.box).1; have := HA5.out.size; omega) ?_; intro A2 c2 w5 hown hg hat; have HT5 := hide (HT.out.more HBB.out rfl HA5.out Hq.out.symm Hxt.out HO5.out Hfew.out Hhi.out hown hg hat); clear hown hg hat)
        go_wp2
        go_roundw
        case rel => exact ⟨n + 1, l ++ [x], A2, c2, hlt, congrArg (fun q : Nat => Value.slice A2 q c2) (by simp), congrArg (Value.int .i64) e7, HT5⟩
        case measure => first | exact measT hlt | exact measT2 e7 hlt
      · have hb0 : (q == 0) = false := beq_eq_false_iff_ne.2 h0
        have HT4 := hide (HT.out.skip HBw.out HB4.out (by rw [← Hq.out]; exact h0))
        clear h0
        go_wp2
        go_roundw
        case rel => exact ⟨n + 1, l, A, c, hlt, rfl, congrArg (Value.int .i64) e7, HT4⟩
        case measure => first | exact measT hlt | exact measT2 e7 hlt
    · obtain rfl : n = D.np := by omega
      have HT4 := HT
      go_wp2
      go_ret
      exact ⟨l, A, c, rfl, HT4.out.tls, Lies.of_own HT4.out.own, hi_row HT4.out.own, HT4.out.hi, HT4.out.below⟩
end
end Go.Proofs.Ytigpplckddnghaa
