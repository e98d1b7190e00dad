/-
  The walk of ScanDown.
-/
import Derived.Test.YtahipfmokbiklaaScB
import Derived.Test.YtahipfmokbiklaaPlan
import Derived.Test.YtahipfmokbiklaaFlo4
import Derived.Test.YtahipfmokbiklaaGeoP
namespace Go.Proofs.Ytahipfmokbiklaa
open Go.RowKit
open Go.Sort
set_option maxRecDepth 8000

set_option maxRecDepth 8000 in
theorem has_big (A : Option Addr) (n c B : Nat) (l : List Int) (z : Int) (w : World) (hl : Lies w B A (i64s l)) (hn : n = l.length) (hbig : n ≤ 9223372036854775807) :
    Calls Try.prog 13 #[.slice A n c, .int .i64 z] w fun e w' => e = .returned (.bool (decide (z ∈ l))) ∧ w = w' := by
  have Hl := hide hl
  have Hn := hide hn
  obtain ⟨R, hR⟩ : ∃ R, R = decide (z ∈ l) := ⟨_, rfl⟩
  rw [← hR]
  have HR := hide hR
  clear hl hn hR
  go_enter Try.func13, Try.ntmps13
  go_wp2
  go_loop [5] (fun i => ∃ j : Nat, j ≤ n ∧ i = .int .i64 (j : Int) ∧ Hid (R = decide (z ∈ l.drop j))) (fun i => n - (intOf i).toNat)
  case atStart => exact ⟨0, Nat.zero_le _, rfl, hide (by rw [HR.out]; rfl)⟩
  case round =>
    obtain ⟨j, hj, rfl, hd⟩ := hrel
    by_cases hlt : j < n
    · have hjl : j < l.length := by rw [← Hn.out]; exact hlt
      have hlt' : (j : Int) < (n : Int) := by omega
      obtain ⟨a, rfl, hab, hca⟩ := Hl.out.int (k := j) hjl
      have Hd := hide (show l.drop j = l[j] :: l.drop (j + 1) from List.drop_eq_getElem_cons hjl)
      have e1 : wrap64 ((j : Int) + 1) = ((j + 1 : Nat) : Int) := by rw [i64w (by omega)]; rfl
      generalize l[j] = u at *
      clear hjl
      by_cases hz : u = z
      · subst hz
        have hR2 : R = true := by rw [hd.out, Hd.out]; simp
        go_wp2
        go_ret
        exact ⟨by first | rfl | exact ret_bool hR2.symm, rfl⟩
      · have hb : (u == z) = false := beq_eq_false_iff_ne.2 hz
        have Hnew := hide (show R = decide (z ∈ l.drop (j + 1)) by rw [hd.out, Hd.out]; exact decide_eq_decide.2 (by simp [Ne.symm hz]))
        go_wp2
        go_round
        case rel => exact ⟨j + 1, by omega, rfl, Hnew⟩
        case measure => simp [intOf]; omega
    · obtain rfl : j = n := by omega
      have hR2 : R = false := by rw [hd.out, List.drop_eq_nil_of_le (by rw [Hn.out]; exact Nat.le_refl _)]; rfl
      go_wp2
      go_ret
      exact ⟨by first | rfl | exact ret_bool hR2.symm, rfl⟩
/-- What ScanDown keeps: both arguments in their boxes. -/
structure DnS (w : World) (q : Pn) (x y : Int) (W : World) : Prop where
  box : BoxQ q w.heap.size W
  pl : BoxedP x y (w.heap.size + 1) W
  below : Below w.heap.size w W
  lt : w.heap.size + 1 < W.heap.size
theorem DnS.next {w W W' : World} {q : Pn} {x y : Int} (h : DnS w q x y W) (hb : Below W.heap.size W W') : DnS w q x y W' :=
  ⟨h.box.below hb (Nat.lt_of_succ_lt h.lt), h.pl.below hb h.lt, h.below.trans (hb.mono h.below.size), Nat.lt_of_lt_of_le h.lt hb.size⟩
theorem DnS.new (w : World) (q : Pn) (x y : Int) : DnS w q x y ((w.alloc (.cells #[.int .i64 q.g.b, .int .i64 q.g.p, .int .i64 q.g.r, .slice q.A1 q.n1 q.c1, .slice q.A2 q.n2 q.c2] 27)).alloc (.cells #[.int .i64 x, .int .i64 y] 46)) := by
  have b1 := (Below.refl w.heap.size w).alloc (Nat.le_refl _) (.cells #[.int .i64 q.g.b, .int .i64 q.g.p, .int .i64 q.g.r, .slice q.A1 q.n1 q.c1, .slice q.A2 q.n2 q.c2] 27)
  have hx1 : BoxQ q w.heap.size (w.alloc (.cells #[.int .i64 q.g.b, .int .i64 q.g.p, .int .i64 q.g.r, .slice q.A1 q.n1 q.c1, .slice q.A2 q.n2 q.c2] 27)) := heap_alloc_new w _
  have hp := BoxedP.new x y (w.alloc (.cells #[.int .i64 q.g.b, .int .i64 q.g.p, .int .i64 q.g.r, .slice q.A1 q.n1 q.c1, .slice q.A2 q.n2 q.c2] 27))
  have hs : (w.alloc (.cells #[.int .i64 q.g.b, .int .i64 q.g.p, .int .i64 q.g.r, .slice q.A1 q.n1 q.c1, .slice q.A2 q.n2 q.c2] 27)).heap.size = w.heap.size + 1 := by simp
  rw [hs] at hp
  exact ⟨hx1.below ((Below.refl (w.heap.size + 1) _).alloc (by omega) _) (by omega), hp, b1.alloc b1.size _, by simp⟩
theorem DnS.tch {S : List Nat} {w W W' : World} {q : Pn} {x y : Int} (h : DnS w q x y W) (ht : Tch S W W') (hS : ∀ b ∈ S, w.heap.size + 2 ≤ b) : DnS w q x y W' := by
  have n0 : w.heap.size ∉ S := fun hb => by have := hS _ hb; omega
  have n1 : w.heap.size + 1 ∉ S := fun hb => by have := hS _ hb; omega
  exact ⟨(ht.block _ (Nat.lt_of_succ_lt h.lt) n0).trans h.box, (ht.block _ h.lt n1).trans h.pl, h.below.trans (ht.below h.below.size (fun b hb => by have := hS b hb; omega)), Nat.lt_of_lt_of_le h.lt ht.size⟩
/-- The fault that cuts. -/
def cutF : Flt := ⟨0, 2, none, 0, 0, []⟩
section
variable {q : Pn}
theorem cut_era {g : Gm} {bl : List Int} (hr : g.Right) (h2 : (2 : Int) ∉ bl) : ((Dv.fresh g bl [cutF]).eraR 2).1 = 9 ∧ ((Dv.fresh g bl [cutF]).eraR 2).2.dn = true := by
  have hb : g.b ≥ 8 := hr.1
  have hnb : (2 : Int) < ((Dv.fresh g bl [cutF]).nb : Int) := by
    show (2 : Int) < ((g.b.toNat : Nat) : Int)
    omega
  unfold Dv.eraR
  rw [if_neg (show ¬ (Dv.fresh g bl [cutF]).dn = true from Bool.false_ne_true), if_neg (not_not_intro ⟨by decide, hnb⟩), if_neg (show ¬ (Dv.fresh g bl [cutF]).bad (2 : Int).toNat = true by
    show ¬ decide (((2 : Int).toNat : Int) ∈ bl) = true
    rw [decide_eq_true_eq]
    exact h2)]
  exact ⟨rfl, rfl⟩
end
set_option maxHeartbeats 4000000 in
theorem scanDown_off (q : Pn) (x y : Int) (w : World) (hq : q.Ok w w.heap.size) (hbig : q.n1 ≤ 9223372036854775807) (hl : ¬ (q.g.Right ∧ (2 : Int) ∉ q.bl ∧ q.n1 ≤ 60)) :
    Calls Try.prog 5 #[q.val, .agg #[.int .i64 x, .int .i64 y]] w fun e w' => e = .returned (.bool true) ∧ Below w.heap.size w w' := by
  have S0 := hide (DnS.new w q x y)
  have FR := hide (fun W => right13_any q.g W)
  have FH := hide (fun W (hW : Below w.heap.size w W) => has_big q.A1 q.n1 q.c1 w.heap.size q.bl 2 W (hq.below hW).l1 (hq.below hW).h1 hbig)
  clear hq hbig
  unfold Pn.val Gm.val at *
  by_cases hr : q.g.Right
  · rw [decide_eq_true hr] at FR
    by_cases h2 : (2 : Int) ∈ q.bl
    · rw [decide_eq_true h2] at FH
      clear hl hr h2
      go_enter Try.func5, Try.ntmps5
      go_upto_region 1 with fail
      generalize (w.alloc (.cells #[.int .i64 q.g.b, .int .i64 q.g.p, .int .i64 q.g.r, .slice q.A1 q.n1 q.c1, .slice q.A2 q.n2 q.c2] 27)).alloc (.cells #[.int .i64 x, .int .i64 y] 46) = w1 at *
      have c0 := S0.out.box.c 0 _ rfl
      have c1 := S0.out.box.c 1 _ rfl
      have c2 := S0.out.box.c 2 _ rfl
      go_wp2_with fail
      (with_reducible refine (FR.out _).mono ?_)
      rintro e w2 ⟨rfl, hb⟩
      have S2 := hide (S0.out.next hb)
      clear hb c0 c1 c2 FR S0
      have c3 := S2.out.box.c 3 _ rfl
      go_wp2_with fail
      (with_reducible refine (FH.out _ S2.out.below).mono ?_)
      rintro e w2 ⟨rfl, rfl⟩
      clear FH
      go_wp2_with fail
      (with_reducible refine (awake18_any _).mono ?_)
      rintro e w3 ⟨rfl, hb⟩
      have S3 := hide (S2.out.next hb)
      clear hb
      go_wp2
      go_ret
      exact ⟨rfl, S3.out.below⟩
    · rw [decide_eq_false h2] at FH
      have h60 : (60 : Int) < (q.n1 : Int) := by
        have : ¬ q.n1 ≤ 60 := fun h => hl ⟨hr, h2, h⟩
        omega
      clear hl hr h2
      go_enter Try.func5, Try.ntmps5
      go_upto_region 1 with fail
      generalize (w.alloc (.cells #[.int .i64 q.g.b, .int .i64 q.g.p, .int .i64 q.g.r, .slice q.A1 q.n1 q.c1, .slice q.A2 q.n2 q.c2] 27)).alloc (.cells #[.int .i64 x, .int .i64 y] 46) = w1 at *
      have c0 := S0.out.box.c 0 _ rfl
      have c1 := S0.out.box.c 1 _ rfl
      have c2 := S0.out.box.c 2 _ rfl
      go_wp2_with fail
      (with_reducible refine (FR.out _).mono ?_)
      rintro e w2 ⟨rfl, hb⟩
      have S2 := hide (S0.out.next hb)
      clear hb c0 c1 c2 FR S0
      have c3 := S2.out.box.c 3 _ rfl
      go_wp2_with fail
      (with_reducible refine (FH.out _ S2.out.below).mono ?_)
      rintro e w2 ⟨rfl, rfl⟩
      clear FH
      go_wp2_with fail
      (with_reducible refine (awake18_any _).mono ?_)
      rintro e w3 ⟨rfl, hb⟩
      have S3 := hide (S2.out.next hb)
      clear hb
      go_wp2
      go_ret
      exact ⟨rfl, S3.out.below⟩
  · rw [decide_eq_false hr] at FR
    clear hl hr FH
    go_enter Try.func5, Try.ntmps5
    go_upto_region 1 with fail
    generalize (w.alloc (.cells #[.int .i64 q.g.b, .int .i64 q.g.p, .int .i64 q.g.r, .slice q.A1 q.n1 q.c1, .slice q.A2 q.n2 q.c2] 27)).alloc (.cells #[.int .i64 x, .int .i64 y] 46) = w1 at *
    have c0 := S0.out.box.c 0 _ rfl
    have c1 := S0.out.box.c 1 _ rfl
    have c2 := S0.out.box.c 2 _ rfl
    go_wp2_with fail
    (with_reducible refine (FR.out _).mono ?_)
    rintro e w2 ⟨rfl, hb⟩
    have S2 := hide (S0.out.next hb)
    clear hb c0 c1 c2 FR S0
    go_wp2_with fail
    (with_reducible refine (awake18_any _).mono ?_)
    rintro e w3 ⟨rfl, hb⟩
    have S3 := hide (S2.out.next hb)
    clear hb
    go_wp2
    go_ret
    exact ⟨rfl, S3.out.below⟩
set_option maxHeartbeats 8000000 in
theorem scanDown_on (q : Pn) (x y : Int) (w : World) (hq : q.Ok w w.heap.size) (hr : q.g.Right) (h2 : (2 : Int) ∉ q.bl) (h60 : q.n1 ≤ 60) :
    Calls Try.prog 5 #[q.val, .agg #[.int .i64 x, .int .i64 y]] w fun e w' => e = .returned (.bool true) ∧ Below w.heap.size w w' := by
  have S0 := hide (DnS.new w q x y)
  have FR := hide (fun W => right13_any q.g W)
  rw [decide_eq_true hr] at FR
  have FH := hide (fun W (hW : Below w.heap.size w W) => has_big q.A1 q.n1 q.c1 w.heap.size q.bl 2 W (hq.below hW).l1 (hq.below hW).h1 (Nat.le_trans h60 (by decide)))
  rw [decide_eq_false h2] at FH
  have Hq := hide hq
  have Hr := hide hr
  have H2 := hide h2
  have H60 := hide h60
  have h60' : ¬ (60 : Int) < (q.n1 : Int) := by omega
  clear hq hr h2 h60
  unfold Pn.val Gm.val at *
  go_enter Try.func5, Try.ntmps5
  go_upto_region 1 with fail
  generalize (w.alloc (.cells #[.int .i64 q.g.b, .int .i64 q.g.p, .int .i64 q.g.r, .slice q.A1 q.n1 q.c1, .slice q.A2 q.n2 q.c2] 27)).alloc (.cells #[.int .i64 x, .int .i64 y] 46) = w1 at *
  have c0 := S0.out.box.c 0 _ rfl
  have c1 := S0.out.box.c 1 _ rfl
  have c2 := S0.out.box.c 2 _ rfl
  go_wp2_with fail
  (with_reducible refine (FR.out _).mono ?_)
  rintro e w2 ⟨rfl, hb⟩
  have S2 := hide (S0.out.next hb)
  clear hb c0 c1 c2 FR S0
  have c3 := S2.out.box.c 3 _ rfl
  go_wp2_with fail
  (with_reducible refine (FH.out _ S2.out.below).mono ?_)
  rintro e w2 ⟨rfl, rfl⟩
  clear FH
  go_wp2_with fail
  (with_reducible refine (awake18_any _).mono ?_)
  rintro e w3 ⟨rfl, hb⟩
  have S3 := hide (S2.out.next hb)
  clear hb S2 c3
  have c0 := S3.out.box.c 0 _ rfl
  have c1 := S3.out.box.c 1 _ rfl
  have c2 := S3.out.box.c 2 _ rfl
  have c3 := S3.out.box.c 3 _ rfl
  have hb4 := (Below.refl w3.heap.size w3).alloc (Nat.le_refl _) (.cells #[.int .i64 0, .int .i64 2, .slice none 0 0] 67)
  have hq4 := (Hq.out.below S3.out.below).below (hb4.mono S3.out.below.size)
  have FN := hide (new_ok q.g q.A1 (some ⟨w3.heap.size, 0, none⟩) q.n1 q.c1 1 1 (w3.heap.size + 1) q.bl [cutF] (w3.alloc (.cells #[.int .i64 0, .int .i64 2, .slice none 0 0] 67)) Hr.out (hq4.l1.up (Nat.le_succ_of_le S3.out.below.size)) hq4.h1 (by have := H60.out; omega)
    (Lies.new w3 #[.int .i64 0, .int .i64 2, .slice none 0 0] 67 (0, 0) (w3.heap.size + 1) (Nat.lt_succ_self _)) rfl (by decide) (fun f hf => by
      obtain rfl := List.mem_singleton.1 hf
      exact ⟨.inl rfl, rfl, Nat.le_refl _, ⟨by decide, by decide⟩⟩) (by simp))
  unfold Gm.val at FN
  have Hb4 := hide hb4
  clear hb4 hq4
  go_wp2_with fail
  (with_reducible refine FN.out.mono ?_)
  rintro e w5 ⟨k, kb, kp, km, rfl, hd, hb⟩
  have S5 := hide ((S3.out.next Hb4.out).next hb)
  have Hd5 := hide hd
  have HW4 := hide (show w.heap.size + 2 ≤ (w3.alloc (.cells #[.int .i64 0, .int .i64 2, .slice none 0 0] 67)).heap.size by have := S3.out.lt; simp; omega)
  clear hd hb FN S3 Hb4 c0 c1 c2 c3 h60'
  have HB0 := hide (show w.heap.size + 2 ≤ (w3.alloc (.cells #[.int .i64 0, .int .i64 2, .slice none 0 0] 67)).heap.size from HW4.out)
  clear HW4
  generalize (w3.alloc (.cells #[.int .i64 0, .int .i64 2, .slice none 0 0] 67)).heap.size = B0 at *
  obtain ⟨E9, Edn⟩ := cut_era (g := q.g) (bl := q.bl) Hr.out H2.out
  have HE9 := hide E9
  have HEdn := hide Edn
  clear E9 Edn
  go_wp2_with fail
  have F := dera_any Hd5.out (Nat.le_refl _) (show (0 : Nat) < 1000000 by decide) 2
  (with_reducible refine F.mono ?_)
  rintro e w6 ⟨rfl, hd6, ht6⟩
  have S6 := hide (S5.out.tch ht6 (fun b hb => by
    have h := Hd5.out.lo
    have h2 := HB0.out
    simp only [List.mem_cons, List.not_mem_nil, or_false] at hb
    rcases hb with rfl | rfl | rfl <;> omega))
  have Hd6 := hide hd6
  have Hs6 := hide ht6.size
  clear hd6 ht6 F S5 Hd5 HE9 HB0
  generalize w5.heap.size = B at *
  generalize ((Dv.fresh q.g q.bl [cutF]).eraR 2).2 = D at *
  go_wp2_with fail
  (with_reducible refine (all_down Hd6.out HEdn.out).mono ?_)
  rintro e w7 ⟨rfl, rfl⟩
  have p0 := S6.out.pl.x
  have p1 := S6.out.pl.y
  have F := sdata_any Hd6.out Hs6.out x y
  have hR : D.dataR x y = (zeroHd, [], 9) := by
    unfold Dv.dataR Dv.readR
    rw [if_pos HEdn.out]
    rfl
  rw [hR] at F
  have F := hide (show Calls Try.prog 11 #[.pointer (some ⟨k, 0, none⟩), .agg #[.int .i64 x, .int .i64 y]] w6 fun e w' => e = .returned (.tuple #[.agg #[.int .i64 0, .int .i64 0, .int .i64 0, .int .u64 0, .int .u64 0, .int .i64 0, .int .i64 0], .string ⟨#[]⟩, .int .i64 9]) ∧ Below w6.heap.size w6 w' from F)
  clear hR
  go_wp2_with fail
  (with_reducible refine F.out.mono ?_)
  rintro e w8 ⟨rfl, hb⟩
  have hb9 := hb.alloc hb.size (.cells #[.int .i64 0, .int .i64 0, .int .i64 0, .int .u64 0, .int .u64 0, .int .i64 0, .int .i64 0] 42)
  have S9 := hide (S6.out.next hb9)
  have Hd9 := hide (Hd6.out.below (hb9.mono Hs6.out))
  have Hs9 := hide (Nat.le_trans Hs6.out hb9.size)
  have HX9 : Hid (BoxH zeroHd w8.heap.size (w8.alloc (.cells #[.int .i64 0, .int .i64 0, .int .i64 0, .int .u64 0, .int .u64 0, .int .i64 0, .int .i64 0] 42))) := hide (heap_alloc_new w8 _)
  clear hb hb9 F S6 Hd6 Hs6 p0 p1
  go_upto_region 9 with fail
  generalize w8.alloc (.cells #[.int .i64 0, .int .i64 0, .int .i64 0, .int .u64 0, .int .u64 0, .int .i64 0, .int .i64 0] 42) = w9 at *
  generalize w8.heap.size = hk at *
  go_wp2_with fail
  (with_reducible refine (all_nil w9).mono ?_)
  rintro e w10 ⟨rfl, rfl⟩
  have p0 := S9.out.pl.x
  have p1 := S9.out.pl.y
  have F := hide (show Calls Try.prog 11 #[.pointer none, .agg #[.int .i64 x, .int .i64 y]] w9 fun e w' => e = .returned (.tuple #[.agg #[.int .i64 0, .int .i64 0, .int .i64 0, .int .u64 0, .int .u64 0, .int .i64 0, .int .i64 0], .string ⟨#[]⟩, .int .i64 1]) ∧ Below w9.heap.size w9 w' from sdata_nil x y w9)
  go_wp2_with fail
  (with_reducible refine F.out.mono ?_)
  rintro e w11 ⟨rfl, hb⟩
  have hb12 := hb.alloc hb.size (.cells #[.int .i64 0, .int .i64 0, .int .i64 0, .int .u64 0, .int .u64 0, .int .i64 0, .int .i64 0] 42)
  have S12 := hide (S9.out.next hb12)
  have Hd12 := hide (Hd9.out.below (hb12.mono Hs9.out))
  have Hs12 := hide (Nat.le_trans Hs9.out hb12.size)
  have HX12 := hide (HX9.out.below hb12 HX9.out.lt)
  clear hb hb12 F S9 Hd9 Hs9 HX9 p0 p1
  go_upto_region 11 with fail
  generalize w11.alloc (.cells #[.int .i64 0, .int .i64 0, .int .i64 0, .int .u64 0, .int .u64 0, .int .i64 0, .int .i64 0] 42) = w12 at *
  generalize w11.heap.size = hj at *
  have z0 : w12.cell? ⟨hk, 0, none⟩ = some (.int .i64 0) := HX12.out.c 0 _ rfl
  have z1 : w12.cell? ⟨hk, 1, none⟩ = some (.int .i64 0) := HX12.out.c 1 _ rfl
  have z2 : w12.cell? ⟨hk, 2, none⟩ = some (.int .i64 0) := HX12.out.c 2 _ rfl
  have z3 : w12.cell? ⟨hk, 3, none⟩ = some (.int .u64 0) := HX12.out.c 3 _ rfl
  have z4 : w12.cell? ⟨hk, 4, none⟩ = some (.int .u64 0) := HX12.out.c 4 _ rfl
  have z5 : w12.cell? ⟨hk, 5, none⟩ = some (.int .i64 0) := HX12.out.c 5 _ rfl
  have z6 : w12.cell? ⟨hk, 6, none⟩ = some (.int .i64 0) := HX12.out.c 6 _ rfl
  have FB := sblank_any Hd12.out Hs12.out 3
  have hB : D.blank 3 = false := by
    unfold Dv.blank
    rw [HEdn.out]
    rfl
  rw [hB] at FB
  have FB := hide FB
  clear hB
  go_wp2_with fail
  (with_reducible refine FB.out.mono ?_)
  rintro e w13 ⟨rfl, hb⟩
  have S13 := hide (S12.out.next hb)
  clear hb FB S12 Hd12 Hs12 HX12 z0 z1 z2 z3 z4 z5 z6
  go_wp2_with fail
  (with_reducible refine (sblank_nil 3 w13).mono ?_)
  rintro e w14 ⟨rfl, rfl⟩
  go_wp2_with fail
  (with_reducible refine (sBlocks_nil w13).mono ?_)
  rintro e w15 ⟨rfl, rfl⟩
  go_wp2
  go_ret
  exact ⟨rfl, S13.out.below⟩
theorem scanDown_any (q : Pn) (x y : Int) (w : World) (hq : q.Ok w w.heap.size) (hbig : q.n1 ≤ 9223372036854775807) :
    Calls Try.prog 5 #[q.val, .agg #[.int .i64 x, .int .i64 y]] w fun e w' => e = .returned (.bool true) ∧ Below w.heap.size w w' := by
  by_cases h : q.g.Right ∧ (2 : Int) ∉ q.bl ∧ q.n1 ≤ 60
  · exact scanDown_on q x y w hq h.1 h.2.1 h.2.2
  · exact scanDown_off q x y w hq hbig h
end Go.Proofs.Ytahipfmokbiklaa
