/-
  LAYER 19: Void of finds of which one counts for nothing; light, at.
-/
import Derived.Test.YtjdaoenapmjoeaaLtB
import Derived.Test.YtjdaoenapmjoeaaLtI
namespace Go.Proofs.Ytjdaoenapmjoeaa
open Go.RowKit
set_option maxRecDepth 8000

theorem compact_one (A : Option Addr) (c : Nat) (w : World) : Calls Try.prog 24 #[.slice A 1 c] w fun e w' => e = .returned (.slice A 1 c) ∧ w' = w := by
  go_enter Try.func24, Try.ntmps24
  go_wp2
  go_ret
  exact ⟨rfl, rfl⟩
theorem light19_any (A A2 : Option Addr) (n c n2 c2 : Nat) (w : World) : Calls Try.prog 4 #[.slice A n c, .slice A2 n2 c2] w fun e w' => e = .returned (.bool (decide (n ≤ 80 ∧ n2 ≤ 40))) ∧ w = w' := by
  obtain ⟨R, hR⟩ : ∃ R, decide (n ≤ 80 ∧ n2 ≤ 40) = R := ⟨_, rfl⟩
  rw [hR]
  by_cases h1 : n ≤ 80
  · have g1 : decide ((n : Int) ≤ 80) = true := decide_eq_true (by omega)
    by_cases h2 : n2 ≤ 40
    · have g2 : decide ((n2 : Int) ≤ 40) = true := decide_eq_true (by omega)
      obtain rfl : true = R := by rw [← hR]; exact (decide_eq_true ⟨h1, h2⟩).symm
      clear h1 h2 hR
      go_enter Try.func4, Try.ntmps4
      go_wp2
      go_ret
      exact ⟨rfl, rfl⟩
    · have g2 : decide ((n2 : Int) ≤ 40) = false := decide_eq_false (by omega)
      obtain rfl : false = R := by rw [← hR]; exact (decide_eq_false (fun h => h2 h.2)).symm
      clear h1 h2 hR
      go_enter Try.func4, Try.ntmps4
      go_wp2
      go_ret
      exact ⟨rfl, rfl⟩
  · have g1 : decide ((n : Int) ≤ 80) = false := decide_eq_false (by omega)
    obtain rfl : false = R := by rw [← hR]; exact (decide_eq_false (fun h => h1 h.1)).symm
    clear h1 hR
    go_enter Try.func4, Try.ntmps4
    go_wp2
    go_ret
    exact ⟨rfl, rfl⟩
theorem at19_any (x y : Int) (w : World) : Calls Try.prog 11 #[.int .i64 x, .int .i64 y] w fun e w' => e = .returned (.agg #[.int .i64 x, .int .i64 y]) ∧ Below w.heap.size w w' := by
  have HB := hide ((Below.refl w.heap.size w).alloc (Nat.le_refl _) (.cells #[.int .i64 x, .int .i64 y] 30))
  go_enter Try.func11, Try.ntmps11
  go_wp2
  first
    | (refine bodyPost_ret (v := .agg #[.int .i64 x, .int .i64 y]) (results_cell_row rfl _ _ w.heap.size 30 _ (0, 0) _ rfl (heap_alloc_new w _) Try.underlying30 rfl infoPl) rfl ?_; exact ⟨rfl, HB.out⟩)
    | (go_ret; exact ⟨rfl, HB.out⟩)
/-- The batches that Void lists, behind n of the finds, ahead of the sorting. -/
def listV (ns : List Int) (l : List Fo) : List Int := (l.filter fun f => !countO ns f.bt).map Fo.bt
theorem listV_next {ns : List Int} {l : List Fo} {n : Nat} (h : n < l.length) : listV ns (l.take (n + 1)) = if countO ns l[n].bt = true then listV ns (l.take n) else listV ns (l.take n) ++ [l[n].bt] := by
  unfold listV
  rw [← List.take_append_getElem h, List.filter_append, List.map_append]
  by_cases hc : countO ns l[n].bt = true <;> simp [hc]
structure Vd (w0 : World) (ns : List Int) (q bd : Nat) (U : List Int) (v : Value) (W : World) : Prop where
  cnt : Cnt ns q bd W
  own : W.ownsRow bd 26 1 v U.length (nums .u64 U)
  below : Below w0.heap.size w0 W
  lo : w0.heap.size ≤ bd
  hi : bd ≤ W.heap.size
section
variable {w0 W W5 W6 : World} {ns : List Int} {q bd : Nat} {U : List Int} {v : Value}
theorem Vd.later (h : Vd w0 ns q bd U v W) (hb : Below W.heap.size W W5) : Vd w0 ns q bd U v W5 :=
  ⟨h.cnt.below (hb.mono h.hi), own_keepT h.own hb, h.below.trans (hb.mono h.below.size), h.lo, Nat.le_trans h.hi hb.size⟩
theorem Vd.more {A : Option Addr} {c : Nat} {z : Int} (h : Vd w0 ns q bd U v W) (hb : Below W.heap.size W W5)
    (hown : W6.ownsRow bd 26 1 (.slice A (U.length + 1) c) (U.length + 1) (nums .u64 U ++ [.int .u64 z])) (hg : W5.grownBy W6 v.ownBlock) : Vd w0 ns q bd (U ++ [z]) (.slice A (U.length + 1) c) W6 := by
  have h5 := h.later hb
  have hl := own_lowS h5.own
  have hbb : Below bd W5 W6 := (Below.refl bd W5).grown hg h5.hi (fun j e => (hl j e).1)
  refine ⟨h5.cnt.below hbb, ?_, h5.below.trans (hbb.mono h.lo), h.lo, Nat.le_trans h5.hi hg.size⟩
  have e1 : (U ++ [z]).length = U.length + 1 := by simp
  rw [e1, show nums .u64 (U ++ [z]) = nums .u64 U ++ [.int .u64 z] by simp [nums]]
  exact hown
end
set_option maxHeartbeats 4000000 in
theorem void_one (A A2 : Option Addr) (n c n2 c2 B : Nat) (l : List Fo) (vs : List Int) (z : Int) (w : World) (hl : Lies w B A (rowO l)) (hv : Lies w B A2 (nums .u64 vs)) (hB : B ≤ w.heap.size) (hn : n = l.length) (hn2 : n2 = vs.length) (hbig : n ≤ 2000) (hbig2 : n2 ≤ 45) (hU : listV (voidO l vs) l = [z]) :
    Calls Try.prog 13 #[.slice A n c, .slice A2 n2 c2] w fun e w' => ∃ (A3 : Option Addr) (c3 : Nat), e = .returned (.slice A3 1 c3) ∧ Lies w' w'.heap.size A3 [.int .u64 z] ∧ Below w.heap.size w w' := by
  have F1 := hide (counter_any A A2 n c n2 c2 B l vs w hl hv hB hn hn2 hbig hbig2)
  generalize voidO l vs = ns at *
  have HL := hide hl
  have HB := hide hB
  have Hn := hide hn
  have Hbig := hide hbig
  have HU := hide hU
  have eg : ∀ args w, (callFunc 34 args).run Try.prog w = .ok (.enter 34 args) w := enters_of Try.func34 (by kernel_rfl) rfl
  clear hl hv hn hn2 hbig hbig2 hB hU
  go_enter Try.func13, Try.ntmps13
  go_wp2_with fail
  (with_reducible refine F1.out.mono ?_)
  rintro e w1 ⟨q, rfl, hc, hlt, hb⟩
  have C0 : Hid (Vd w ns q w1.heap.size (listV ns (l.take 0)) (.slice none 0 0) w1) := hide ⟨hc, World.ownsRow_nil _ _ _ _, hb, hb.size, Nat.le_refl _⟩
  clear F1 hc hlt hb
  go_wp2_with fail
  generalize w1.heap.size = bd at *
  go_loopw [6, 8, 14] (fun v _ i wr => ∃ k : Nat, k ≤ n ∧ i = .int .i64 (k : Int) ∧ Hid (Vd w ns q bd (listV ns (l.take k)) v wr)) (fun _ _ i _ => n - (intOf i).toNat)
  case atStart => exact ⟨0, Nat.zero_le _, rfl, C0⟩
  case round =>
    clear C0
    obtain ⟨k, hk, rfl, HC⟩ := hrel
    by_cases hlt : k < n
    · have hlt' : (k : Int) < (n : Int) := by omega
      have e7 : wrap64 ((k : Int) + 1) = ((k + 1 : Nat) : Int) := by have := Hbig.out; unfold wrap64; omega
      have hnl : k < l.length := by rw [← Hn.out]; exact hlt
      obtain ⟨ad, rfl, hab, hca⟩ := (HL.out.below (HC.out.below.mono HB.out)).elem Fo.cells_len hnl (by decide)
      have Hca := hide hca
      have Hnx := hide (listV_next (ns := ns) hnl)
      have HUl : Hid ((listV ns (l.take k)).length ≤ 2000) := hide (by unfold listV; rw [List.length_map]; exact Nat.le_trans (List.length_filter_le _ _) (by rw [List.length_take]; have := Hbig.out; omega))
      generalize listV ns (l.take k) = U at *
      generalize l[k] = f at *
      clear hca hab hnl
      rcases f with ⟨fx, fy, kd, ix, ct, bt, op, lp, ln⟩
      have HX4 := hide (BoxO.new ⟨fx, fy, kd, ix, ct, bt, op, lp, ln⟩ wr)
      have HA4 := hide (HC.out.later ((Below.refl wr.heap.size wr).alloc (Nat.le_refl _) (.cells (Fo.cells ⟨fx, fy, kd, ix, ct, bt, op, lp, ln⟩).toArray 34)))
      unfold Fo.cells at *
      dsimp only at *
      go_upto_region 6 with (with_reducible refine wpl_load_addr rfl 34 (.tmp 16) rfl (ad.add (k * 9)) _ Hca.out rfl _ Try.underlying34 rfl 9 infoFo rfl ?_)
      generalize wr.alloc (.cells #[.int .i64 fx, .int .i64 fy, .int .i64 kd, .int .i64 ix, .int .i64 ct, .int .u64 bt, .int .u64 op, .int .i64 lp, .int .i64 ln] 34) = w4 at *
      have x5 := HX4.out.c 5 _ rfl
      dsimp only at x5
      have F := hide (counts_any ns q bd bt w4 HA4.out.cnt)
      obtain ⟨cn, hcn⟩ : ∃ cn, countO ns bt = cn := ⟨_, rfl⟩
      rw [hcn] at F Hnx
      clear hcn HC
      cases cn with
      | true =>
        have HN := hide (show Vd w ns q bd (listV ns (l.take (k + 1))) _ w4 by rw [Hnx.out, if_pos rfl]; exact HA4.out)
        go_wp2_with (first | (go_at_fn 34; (with_reducible refine F.out.mono ?_); rintro e w' ⟨rfl, rfl⟩))
        go_roundw
        case rel => exact ⟨k + 1, hlt, congrArg (Value.int .i64) e7, HN⟩
        case measure => first | exact measT hlt | exact measT2 e7 hlt
      | false =>
        have HA5 := hide ((Below.refl w4.heap.size w4).alloc (Nat.le_refl _) (.cells #[.int .u64 bt] 26))
        have Hlt := hide hlt
        have E7 := hide e7
        go_wp2_with (first
          | (go_at_fn 34; (with_reducible refine F.out.mono ?_); rintro e w' ⟨rfl, rfl⟩)
          | (at_builtin; refine wpl_app _ rfl u64elemsT (.tmp 24) (.tmp 28) rfl bd _ U.length (nums .u64 U) rfl (own_keepT HA4.out.own HA5.out) (w4.heap.size + 1) (some ⟨w4.heap.size, 0, none⟩) 1 1 [.int .u64 bt] rfl (by rfl) (Lies.new w4 #[.int .u64 bt] 26 (0, 0) _ (Nat.lt_succ_self _)) (by simp [Value.oneCell']) (by have := HUl.out; unfold maxLen; omega) (by have := HUl.out; omega) (Nat.le_trans HA4.out.hi HA5.out.size) ?_; intro A4 c4 w6 hown hg hat; have HN := hide (show Vd w ns q bd (listV ns (l.take (k + 1))) (.slice A4 (U.length + 1) c4) w6 by rw [Hnx.out, if_neg (by decide)]; exact HA4.out.more HA5.out hown hg); clear hown hg hat))
        go_roundw
        case rel => exact ⟨k + 1, Hlt.out, congrArg (Value.int .i64) E7.out, HN⟩
        case measure => first | exact measT Hlt.out | exact measT2 E7.out Hlt.out
    · obtain rfl : k = n := by omega
      have e : l.take k = l := List.take_of_length_le (by rw [← Hn.out]; exact Nat.le_refl _)
      rw [e, HU.out] at HC
      have F := hide (So.sortAny_u64 _ _ [z] wr HC.out.own (by simp))
      have HV := HC
      clear HC e hlt hk HL HB Hn Hbig HU
      go_wp2_with fail
      (with_reducible refine F.out.mono ?_)
      rintro e w3 ⟨rfl, R, h1, _, h3, h4⟩
      have hR : R = [z] := List.perm_singleton.1 h1
      subst hR
      obtain ⟨A3, c3, rfl, _, _⟩ := own_form HV.out.own
      have HE := hide (And.intro (Lies.of_own h3) (HV.out.below.grown h4 HV.out.below.size (fun j e => by have := (own_lowS HV.out.own j e).1; have := HV.out.lo; omega)))
      have FC := hide (compact_one A3 c3 w3)
      clear F h1 h3 h4 HV
      go_wp2_with fail
      (with_reducible refine FC.out.mono ?_)
      rintro e w4 ⟨rfl, rfl⟩
      go_wp2
      go_ret
      exact ⟨A3, c3, rfl, HE.out⟩
end Go.Proofs.Ytjdaoenapmjoeaa
