/-
  LAYER 20, THE LIBRARY: slices.Values, slices.AppendSeq, slices.Collect and slices.Sorted of a list of numbers; slices.Sorted of what a map's keys are.
-/
import Derived.Test.YtofokljhlcdebaaTbM
import Derived.Test.YtofokljhlcdebaaElem
import Derived.Test.YtofokljhlcdebaaRowK
import Derived.Test.YtofokljhlcdebaaShelP
import Derived.RangeFuncNested
import Derived.RangeFuncBound
import Derived.RangeFuncCalls
import Derived.RangeFuncLeaves
import Derived.RangeFuncBox
import Derived.Shelf.Abstract
import Derived.Shelf.RegionOpen
import Derived.OwnWalkIn
import Derived.TacticsInMore
import Derived.LoopNIn
import Derived.LoopIn
namespace Go.Proofs.Ytofokljhlcdebaa
open Go.RowKit Go.Shelf Go.Sort
attribute [local go_sem] Oper.semAt_some
namespace Pk

theorem takeOne {zs : List Int} {k : Nat} (h : k < zs.length) : zs.take (k + 1) = zs.take k ++ [zs.getD k 0] := by
  rw [← List.take_append_getElem h]
  simp [List.getD, List.getElem?_eq_getElem h]
set_option maxRecDepth 100000 in
set_option maxHeartbeats 2000000 in
/-- The iterator of a list of numbers, for every loop body that keeps what lay below n0. -/
theorem values1_in (F : Fence) (n : Nat) (h7 : F.fn 87) (hro : F.round = none) (hn : 1 ≤ n) (l Bs n0 : Nat) (A : Option Addr) (cap : Nat) (zs : List Int) (J Jx : List Int → World → Prop) (hbig : zs.length ≤ 1000000)
    (hY : ∀ pre x W, J pre W → pre.length < zs.length → YieldAt F (n - 1) Try.prog l #[.int .i64 x] W fun e W' =>
      (e = .returned (.bool true) ∧ J (pre ++ [x]) W' ∧ Below n0 W W') ∨ (e = .returned (.bool false) ∧ Jx (pre ++ [x]) W'))
    (W : World) (hBs : W.cell? ⟨Bs, 0, none⟩ = some (.slice A zs.length cap)) (hc : Lies W n0 A (nums .i64 zs)) (h0 : J [] W) :
    CallsIn F n Try.prog 87 #[.func (.yield l) #[] #[], .pointer (some ⟨Bs, 0, none⟩)] W fun e W' => (∃ v, e = .returned v) ∧
      ((∃ ys, ys = zs ∧ J ys W') ∨ (∃ pre, pre <+: zs ∧ Jx pre W')) := by
  have HY := hide hY
  have HC := hide hc
  have Hbig := hide hbig
  obtain ⟨N, hN⟩ : ∃ N, zs.length = N := ⟨_, rfl⟩
  have HN := hide hN
  rw [hN] at hBs
  clear hY hc hN hbig
  refine callsIn_of_wp Try.func87 rfl h7 ?_ hro
  simp only [Try.ntmps87, List.size_toArray, List.length_cons, List.length_nil, Nat.reduceAdd, Nat.reduceSub, Array.replicate_succ, Array.replicate_zero, List.push_toArray, List.append_toArray, List.nil_append, List.cons_append]
  gi_wp2
  gi_loopw [7] (fun i wr => ∃ k : Nat, k ≤ N ∧ i = .int .i64 k ∧ Hid (J (zs.take k) wr) ∧ Hid (Below n0 W wr))
    (fun i _ => N - (intOf i).toNat)
  case atStart => exact ⟨0, Nat.zero_le _, rfl, hide h0, hide (Below.refl _ _)⟩
  case round =>
    obtain ⟨k, hk, rfl, hJs, hnx⟩ := hrel
    by_cases hlt : k < N
    · have hlt' : (k : Int) < (N : Int) := by omega
      have hkz : k < zs.length := by rw [HN.out]; exact hlt
      have e7 : wrap64 ((k : Int) + 1) = ((k + 1 : Nat) : Int) := by have := Hbig.out; have := HN.out; unfold wrap64; omega
      obtain ⟨a, rfl, hab, hca⟩ := (HC.out.below hnx.out).num hkz
      have ht := hide (takeOne hkz)
      obtain ⟨fn, tmps, assign, body, hy, hR⟩ := HY.out _ (zs.getD k 0) wr hJs.out (by rw [List.length_take, HN.out]; omega)
      have hR2 := hide hR
      generalize zs.getD k 0 = z at *
      clear hkz hR
      gi_wp2
      refine hR2.out.mono ?_
      rintro e W3 (⟨rfl, hJ3, hk3⟩ | ⟨rfl, hJx3⟩)
      · have HJ := hide hJ3
        have HK := hide hk3
        clear hJ3 hk3 hR2 hy
        gi_wp2
        go_roundw
        case rel => exact ⟨k + 1, hlt, congrArg (Value.int .i64) e7, hide (by rw [ht.out]; exact HJ.out), hide (hnx.out.trans HK.out)⟩
        case measure => first | exact measT hlt | exact measT2 e7 hlt
      · have HJ := hide hJx3
        clear hJx3 hR2 hy
        gi_wp2
        refine bodyPost_ret (results_none rfl _ _ _) rfl ?_
        exact ⟨⟨_, rfl⟩, .inr ⟨_, by rw [← ht.out]; exact List.take_prefix _ _, HJ.out⟩⟩
    · obtain rfl : k = N := by omega
      have hJ2 := hJs.out
      rw [List.take_of_length_le (by rw [HN.out]; exact Nat.le_refl _)] at hJ2
      have HJ := hide hJ2
      clear hJ2 hJs
      gi_wp2
      go_end0
      exact ⟨⟨_, rfl⟩, .inl ⟨_, rfl, HJ.out⟩⟩
/-- .. as a value that may be ranged over. -/
theorem values_stops (F : Fence) (n : Nat) (h7 : F.fn 87) (hro : F.round = none) (hn : 1 ≤ n) (Bs n0 : Nat) (A : Option Addr) (cap : Nat) (zs : List Int) (hbig : zs.length ≤ 1000000) (w : World) (hBs : Bs < w.heap.size) (hn0 : n0 ≤ w.heap.size)
    (hc : w.cell? ⟨Bs, 0, none⟩ = some (.slice A zs.length cap)) (hI : Lies w n0 A (nums .i64 zs)) :
    SeqStopsK F n Try.prog 87 #[.pointer (some ⟨Bs, 0, none⟩)] (fun x : Int => #[Value.int .i64 x]) (Below n0) (fun ys => ys = zs) (fun pre => pre <+: zs) zs.length w := fun l J Jx W hW _ _ hY h0 =>
  values1_in F n h7 hro hn l Bs n0 A cap zs J Jx hbig hY W ((hW.cell (p := ⟨Bs, 0, none⟩) hBs).trans hc) (hI.below (hW.mono hn0)) h0
theorem infoI : (Try.prog.info? 3).map (fun i => (i.zero, i.size, i.bytes)) = some (some (.int .i64 0), 1, 8) := by kernel_rfl
set_option maxRecDepth 100000 in
set_option maxHeartbeats 2000000 in
/-- slices.AppendSeq of nothing and a list's iterator: the list, in a row of its own. -/
theorem append_in (F : Fence) (n : Nat) (h3 : F.fn 90) (h7 : F.fn 87) (hro : F.round = none) (hn : 3 ≤ n) (Bs : Nat) (A : Option Addr) (cap : Nat) (zs : List Int) (hbig : zs.length ≤ 1000000) (w : World) (hBs : Bs < w.heap.size)
    (hc : w.cell? ⟨Bs, 0, none⟩ = some (.slice A zs.length cap)) (hI : Lies w w.heap.size A (nums .i64 zs)) :
    CallsIn F n Try.prog 90 #[.slice none 0 0, .func (.func 87) #[] #[.pointer (some ⟨Bs, 0, none⟩)]] w fun e W' => ∃ v : Value, e = .returned v ∧ W'.ownsRow w.heap.size 3 1 v zs.length (nums .i64 zs) ∧ Below w.heap.size w W' := by
  have h1 : 1 ≤ n := by omega
  obtain ⟨i0, hi, hz0, hz1, hz2⟩ := info_parts infoI
  refine callsIn_of_wp_marks Try.func90 rfl h3 ?_ hro
  simp only [Try.ntmps90, List.size_toArray, List.length_cons, List.length_nil, Nat.reduceAdd, Nat.reduceSub, Array.replicate_succ, Array.replicate_zero, List.push_toArray, List.append_toArray, List.nil_append, List.cons_append]
  gi_wp2
  have bS := Boxed.new w 44 (.slice none 0 0)
  have hB0 : Below w.heap.size w (w.alloc (.cells #[.slice none 0 0] 44)) := (Below.refl _ w).alloc (Nat.le_refl _) _
  refine wpIn_rangeFunc_ownG hro h1 (gf := 87) (lb := #[.pointer (some ⟨Bs, 0, none⟩)]) rfl h7 (enters_of Try.func87 (by kernel_rfl) rfl)
    (values_stops F (n - 1) h7 hro (by omega) Bs w.heap.size A cap zs hbig _ (by simp; omega) (by simp) ((hB0.cell (p := ⟨Bs, 0, none⟩) hBs).trans hc) (hI.below hB0)) belowK_t (belowK_b (by simp)) (Below.refl _ _) (fun _ => rfl)
    (fun pre W => (∃ v, Boxed W w.heap.size 44 v ∧ W.ownsRow w.heap.size 3 1 v pre.length (nums .i64 pre) ∧ True) ∧ Below w.heap.size w W)
    (fun _ _ _ => False)
    (OwnFrom.and (Own.from (holdsRow_own w.heap.size w.heap.size 44 3 1 (fun pre : List Int => pre.length) (fun pre => nums .i64 pre) (fun _ _ => True)) _) (ownFrom_below (Nat.le_refl _) (by simp)))
    (fun _ _ _ _ _ hs _ _ => hs)
    ⟨⟨_, bS, World.ownsRow_nil _ _ _ _, trivial⟩, hB0⟩
    (fun x => { tmps := #[.slice none 0 0, .func (.func 87) #[] #[.pointer (some ⟨Bs, 0, none⟩)], .pointer (some ⟨w.heap.size, 0, none⟩), undef, .slice none 0 0, .int .i64 x, .func (.func 87) #[] #[.pointer (some ⟨Bs, 0, none⟩)], .int .i64 x, undef, undef, undef, undef, undef], defers := [] }) ?assign ?body ?done ?stop
  case assign =>
    intro l x W K hK
    gi_wp2
    exact hK
  case body =>
    rintro l pre x W ⟨⟨v, hv, hrow, _⟩, hB⟩ hlen
    have hvc := hv.cell
    have hlb : pre.length + 1 ≤ 1000000 := by omega
    gi_wp2_with (first
      | (gi_at_builtin; refine wpListIn_append_own _ rfl _ _ 44 rfl w.heap.size 3 i0 (.int .i64 0) 1 8 Try.underlying44 hi hz0 hz1 hz2 rfl (by decide) _ _ _ rfl (hrow.alloc _) ⟨W.heap.size, 0, none⟩ 1 1 [.int .i64 x] rfl rfl (cell_one_new _ _ _) (by simp [Value.oneCell']) (by unfold maxLen; omega) (by omega) (by have := hB.size; simp; omega) ?_; intro v' w1 hown' hgrow _; obtain ⟨g', cap', rfl⟩ := ownsRow_succ hown'; obtain ⟨hv1, hv2, hr2, hk2, hb2⟩ := hv.appended (by decide) hrow hB.size (Nat.le_refl _) hown' hgrow; have hc1 := hv1.cell; have hf1 := hv1.frozen))
    have e1 : (pre ++ [x]).length = pre.length + 1 := by simp
    exact ⟨hk2.from _, hb2, ⟨_, hv2, by rw [e1, nums_app]; exact hr2, trivial⟩, hB.trans hb2⟩
  case done =>
    rintro D ys W hD rfl ⟨⟨v, hv, hrow, _⟩, hB⟩ hK
    have hvc := hv.cell
    gi_wp2
    refine ⟨by simp, .inl ⟨_, _, rfl, run_takeDeferred hK, ?_⟩⟩
    exact ⟨_, results_tmp rfl _ _ _, v, rfl, ownsRow_putObj hrow _ hK rfl, hB.trans (belowK_b (w := w) (Nat.le_refl _) W D _ _ (by simp at hD; omega) hK rfl rfl)⟩
  case stop =>
    rintro D c pre W _ _ h _
    exact h.elim
/-- slices.Collect of a list's iterator. -/
theorem collect_any (Bs : Nat) (A : Option Addr) (cap : Nat) (zs : List Int) (hbig : zs.length ≤ 1000000) (w : World) (hBs : Bs < w.heap.size)
    (hc : w.cell? ⟨Bs, 0, none⟩ = some (.slice A zs.length cap)) (hI : Lies w w.heap.size A (nums .i64 zs)) :
    Calls Try.prog 66 #[.func (.func 87) #[] #[.pointer (some ⟨Bs, 0, none⟩)]] w fun e W' => ∃ v : Value, e = .returned v ∧ W'.ownsRow w.heap.size 3 1 v zs.length (nums .i64 zs) ∧ Below w.heap.size w W' := by
  have F := hide (callsIn_wide.1 (append_in Fence.wide 5 trivial trivial rfl (by omega) Bs A cap zs hbig w hBs hc hI))
  clear hc hI hBs hbig
  go_enter Try.func66, Try.ntmps66
  go_wp2_with (go_at_call 90; (with_reducible refine F.out.mono ?_); rintro e w' ⟨v, rfl, hrow, hb⟩)
  have HR := hide (And.intro hrow hb)
  clear hrow hb F
  go_ret
  exact ⟨v, rfl, HR.out⟩
theorem sorted_asc (l : List Int) : (l.mergeSort fun x y => decide (x ≤ y)).Pairwise (· ≤ ·) := by
  have := List.pairwise_mergeSort (le := fun x y : Int => decide (x ≤ y)) (fun a b c h1 h2 => by simp at *; omega) (fun a b => by simp; omega) l
  exact this.imp fun h => by simpa using h
/-- slices.Sort of a row of numbers of an own. -/
theorem sort_any (v : Value) (l : List Int) (base : Nat) (w : World) (h : w.ownsRow base 3 1 v l.length (nums .i64 l)) (hbig : l.length ≤ 1000000) :
    Calls Try.prog 67 #[v] w fun e w' => e = .returned (.tuple #[]) ∧ w.grownBy w' v.ownBlock ∧ w'.ownsRow base 3 1 v l.length (nums .i64 (l.mergeSort fun x y => decide (x ≤ y))) := by
  have hw := h
  rcases h.2 with ⟨rfl, h0⟩ | ⟨g, cap, cur, rfl, hb0, hg, r1, r2, r3, r4⟩
  · have hl : l = [] := List.eq_nil_of_length_eq_zero h0
    subst hl
    refine (AnyM.slices_Sort_int_none Try.laySortI none 0 w).mono ?_
    rintro e w' ⟨rfl, rfl⟩
    exact ⟨rfl, ⟨rfl, rfl, rfl, Nat.le_refl _, fun _ _ _ => rfl⟩, by simpa using hw⟩
  · have hgl := (own_lowS hw g rfl).2
    have := AnyM.slices_Sort_int Try.laySortI g 0 cap l w (holds_of_block_i hg (by simpa [nums] using r4)) hgl (by omega)
    change Calls Try.prog 67 _ _ _ at this
    refine this.mono ?_
    rintro e w' ⟨rfl, nn, os, rfl⟩
    exact ⟨rfl, grownBy_sorted_i _, ownsRow_sorted_i (by simp) hb0 hg r1 r2 r3⟩
/-- slices.Sorted of whatever Collect collects. -/
theorem sorted_of {sv : Value} {S : List Int → Prop} (w : World) (F : Calls Try.prog 66 #[sv] w fun e W' => ∃ (v : Value) (l : List Int), e = .returned v ∧ S l ∧ l.length ≤ 1000000 ∧ W'.ownsRow w.heap.size 3 1 v l.length (nums .i64 l) ∧ Below w.heap.size w W') :
    Calls Try.prog 47 #[sv] w fun e W' => ∃ (v : Value) (l : List Int), e = .returned v ∧ S l ∧ W'.ownsRow w.heap.size 3 1 v l.length (nums .i64 (l.mergeSort fun x y => decide (x ≤ y))) ∧ Below w.heap.size w W' := by
  have F := hide F
  go_enter Try.func47, Try.ntmps47
  go_wp2_with fail
  (with_reducible refine F.out.mono ?_)
  rintro e w1 ⟨v, l, rfl, hS, hbig, hrow, hb⟩
  have FS := hide (sort_any v l w.heap.size w1 hrow hbig)
  have HS := hide hS
  have HB := hide hb
  have Hlow := hide (own_lowS hrow)
  clear hS hbig hrow hb F
  go_wp2_with fail
  (with_reducible refine FS.out.mono ?_)
  rintro e w2 ⟨rfl, hg, hrow⟩
  have HR := hide (And.intro hrow (HB.out.grown hg HB.out.size (fun j e => (Hlow.out j e).1)))
  clear hg hrow FS
  go_wp2
  go_ret
  exact ⟨v, l, rfl, HS.out, HR.out⟩
theorem values_any (A : Option Addr) (n c : Nat) (w : World) : Calls Try.prog 63 #[.slice A n c] w fun e w' => e = .returned (.func (.func 87) #[] #[.pointer (some ⟨w.heap.size, 0, none⟩)]) ∧ w' = w.alloc (.cells #[.slice A n c] 44) := by
  go_enter Try.func63, Try.ntmps63
  go_wp2
  go_ret
  exact ⟨rfl, rfl⟩
/-- slices.Sorted(slices.Values(l)), behind Values. -/
theorem sortedVals_any (A : Option Addr) (c : Nat) (zs : List Int) (hbig : zs.length ≤ 1000000) (w : World) (hI : Lies w w.heap.size A (nums .i64 zs)) :
    Calls Try.prog 47 #[.func (.func 87) #[] #[.pointer (some ⟨w.heap.size, 0, none⟩)]] (w.alloc (.cells #[.slice A zs.length c] 44)) fun e W' => ∃ v : Value, e = .returned v ∧ W'.ownsRow w.heap.size 3 1 v zs.length (nums .i64 (zs.mergeSort fun x y => decide (x ≤ y))) ∧ Below w.heap.size w W' := by
  have hb0 : Below w.heap.size w (w.alloc (.cells #[.slice A zs.length c] 44)) := (Below.refl _ w).alloc (Nat.le_refl _) _
  have FC := collect_any w.heap.size A c zs hbig (w.alloc (.cells #[.slice A zs.length c] 44)) (by simp) (by simp) ((hI.below hb0).up hb0.size)
  refine (sorted_of (S := fun l => l = zs) _ (FC.mono ?_)).mono ?_
  · rintro e W ⟨v, rfl, hrow, hb⟩
    exact ⟨v, zs, rfl, rfl, hbig, hrow, hb⟩
  · rintro e W ⟨v, l, rfl, rfl, hrow, hb⟩
    refine ⟨v, rfl, ⟨hrow.1, ?_⟩, hb0.trans (hb.mono hb0.size)⟩
    rcases hrow.2 with h | ⟨g, cap, cur, hv, h3, h4⟩
    · exact .inl h
    · exact .inr ⟨g, cap, cur, hv, Nat.le_trans hb0.size h3, h4⟩
open Go.Maps in
/-- slices.Sorted(maps.Keys(m)), behind Keys. -/
theorem sortedKeys_any {H : Type} (b nn : Nat) (D0 : DataW H) (R : Value → Option (DataW H × List MemPlace)) (w : World) (hown : w.ownsMap Try.prog 3 R b nn D0) (hbig : Maps.size D0 ≤ 1000000) :
    Calls Try.prog 47 #[.func (.func 68) #[] #[.pointer (some ⟨w.heap.size, 0, none⟩)]] (w.alloc (.cells #[.map (some b)] 73)) fun e W' => ∃ (v : Value) (ss : List Int), e = .returned v ∧ ss.Perm (intKeys D0) ∧ W'.ownsRow w.heap.size 3 1 v ss.length (nums .i64 (ss.mergeSort fun x y => decide (x ≤ y))) ∧ Below w.heap.size w W' := by
  have hbl := hown.lt
  have hb0 : Below w.heap.size w (w.alloc (.cells #[.map (some b)] 73)) := (Below.refl _ w).alloc (Nat.le_refl _) _
  have hseq : SeqGives Fence.wide 5 Try.prog 68 #[.pointer (some ⟨w.heap.size, 0, none⟩)] encZ (fun ss => ss.Perm (intKeys D0)) (Maps.size D0) (w.alloc (.cells #[.map (some b)] 73)) :=
    AnyZI.keys_gives (ρ := Try.layKeys_ren) { Try.layKeys with } Fence.wide _ trivial rfl (by omega) w.heap.size b nn D0 _ (by simp) (by simp) (by
      obtain ⟨es, clock, hb, Ft, hs, hD⟩ := hown
      exact ⟨es, clock, (Below.heap_alloc _ _ b hbl).trans hb, Ft, hs, hD⟩)
  have FC := AnyZI.sorted_in Try.laySorted Fence.wide 8 trivial trivial trivial trivial rfl (by omega) ⟨fun blk off cap ss W hH hblk hsz => callsIn_wide.2 (AnyM.slices_Sort_int Try.laySortI blk off cap ss W hH hblk hsz), fun p cap W => callsIn_wide.2 (AnyM.slices_Sort_int_none Try.laySortI p cap W)⟩ (enters_of Try.func67 (by kernel_rfl) rfl) 68 #[.pointer (some ⟨w.heap.size, 0, none⟩)] trivial (enters_of Try.func68 (by kernel_rfl) rfl) _ _ (by unfold maxLen; omega) (by omega) _ hseq
  refine (callsIn_wide.1 FC).mono ?_
  rintro e W ⟨v, ss, rfl, hS, hrow, _, hb⟩
  refine ⟨v, ss, rfl, hS, ⟨hrow.1, ?_⟩, hb0.trans (hb.mono hb0.size)⟩
  rcases hrow.2 with h | ⟨g, cap, cur, hv, h3, h4⟩
  · exact .inl h
  · exact .inr ⟨g, cap, cur, hv, Nat.le_trans hb0.size h3, h4⟩
theorem keys_any (b : Option Nat) (w : World) : Calls Try.prog 48 #[.map b] w fun e w' => e = .returned (.func (.func 68) #[] #[.pointer (some ⟨w.heap.size, 0, none⟩)]) ∧ w' = w.alloc (.cells #[.map b] 73) := by
  go_enter Try.func48, Try.ntmps48
  go_wp2
  go_ret
  exact ⟨rfl, rfl⟩
end Pk
end Go.Proofs.Ytofokljhlcdebaa
