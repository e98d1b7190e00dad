/-
  CONTRACTS of package bundle: numbered and beside, and the functions that they make.
-/
import Derived.Test.YtlbgcbekjjkokaaIdx
import Derived.Test.YtlbgcbekjjkokaaFlow
import Derived.Deep.RegionWith
import Derived.Deep.DeepCutAuto
namespace Go.Proofs.Ytlbgcbekjjkokaa
open Go.RowKit

theorem bnumbered_any (num : Nat) (w : World) : Calls Try.prog 49 #[.int .u64 (num : Int)] w fun e w' => e = .returned (.func (.func 58) #[] #[.pointer (some ⟨w.heap.size, 0, none⟩)]) ∧ w' = w.alloc (.cells #[.int .u64 (num : Int)] 22) := by
  go_enter Try.func49, Try.ntmps49
  go_wp2
  go_ret
  exact ⟨rfl, rfl⟩

theorem numbered1_any (b : Bk) (num g : Nat) (w : World) (hg : g < w.heap.size) (hc : w.cell? ⟨g, 0, none⟩ = some (.int .u64 (num : Int))) :
    Calls Try.prog 58 #[.agg b.cells.toArray, .pointer (some ⟨g, 0, none⟩)] w fun e w' => e = .returned (.bool (decide (b.num = num))) ∧ Below w.heap.size w w' := by
  rcases b with ⟨ty, bn, fl, crc, data⟩
  have hc' : ∀ o, (w.alloc o).cell? ⟨g, 0, none⟩ = some (.int .u64 (num : Int)) := fun o => (((Below.refl w.heap.size w).alloc (Nat.le_refl _) o).cell (p := ⟨g, 0, none⟩) hg).trans hc
  have hne : g ≠ w.heap.size := by omega
  have HD := hide (show ((bn : Int) == (num : Int)) = decide (bn = num) by
    by_cases h : bn = num
    · rw [decide_eq_true h, h]; exact beq_self_eq_true _
    · rw [decide_eq_false h]; exact beq_eq_false_iff_ne.2 (by omega))
  have HB := hide (fun o => (Below.refl w.heap.size w).alloc (Nat.le_refl _) o)
  simp only [Bk.cells]
  clear hc
  go_enter Try.func58, Try.ntmps58
  go_wp2
  go_ret
  exact ⟨by first | rfl | exact ret_bool HD.out, HB.out _⟩

theorem beside_any (A : Option Addr) (n c : Nat) (w : World) : Calls Try.prog 31 #[.slice A n c] w fun e w' => e = .returned (.func (.func 47) #[] #[.pointer (some ⟨w.heap.size, 0, none⟩)]) ∧ w' = w.alloc (.cells #[.slice A n c] 29) := by
  go_enter Try.func31, Try.ntmps31
  go_wp2
  go_ret
  exact ⟨rfl, rfl⟩

/-- The function that numbered makes. -/
def isCl (num : Nat) : Value → World → Prop := fun v W => ∃ g, v = .func (.func 58) #[] #[.pointer (some ⟨g, 0, none⟩)] ∧ g < W.heap.size ∧ W.cell? ⟨g, 0, none⟩ = some (.int .u64 (num : Int))
theorem clF {num : Nat} {f : FuncId} {args : Array Value} {w : World} (h : Calls Try.prog f args w fun e w' => e = .returned (.func (.func 58) #[] #[.pointer (some ⟨w.heap.size, 0, none⟩)]) ∧ w' = w.alloc (.cells #[.int .u64 (num : Int)] 22)) :
    Calls Try.prog f args w fun e w' => ∃ v, e = .returned v ∧ Below w.heap.size w w' ∧ Keeps (isCl num) v w' := by
  refine h.mono ?_
  rintro e w' ⟨rfl, rfl⟩
  refine ⟨_, rfl, (Below.refl w.heap.size w).alloc (Nat.le_refl _) _, fun W hW => ⟨w.heap.size, rfl, ?_, ?_⟩⟩
  · have := hW.size; simp at this; omega
  · exact (hW.cell (p := ⟨w.heap.size, 0, none⟩) (by simp)).trans (by rw [cell_of_row _ _ _ _ _ _ (heap_alloc_last w _)]; rfl)

/-- May the block at a place of a list be there, beside those ahead of it? -/
def besideB (l : List Bk) (k : Nat) (x : Bk) : Bool := !decide (x.ty = 1) && (decide (2 ≤ x.num) && !(l.take k).any fun y => decide (y.num = x.num))

set_option maxRecDepth 100000 in
set_option maxHeartbeats 1000000 in
theorem beside1_any (A : Option Addr) (n c B q k : Nat) (l : List Bk) (w : World) (h : Lies w B A (l.flatMap Bk.cells)) (hn : n = l.length) (hnc : n ≤ c) (hB : B ≤ w.heap.size) (hbig : n ≤ 1000000000000) (hk : k < l.length) (hq : q < w.heap.size) (hc : w.cell? ⟨q, 0, none⟩ = some (.slice A n c)) :
    Calls Try.prog 47 #[.int .i64 (k : Int), .pointer (some ⟨q, 0, none⟩)] w fun e w' => e = .returned (.bool (besideB l k l[k])) ∧ Below w.heap.size w w' := by
  have eg : ∀ args w, (callFunc 58 args).run Try.prog w = .ok (.enter 58 args) w := enters_of Try.func58 (by kernel_rfl) rfl
  obtain ⟨a, rfl, _, hca⟩ := h.elem (f := Bk.cells) (m := 5) Bk.cells_len hk (by omega)
  obtain ⟨A, hA⟩ : ∃ A, A = some a := ⟨_, rfl⟩
  have hkn : (k : Int) < (n : Int) := by omega
  have hkc : (k : Int) ≤ (c : Int) := by omega
  have Hca := hide hca
  clear hca
  have hrow : Lies w B (some a) ((l.take k).flatMap Bk.cells) := by
    have := h.take (k * 5)
    have e : (l.flatMap Bk.cells).take (k * 5) = (l.take k).flatMap Bk.cells := by
      have e2 : l.flatMap Bk.cells = (l.take k).flatMap Bk.cells ++ (l.drop k).flatMap Bk.cells := by rw [← List.flatMap_append, List.take_append_drop]
      rw [e2, List.take_left' (by rw [flat_len _ 5 Bk.cells_len, List.length_take]; omega)]
    rwa [e] at this
  have hlk : k = (l.take k).length := by rw [List.length_take]; omega
  have HC := hide (fun (num : Nat) W (hb : Below w.heap.size w W) g (hg : g < W.heap.size) (hcg : W.cell? ⟨g, 0, none⟩ = some (.int .u64 (num : Int))) =>
    containsB_any 58 #[.pointer (some ⟨g, 0, none⟩)] eg (some a) k c B (l.take k) (fun y => decide (y.num = num)) W (hrow.below (hb.mono hB)) hlk (Nat.le_trans hB hb.size) (by omega)
      (fun W2 hb2 j hj => numbered1_any _ num g W2 (Nat.lt_of_lt_of_le hg hb2.size) ((hb2.cell (p := ⟨g, 0, none⟩) hg).trans hcg)))
  have Hres := hide (show besideB l k l[k] = (!decide (l[k].ty = 1) && (decide (2 ≤ l[k].num) && !(l.take k).any fun y => decide (y.num = l[k].num))) from rfl)
  rw [Hres.out]
  clear Hres h hrow hlk hn hnc
  generalize l[k] = x at *
  rcases x with ⟨ty, num, fl, crc, data⟩
  simp only [Bk.cells] at Hca
  have HC := hide (HC.out num)
  rename_i HC'
  clear HC'
  simp only
  generalize ((l.take k).any fun y => decide (y.num = num)) = b3 at *
  subst hA
  have LDB := hide hc
  have SH := hide (fun o : Obj => (Below.refl w.heap.size w).alloc (Nat.le_refl _) o)
  have HV := range_new w [.int .u64 (ty : Int), .int .u64 (num : Int), .int .u64 (fl : Int), .int .i64 crc, .string data] 31 (0, 0)
  have hlt : w.heap.size < (w.alloc (.cells #[.int .u64 (ty : Int), .int .u64 (num : Int), .int .u64 (fl : Int), .int .i64 crc, .string data] 31)).heap.size := by simp
  have hle : w.heap.size ≤ (w.alloc (.cells #[.int .u64 (ty : Int), .int .u64 (num : Int), .int .u64 (fl : Int), .int .i64 crc, .string data] 31)).heap.size := by simp
  have C0 := hide (fun W (hb : Below _ _ W) => range_below HV hb hlt 0 _ rfl)
  have C1 := hide (fun W (hb : Below _ _ W) => range_below HV hb hlt 1 _ rfl)
  simp only [Nat.add_zero, Nat.zero_add] at C0 C1
  have CS := hide (fun W (hb : Below (w.alloc (.cells #[.int .u64 (ty : Int), .int .u64 (num : Int), .int .u64 (fl : Int), .int .i64 crc, .string data] 31)).heap.size (w.alloc (.cells #[.int .u64 (ty : Int), .int .u64 (num : Int), .int .u64 (fl : Int), .int .i64 crc, .string data] 31)) W) => (((SH.out _).trans (hb.mono hle)).cell (p := ⟨q, 0, none⟩) hq).trans hc)
  have HC := hide (fun W (hb : Below (w.alloc (.cells #[.int .u64 (ty : Int), .int .u64 (num : Int), .int .u64 (fl : Int), .int .i64 crc, .string data] 31)).heap.size (w.alloc (.cells #[.int .u64 (ty : Int), .int .u64 (num : Int), .int .u64 (fl : Int), .int .i64 crc, .string data] 31)) W) => HC.out W ((SH.out _).trans (hb.mono hle)))
  rename_i HC'
  have Hb1 := hide (SH.out (.cells #[.int .u64 (ty : Int), .int .u64 (num : Int), .int .u64 (fl : Int), .int .i64 crc, .string data] 31))
  clear HC' HV hlt hle
  have hc0 : w.cell? ⟨q, 0, none⟩ = some (.slice (some a) n c) := hc
  clear LDB hc
  by_cases ht : ty = 1
  · rw [decide_eq_true ht]
    have h1 : ((ty : Int) != 1) = false := by rw [ht]; rfl
    have h2 := True.intro
    clear ht
    go_enter Try.func47, Try.ntmps47
    go_upto_region 2 with (first
    | (with_reducible refine wpl_load_addr rfl 31 (.tmp 7) rfl (a.add (k * 5)) _ Hca.out rfl _ Try.underlying31 rfl 5 info31 (by with_unfolding_all rfl) ?_)
    | (with_reducible refine wpl_store_last w rfl 31 (.tmp 4) (.tmp 8) rfl 31 _ _ rfl rfl 5 info31 (by with_unfolding_all rfl) (by with_unfolding_all rfl) (by with_unfolding_all rfl) ?_))
    refine wp_region_flow (by kernel_rfl) (fun d => if d = 3 then is (.bool false) else List.getD [is (.pointer (some ⟨w.heap.size, 0, none⟩)), is (.int .u64 (ty : Int)), is (.bool false), is (.bool false), is (undef), is (undef), is (undef), is (.bool false), is (.bool false), is (undef), is (undef), is (undef), is (undef), is (undef), is (undef), is (undef), is (undef), is (.bool false)] (d - 9) (fun _ _ => True)) 3 (by kernel_rfl) (by kernel_rfl) ?_ ?_
    · refine And.intro ?_ (And.intro ?_ (And.intro ?_ (And.intro ?_ (And.intro ?_ (And.intro ?_ (And.intro ?_ (And.intro ?_ (And.intro ?_ (And.intro ?_ (And.intro ?_ (And.intro ?_ (And.intro ?_ (And.intro ?_ (And.intro ?_ (And.intro ?_ (And.intro ?_ (And.intro ?_ (And.intro ?_ trivial))))))))))))))))))
      · intro a w9 hb h
        have e4 : a.tmps.getD 4 undef = .pointer (some ⟨w.heap.size, 0, none⟩) := sb h 4 (by kernel_rfl) (by kernel_rfl) rfl
        exact .val (want0 rfl) rfl (by simp [Act.eval, e4, go_sem]) (Keeps.is rfl)
      · intro a w9 hb h
        have e9 := (sw h 9 (by kernel_rfl) (by kernel_rfl)).eq
        exact .val (want0 rfl) rfl (by simp [Act.eval, e9, C0.out w9 hb, go_sem]) (Keeps.is rfl)
      · intro a w9 hb h
        have e10 := (sw h 10 (by kernel_rfl) (by kernel_rfl)).eq
        exact .val (want0 rfl) rfl (by simp [Act.eval, e10, h1, go_sem]) (Keeps.is rfl)
      · intro a w9 hb h
        have e11 := (sw h 11 (by kernel_rfl) (by kernel_rfl)).eq
        exact .val (want0 rfl) rfl (by simp [Act.eval, e11, go_sem]) (Keeps.is rfl)
      · intro a w9 hb h
        have eg := (sw h 12 (by kernel_rfl) (by kernel_rfl)).eq
        exact .off (idleg rfl (by kernel_rfl) eg rfl) rfl (Keeps.is rfl)
      · intro a w9 hb h
        have eg := (sw h 12 (by kernel_rfl) (by kernel_rfl)).eq
        exact .off (idleg rfl (by kernel_rfl) eg rfl) rfl (Keeps.is rfl)
      · intro a w9 hb h
        have eg := (sw h 12 (by kernel_rfl) (by kernel_rfl)).eq
        exact .off (idleg rfl (by kernel_rfl) eg rfl) rfl (Keeps.is rfl)
      · intro a w9 hb h
        have e12 := (sw h 12 (by kernel_rfl) (by kernel_rfl)).eq
        exact .val (want0 rfl) rfl (by simp [Act.eval, e12, go_sem]) (Keeps.is rfl)
      · intro a w9 hb h
        have e16 := (sw h 16 (by kernel_rfl) (by kernel_rfl)).eq
        exact .val (want0 rfl) rfl (by simp [Act.eval, e16, go_sem]) (Keeps.is rfl)
      · intro a w9 hb h
        have eg := (sw h 17 (by kernel_rfl) (by kernel_rfl)).eq
        exact .off (idleg rfl (by kernel_rfl) eg rfl) rfl (Keeps.is rfl)
      · intro a w9 hb h
        have eg := (sw h 17 (by kernel_rfl) (by kernel_rfl)).eq
        exact .off (idleg rfl (by kernel_rfl) eg rfl) rfl (Keeps.is rfl)
      · intro a w9 hb h
        have eg := (sw h 17 (by kernel_rfl) (by kernel_rfl)).eq
        exact .off (idleg rfl (by kernel_rfl) eg rfl) rfl (Keeps.is rfl)
      · intro a w9 hb h
        have eg := (sw h 17 (by kernel_rfl) (by kernel_rfl)).eq
        exact .off (idleg rfl (by kernel_rfl) eg rfl) rfl (Keeps.is rfl)
      · intro a w9 hb h
        have eg := (sw h 17 (by kernel_rfl) (by kernel_rfl)).eq
        exact .off (idleg rfl (by kernel_rfl) eg rfl) rfl (Keeps.is rfl)
      · intro a w9 hb h
        have eg := (sw h 17 (by kernel_rfl) (by kernel_rfl)).eq
        exact .off (idleg rfl (by kernel_rfl) eg rfl) rfl (Keeps.is rfl)
      · intro a w9 hb h
        have eg := (sw h 17 (by kernel_rfl) (by kernel_rfl)).eq
        exact .off (idleg rfl (by kernel_rfl) eg rfl) rfl (Keeps.is rfl)
      · intro a w9 hb h
        have eg := (sw h 17 (by kernel_rfl) (by kernel_rfl)).eq
        exact .off (idleg rfl (by kernel_rfl) eg rfl) rfl (Keeps.is rfl)
      · intro a w9 hb h
        have e17 := (sw h 17 (by kernel_rfl) (by kernel_rfl)).eq
        exact .val (want0 rfl) rfl (by simp [Act.eval, e17, go_sem]) (Keeps.is rfl)
      · intro a w9 hb h
        have e26 := (sw h 26 (by kernel_rfl) (by kernel_rfl)).eq
        exact .val (want0 rfl) rfl (by simp [Act.eval, e26, go_sem]) (Keeps.is rfl)
    · intro a w2 hd hb hv
      have er := hv.eq
      clear hv
      simp only [Exit.then]
      go_wp2
      exact ⟨hd, _, results_tmp rfl _ _ _, by rw [er] <;> first | rfl | simp, Hb1.out.trans (hb.mono Hb1.out.size)⟩
  · rw [decide_eq_false ht]
    have h1 : ((ty : Int) != 1) = true := by rw [bne, beq_eq_false_iff_ne.2 (show (ty : Int) ≠ 1 by omega)]; rfl
    clear ht
    by_cases hm : 2 ≤ num
    · rw [decide_eq_true hm]
      have h2 : ((2 : Int) ≤ (num : Int)) := by omega
      simp only [Bool.not_false, Bool.true_and]
      clear hm
      cases b3 with
      | true =>
        go_enter Try.func47, Try.ntmps47
        go_upto_region 2 with (first
    | (with_reducible refine wpl_load_addr rfl 31 (.tmp 7) rfl (a.add (k * 5)) _ Hca.out rfl _ Try.underlying31 rfl 5 info31 (by with_unfolding_all rfl) ?_)
    | (with_reducible refine wpl_store_last w rfl 31 (.tmp 4) (.tmp 8) rfl 31 _ _ rfl rfl 5 info31 (by with_unfolding_all rfl) (by with_unfolding_all rfl) (by with_unfolding_all rfl) ?_))
        refine wp_region_flow (by kernel_rfl) (fun d => if d = 3 then is (.bool false) else List.getD [is (.pointer (some ⟨w.heap.size, 0, none⟩)), is (.int .u64 (ty : Int)), is (.bool true), is (.bool true), is (.pointer (some ⟨w.heap.size, 1, none⟩)), is (.int .u64 (num : Int)), is (.bool true), is (.bool true), is (.bool true), is (.slice (some a) n c), is (.int .i64 (k : Int)), is (.slice (some a) k c), is (.pointer (some ⟨w.heap.size, 1, none⟩)), is (.int .u64 (num : Int)), isCl num, is (.bool true), is (.bool false), is (.bool false)] (d - 9) (fun _ _ => True)) 3 (by kernel_rfl) (by kernel_rfl) ?_ ?_
        · refine And.intro ?_ (And.intro ?_ (And.intro ?_ (And.intro ?_ (And.intro ?_ (And.intro ?_ (And.intro ?_ (And.intro ?_ (And.intro ?_ (And.intro ?_ (And.intro ?_ (And.intro ?_ (And.intro ?_ (And.intro ?_ (And.intro ?_ (And.intro ?_ (And.intro ?_ (And.intro ?_ (And.intro ?_ trivial))))))))))))))))))
          · intro a w9 hb h
            have e4 : a.tmps.getD 4 undef = .pointer (some ⟨w.heap.size, 0, none⟩) := sb h 4 (by kernel_rfl) (by kernel_rfl) rfl
            exact .val (want0 rfl) rfl (by simp [Act.eval, e4, go_sem]) (Keeps.is rfl)
          · intro a w9 hb h
            have e9 := (sw h 9 (by kernel_rfl) (by kernel_rfl)).eq
            exact .val (want0 rfl) rfl (by simp [Act.eval, e9, C0.out w9 hb, go_sem]) (Keeps.is rfl)
          · intro a w9 hb h
            have e10 := (sw h 10 (by kernel_rfl) (by kernel_rfl)).eq
            exact .val (want0 rfl) rfl (by simp [Act.eval, e10, h1, go_sem]) (Keeps.is rfl)
          · intro a w9 hb h
            have e11 := (sw h 11 (by kernel_rfl) (by kernel_rfl)).eq
            exact .val (want0 rfl) rfl (by simp [Act.eval, e11, go_sem]) (Keeps.is rfl)
          · intro a w9 hb h
            have eg := (sw h 12 (by kernel_rfl) (by kernel_rfl)).eq
            have e4 : a.tmps.getD 4 undef = .pointer (some ⟨w.heap.size, 0, none⟩) := sb h 4 (by kernel_rfl) (by kernel_rfl) rfl
            exact .val (wantg rfl (by kernel_rfl) eg) rfl (by simp [Act.eval, e4, go_sem]) (Keeps.is rfl)
          · intro a w9 hb h
            have eg := (sw h 12 (by kernel_rfl) (by kernel_rfl)).eq
            have e13 := (sw h 13 (by kernel_rfl) (by kernel_rfl)).eq
            exact .val (wantg rfl (by kernel_rfl) eg) rfl (by simp [Act.eval, e13, C1.out w9 hb, go_sem]) (Keeps.is rfl)
          · intro a w9 hb h
            have eg := (sw h 12 (by kernel_rfl) (by kernel_rfl)).eq
            have e14 := (sw h 14 (by kernel_rfl) (by kernel_rfl)).eq
            exact .val (wantg rfl (by kernel_rfl) eg) rfl (by simp [Act.eval, e14, h2, go_sem]) (Keeps.is rfl)
          · intro a w9 hb h
            have e12 := (sw h 12 (by kernel_rfl) (by kernel_rfl)).eq
            have e15 := (sw h 15 (by kernel_rfl) (by kernel_rfl)).eq
            exact .val (want0 rfl) rfl (by simp [Act.eval, e12, e15, go_sem]) (Keeps.is rfl)
          · intro a w9 hb h
            have e16 := (sw h 16 (by kernel_rfl) (by kernel_rfl)).eq
            exact .val (want0 rfl) rfl (by simp [Act.eval, e16, go_sem]) (Keeps.is rfl)
          · intro a w9 hb h
            have eg := (sw h 17 (by kernel_rfl) (by kernel_rfl)).eq
            have e1 : a.tmps.getD 1 undef = .pointer (some ⟨q, 0, none⟩) := sb h 1 (by kernel_rfl) (by kernel_rfl) rfl
            exact .val (wantg rfl (by kernel_rfl) eg) rfl (by simp [Act.eval, e1, CS.out w9 hb, go_sem]) (Keeps.is rfl)
          · intro a w9 hb h
            have eg := (sw h 17 (by kernel_rfl) (by kernel_rfl)).eq
            have e0 : a.tmps.getD 0 undef = .int .i64 (k : Int) := sb h 0 (by kernel_rfl) (by kernel_rfl) rfl
            exact .val (wantg rfl (by kernel_rfl) eg) rfl (by simp [Act.eval, e0, go_sem]) (Keeps.is rfl)
          · intro a w9 hb h
            have eg := (sw h 17 (by kernel_rfl) (by kernel_rfl)).eq
            have e18 := (sw h 18 (by kernel_rfl) (by kernel_rfl)).eq
            have e19 := (sw h 19 (by kernel_rfl) (by kernel_rfl)).eq
            exact .val (wantg rfl (by kernel_rfl) eg) rfl (by simp [Act.eval, e18, e19, hkc, hkn, go_sem]) (Keeps.is rfl)
          · intro a w9 hb h
            have eg := (sw h 17 (by kernel_rfl) (by kernel_rfl)).eq
            have e4 : a.tmps.getD 4 undef = .pointer (some ⟨w.heap.size, 0, none⟩) := sb h 4 (by kernel_rfl) (by kernel_rfl) rfl
            exact .val (wantg rfl (by kernel_rfl) eg) rfl (by simp [Act.eval, e4, go_sem]) (Keeps.is rfl)
          · intro a w9 hb h
            have eg := (sw h 17 (by kernel_rfl) (by kernel_rfl)).eq
            have e21 := (sw h 21 (by kernel_rfl) (by kernel_rfl)).eq
            exact .val (wantg rfl (by kernel_rfl) eg) rfl (by simp [Act.eval, e21, C1.out w9 hb, go_sem]) (Keeps.is rfl)
          · intro a w9 hb h
            have eg := (sw h 17 (by kernel_rfl) (by kernel_rfl)).eq
            have e22 := (sw h 22 (by kernel_rfl) (by kernel_rfl)).eq
            exact .called (wantg rfl (by kernel_rfl) eg) rfl (by simp [Act.eval, e22, go_sem]) (clF (bnumbered_any num w9))
          · intro a w9 hb h
            have eg := (sw h 17 (by kernel_rfl) (by kernel_rfl)).eq
            have e20 := (sw h 20 (by kernel_rfl) (by kernel_rfl)).eq
            have e23 := sw h 23 (by kernel_rfl) (by kernel_rfl)
            obtain ⟨g, hv, hg, hc⟩ := e23.now
            exact .called (wantg rfl (by kernel_rfl) eg) rfl (by simp [Act.eval, e20, hv, go_sem]) (belowF (HC.out w9 hb g hg hc))
          · intro a w9 hb h
            have eg := (sw h 17 (by kernel_rfl) (by kernel_rfl)).eq
            have e24 := (sw h 24 (by kernel_rfl) (by kernel_rfl)).eq
            exact .val (wantg rfl (by kernel_rfl) eg) rfl (by simp [Act.eval, e24, go_sem]) (Keeps.is rfl)
          · intro a w9 hb h
            have e17 := (sw h 17 (by kernel_rfl) (by kernel_rfl)).eq
            have e25 := (sw h 25 (by kernel_rfl) (by kernel_rfl)).eq
            exact .val (want0 rfl) rfl (by simp [Act.eval, e17, e25, go_sem]) (Keeps.is rfl)
          · intro a w9 hb h
            have e26 := (sw h 26 (by kernel_rfl) (by kernel_rfl)).eq
            exact .val (want0 rfl) rfl (by simp [Act.eval, e26, go_sem]) (Keeps.is rfl)
        · intro a w2 hd hb hv
          have er := hv.eq
          clear hv
          simp only [Exit.then]
          go_wp2
          exact ⟨hd, _, results_tmp rfl _ _ _, by rw [er] <;> first | rfl | simp, Hb1.out.trans (hb.mono Hb1.out.size)⟩
      | false =>
        go_enter Try.func47, Try.ntmps47
        go_upto_region 2 with (first
    | (with_reducible refine wpl_load_addr rfl 31 (.tmp 7) rfl (a.add (k * 5)) _ Hca.out rfl _ Try.underlying31 rfl 5 info31 (by with_unfolding_all rfl) ?_)
    | (with_reducible refine wpl_store_last w rfl 31 (.tmp 4) (.tmp 8) rfl 31 _ _ rfl rfl 5 info31 (by with_unfolding_all rfl) (by with_unfolding_all rfl) (by with_unfolding_all rfl) ?_))
        refine wp_region_flow (by kernel_rfl) (fun d => if d = 3 then is (.bool true) else List.getD [is (.pointer (some ⟨w.heap.size, 0, none⟩)), is (.int .u64 (ty : Int)), is (.bool true), is (.bool true), is (.pointer (some ⟨w.heap.size, 1, none⟩)), is (.int .u64 (num : Int)), is (.bool true), is (.bool true), is (.bool true), is (.slice (some a) n c), is (.int .i64 (k : Int)), is (.slice (some a) k c), is (.pointer (some ⟨w.heap.size, 1, none⟩)), is (.int .u64 (num : Int)), isCl num, is (.bool false), is (.bool true), is (.bool true)] (d - 9) (fun _ _ => True)) 3 (by kernel_rfl) (by kernel_rfl) ?_ ?_
        · refine And.intro ?_ (And.intro ?_ (And.intro ?_ (And.intro ?_ (And.intro ?_ (And.intro ?_ (And.intro ?_ (And.intro ?_ (And.intro ?_ (And.intro ?_ (And.intro ?_ (And.intro ?_ (And.intro ?_ (And.intro ?_ (And.intro ?_ (And.intro ?_ (And.intro ?_ (And.intro ?_ (And.intro ?_ trivial))))))))))))))))))
          · intro a w9 hb h
            have e4 : a.tmps.getD 4 undef = .pointer (some ⟨w.heap.size, 0, none⟩) := sb h 4 (by kernel_rfl) (by kernel_rfl) rfl
            exact .val (want0 rfl) rfl (by simp [Act.eval, e4, go_sem]) (Keeps.is rfl)
          · intro a w9 hb h
            have e9 := (sw h 9 (by kernel_rfl) (by kernel_rfl)).eq
            exact .val (want0 rfl) rfl (by simp [Act.eval, e9, C0.out w9 hb, go_sem]) (Keeps.is rfl)
          · intro a w9 hb h
            have e10 := (sw h 10 (by kernel_rfl) (by kernel_rfl)).eq
            exact .val (want0 rfl) rfl (by simp [Act.eval, e10, h1, go_sem]) (Keeps.is rfl)
          · intro a w9 hb h
            have e11 := (sw h 11 (by kernel_rfl) (by kernel_rfl)).eq
            exact .val (want0 rfl) rfl (by simp [Act.eval, e11, go_sem]) (Keeps.is rfl)
          · intro a w9 hb h
            have eg := (sw h 12 (by kernel_rfl) (by kernel_rfl)).eq
            have e4 : a.tmps.getD 4 undef = .pointer (some ⟨w.heap.size, 0, none⟩) := sb h 4 (by kernel_rfl) (by kernel_rfl) rfl
            exact .val (wantg rfl (by kernel_rfl) eg) rfl (by simp [Act.eval, e4, go_sem]) (Keeps.is rfl)
          · intro a w9 hb h
            have eg := (sw h 12 (by kernel_rfl) (by kernel_rfl)).eq
            have e13 := (sw h 13 (by kernel_rfl) (by kernel_rfl)).eq
            exact .val (wantg rfl (by kernel_rfl) eg) rfl (by simp [Act.eval, e13, C1.out w9 hb, go_sem]) (Keeps.is rfl)
          · intro a w9 hb h
            have eg := (sw h 12 (by kernel_rfl) (by kernel_rfl)).eq
            have e14 := (sw h 14 (by kernel_rfl) (by kernel_rfl)).eq
            exact .val (wantg rfl (by kernel_rfl) eg) rfl (by simp [Act.eval, e14, h2, go_sem]) (Keeps.is rfl)
          · intro a w9 hb h
            have e12 := (sw h 12 (by kernel_rfl) (by kernel_rfl)).eq
            have e15 := (sw h 15 (by kernel_rfl) (by kernel_rfl)).eq
            exact .val (want0 rfl) rfl (by simp [Act.eval, e12, e15, go_sem]) (Keeps.is rfl)
          · intro a w9 hb h
            have e16 := (sw h 16 (by kernel_rfl) (by kernel_rfl)).eq
            exact .val (want0 rfl) rfl (by simp [Act.eval, e16, go_sem]) (Keeps.is rfl)
          · intro a w9 hb h
            have eg := (sw h 17 (by kernel_rfl) (by kernel_rfl)).eq
            have e1 : a.tmps.getD 1 undef = .pointer (some ⟨q, 0, none⟩) := sb h 1 (by kernel_rfl) (by kernel_rfl) rfl
            exact .val (wantg rfl (by kernel_rfl) eg) rfl (by simp [Act.eval, e1, CS.out w9 hb, go_sem]) (Keeps.is rfl)
          · intro a w9 hb h
            have eg := (sw h 17 (by kernel_rfl) (by kernel_rfl)).eq
            have e0 : a.tmps.getD 0 undef = .int .i64 (k : Int) := sb h 0 (by kernel_rfl) (by kernel_rfl) rfl
            exact .val (wantg rfl (by kernel_rfl) eg) rfl (by simp [Act.eval, e0, go_sem]) (Keeps.is rfl)
          · intro a w9 hb h
            have eg := (sw h 17 (by kernel_rfl) (by kernel_rfl)).eq
            have e18 := (sw h 18 (by kernel_rfl) (by kernel_rfl)).eq
            have e19 := (sw h 19 (by kernel_rfl) (by kernel_rfl)).eq
            exact .val (wantg rfl (by kernel_rfl) eg) rfl (by simp [Act.eval, e18, e19, hkc, hkn, go_sem]) (Keeps.is rfl)
          · intro a w9 hb h
            have eg := (sw h 17 (by kernel_rfl) (by kernel_rfl)).eq
            have e4 : a.tmps.getD 4 undef = .pointer (some ⟨w.heap.size, 0, none⟩) := sb h 4 (by kernel_rfl) (by kernel_rfl) rfl
            exact .val (wantg rfl (by kernel_rfl) eg) rfl (by simp [Act.eval, e4, go_sem]) (Keeps.is rfl)
          · intro a w9 hb h
            have eg := (sw h 17 (by kernel_rfl) (by kernel_rfl)).eq
            have e21 := (sw h 21 (by kernel_rfl) (by kernel_rfl)).eq
            exact .val (wantg rfl (by kernel_rfl) eg) rfl (by simp [Act.eval, e21, C1.out w9 hb, go_sem]) (Keeps.is rfl)
          · intro a w9 hb h
            have eg := (sw h 17 (by kernel_rfl) (by kernel_rfl)).eq
            have e22 := (sw h 22 (by kernel_rfl) (by kernel_rfl)).eq
            exact .called (wantg rfl (by kernel_rfl) eg) rfl (by simp [Act.eval, e22, go_sem]) (clF (bnumbered_any num w9))
          · intro a w9 hb h
            have eg := (sw h 17 (by kernel_rfl) (by kernel_rfl)).eq
            have e20 := (sw h 20 (by kernel_rfl) (by kernel_rfl)).eq
            have e23 := sw h 23 (by kernel_rfl) (by kernel_rfl)
            obtain ⟨g, hv, hg, hc⟩ := e23.now
            exact .called (wantg rfl (by kernel_rfl) eg) rfl (by simp [Act.eval, e20, hv, go_sem]) (belowF (HC.out w9 hb g hg hc))
          · intro a w9 hb h
            have eg := (sw h 17 (by kernel_rfl) (by kernel_rfl)).eq
            have e24 := (sw h 24 (by kernel_rfl) (by kernel_rfl)).eq
            exact .val (wantg rfl (by kernel_rfl) eg) rfl (by simp [Act.eval, e24, go_sem]) (Keeps.is rfl)
          · intro a w9 hb h
            have e17 := (sw h 17 (by kernel_rfl) (by kernel_rfl)).eq
            have e25 := (sw h 25 (by kernel_rfl) (by kernel_rfl)).eq
            exact .val (want0 rfl) rfl (by simp [Act.eval, e17, e25, go_sem]) (Keeps.is rfl)
          · intro a w9 hb h
            have e26 := (sw h 26 (by kernel_rfl) (by kernel_rfl)).eq
            exact .val (want0 rfl) rfl (by simp [Act.eval, e26, go_sem]) (Keeps.is rfl)
        · intro a w2 hd hb hv
          have er := hv.eq
          clear hv
          simp only [Exit.then]
          go_wp2
          exact ⟨hd, _, results_tmp rfl _ _ _, by rw [er] <;> first | rfl | simp, Hb1.out.trans (hb.mono Hb1.out.size)⟩
    · rw [decide_eq_false hm]
      have h2 : ¬ ((2 : Int) ≤ (num : Int)) := by omega
      clear hm
      go_enter Try.func47, Try.ntmps47
      go_upto_region 2 with (first
    | (with_reducible refine wpl_load_addr rfl 31 (.tmp 7) rfl (a.add (k * 5)) _ Hca.out rfl _ Try.underlying31 rfl 5 info31 (by with_unfolding_all rfl) ?_)
    | (with_reducible refine wpl_store_last w rfl 31 (.tmp 4) (.tmp 8) rfl 31 _ _ rfl rfl 5 info31 (by with_unfolding_all rfl) (by with_unfolding_all rfl) (by with_unfolding_all rfl) ?_))
      refine wp_region_flow (by kernel_rfl) (fun d => if d = 3 then is (.bool false) else List.getD [is (.pointer (some ⟨w.heap.size, 0, none⟩)), is (.int .u64 (ty : Int)), is (.bool true), is (.bool true), is (.pointer (some ⟨w.heap.size, 1, none⟩)), is (.int .u64 (num : Int)), is (.bool false), is (.bool false), is (.bool false), is (undef), is (undef), is (undef), is (undef), is (undef), is (undef), is (undef), is (undef), is (.bool false)] (d - 9) (fun _ _ => True)) 3 (by kernel_rfl) (by kernel_rfl) ?_ ?_
      · refine And.intro ?_ (And.intro ?_ (And.intro ?_ (And.intro ?_ (And.intro ?_ (And.intro ?_ (And.intro ?_ (And.intro ?_ (And.intro ?_ (And.intro ?_ (And.intro ?_ (And.intro ?_ (And.intro ?_ (And.intro ?_ (And.intro ?_ (And.intro ?_ (And.intro ?_ (And.intro ?_ (And.intro ?_ trivial))))))))))))))))))
        · intro a w9 hb h
          have e4 : a.tmps.getD 4 undef = .pointer (some ⟨w.heap.size, 0, none⟩) := sb h 4 (by kernel_rfl) (by kernel_rfl) rfl
          exact .val (want0 rfl) rfl (by simp [Act.eval, e4, go_sem]) (Keeps.is rfl)
        · intro a w9 hb h
          have e9 := (sw h 9 (by kernel_rfl) (by kernel_rfl)).eq
          exact .val (want0 rfl) rfl (by simp [Act.eval, e9, C0.out w9 hb, go_sem]) (Keeps.is rfl)
        · intro a w9 hb h
          have e10 := (sw h 10 (by kernel_rfl) (by kernel_rfl)).eq
          exact .val (want0 rfl) rfl (by simp [Act.eval, e10, h1, go_sem]) (Keeps.is rfl)
        · intro a w9 hb h
          have e11 := (sw h 11 (by kernel_rfl) (by kernel_rfl)).eq
          exact .val (want0 rfl) rfl (by simp [Act.eval, e11, go_sem]) (Keeps.is rfl)
        · intro a w9 hb h
          have eg := (sw h 12 (by kernel_rfl) (by kernel_rfl)).eq
          have e4 : a.tmps.getD 4 undef = .pointer (some ⟨w.heap.size, 0, none⟩) := sb h 4 (by kernel_rfl) (by kernel_rfl) rfl
          exact .val (wantg rfl (by kernel_rfl) eg) rfl (by simp [Act.eval, e4, go_sem]) (Keeps.is rfl)
        · intro a w9 hb h
          have eg := (sw h 12 (by kernel_rfl) (by kernel_rfl)).eq
          have e13 := (sw h 13 (by kernel_rfl) (by kernel_rfl)).eq
          exact .val (wantg rfl (by kernel_rfl) eg) rfl (by simp [Act.eval, e13, C1.out w9 hb, go_sem]) (Keeps.is rfl)
        · intro a w9 hb h
          have eg := (sw h 12 (by kernel_rfl) (by kernel_rfl)).eq
          have e14 := (sw h 14 (by kernel_rfl) (by kernel_rfl)).eq
          exact .val (wantg rfl (by kernel_rfl) eg) rfl (by simp [Act.eval, e14, h2, go_sem]) (Keeps.is rfl)
        · intro a w9 hb h
          have e12 := (sw h 12 (by kernel_rfl) (by kernel_rfl)).eq
          have e15 := (sw h 15 (by kernel_rfl) (by kernel_rfl)).eq
          exact .val (want0 rfl) rfl (by simp [Act.eval, e12, e15, go_sem]) (Keeps.is rfl)
        · intro a w9 hb h
          have e16 := (sw h 16 (by kernel_rfl) (by kernel_rfl)).eq
          exact .val (want0 rfl) rfl (by simp [Act.eval, e16, go_sem]) (Keeps.is rfl)
        · intro a w9 hb h
          have eg := (sw h 17 (by kernel_rfl) (by kernel_rfl)).eq
          exact .off (idleg rfl (by kernel_rfl) eg rfl) rfl (Keeps.is rfl)
        · intro a w9 hb h
          have eg := (sw h 17 (by kernel_rfl) (by kernel_rfl)).eq
          exact .off (idleg rfl (by kernel_rfl) eg rfl) rfl (Keeps.is rfl)
        · intro a w9 hb h
          have eg := (sw h 17 (by kernel_rfl) (by kernel_rfl)).eq
          exact .off (idleg rfl (by kernel_rfl) eg rfl) rfl (Keeps.is rfl)
        · intro a w9 hb h
          have eg := (sw h 17 (by kernel_rfl) (by kernel_rfl)).eq
          exact .off (idleg rfl (by kernel_rfl) eg rfl) rfl (Keeps.is rfl)
        · intro a w9 hb h
          have eg := (sw h 17 (by kernel_rfl) (by kernel_rfl)).eq
          exact .off (idleg rfl (by kernel_rfl) eg rfl) rfl (Keeps.is rfl)
        · intro a w9 hb h
          have eg := (sw h 17 (by kernel_rfl) (by kernel_rfl)).eq
          exact .off (idleg rfl (by kernel_rfl) eg rfl) rfl (Keeps.is rfl)
        · intro a w9 hb h
          have eg := (sw h 17 (by kernel_rfl) (by kernel_rfl)).eq
          exact .off (idleg rfl (by kernel_rfl) eg rfl) rfl (Keeps.is rfl)
        · intro a w9 hb h
          have eg := (sw h 17 (by kernel_rfl) (by kernel_rfl)).eq
          exact .off (idleg rfl (by kernel_rfl) eg rfl) rfl (Keeps.is rfl)
        · intro a w9 hb h
          have e17 := (sw h 17 (by kernel_rfl) (by kernel_rfl)).eq
          exact .val (want0 rfl) rfl (by simp [Act.eval, e17, go_sem]) (Keeps.is rfl)
        · intro a w9 hb h
          have e26 := (sw h 26 (by kernel_rfl) (by kernel_rfl)).eq
          exact .val (want0 rfl) rfl (by simp [Act.eval, e26, go_sem]) (Keeps.is rfl)
      · intro a w2 hd hb hv
        have er := hv.eq
        clear hv
        simp only [Exit.then]
        go_wp2
        exact ⟨hd, _, results_tmp rfl _ _ _, by rw [er] <;> first | rfl | simp, Hb1.out.trans (hb.mono Hb1.out.size)⟩

end Go.Proofs.Ytlbgcbekjjkokaa
