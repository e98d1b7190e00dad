/-
  CONTRACTS of package table: rise at both kinds, worn, Check; tables as cells; the reference's May. (By gen/TbC.gen.py.)
  TABLES as cells; CONTRACTS of table.Check and the reference's May. (By gen/TbD.gen.py.)
-/
import Derived.Test.YtigpplckddnghaaGreatTbM
import Derived.Test.YtigpplckddnghaaGreatBits
import Derived.Test.YtigpplckddnghaaGreatTch
import Derived.Test.YtigpplckddnghaaGreatDev2
import Derived.BigQuiet
import Derived.Deep.QuietTactic
import Derived.Deep.Cut
namespace Go.Proofs.YtigpplckddnghaaGreat
open Go.RowKit
set_option maxRecDepth 8000

theorem rise_int (A : Option Addr) (n c B : Nat) (l : List Int) (w : World) (h : Lies w B A (nums .i64 l)) (hn : n = l.length) (hbig : n ≤ 9223372036854775807) (hk : ∀ x ∈ l, 0 ≤ x ∨ IntKind.i64 = .i64) :
    Calls Tryz.prog 88 #[.slice A n c, .int .i64 34] w fun e w' => e = .returned (.bool (decide (Rise 34 l))) ∧ w = w' := by
  obtain ⟨z, hz⟩ : ∃ z, z = decide (Rise 34 l) := ⟨_, rfl⟩
  rw [← hz]
  have Hz := hide hz
  have Hl := hide h
  have Hn := hide hn
  have Hk := hide hk
  clear hz h hn hk
  go_enter Tryz.func88, Tryz.ntmps88
  go_wp2
  go_loop [5, 6, 9] (fun s5 s6 i => ∃ j : Nat, j ≤ n ∧ i = .int .i64 (j : Int) ∧ Hid (∀ q, q < j → okAt 34 l q)) (fun _ _ i => n - (intOf i).toNat)
  case atStart => exact ⟨0, Nat.zero_le _, rfl, hide (fun q hq => absurd hq (Nat.not_lt_zero _))⟩
  case round =>
    obtain ⟨j, hj, rfl, HF⟩ := hrel
    by_cases hlt : j < n
    · have hlt' : (j : Int) < (n : Int) := by omega
      have hjl : j < l.length := by rw [← Hn.out]; exact hlt
      obtain ⟨a, rfl, _, hc⟩ := Hl.out.num hjl
      have e2 : wrap64 ((j : Int) + 1) = ((j + 1 : Nat) : Int) := by unfold wrap64; omega
      have hm := Hk.out (l.getD j 0) (by simp [List.getD, List.getElem?_eq_getElem hjl])
      have HT := hide (show ¬ okAt 34 l j → false = z from fun hno => by rw [Hz.out, eq_comm, decide_eq_false]; exact fun hr => hno (hr j hjl))
      have HY := hide (show okAt 34 l j → ∀ q, q < j + 1 → okAt 34 l q from fun h q hq => by
        by_cases hqj : q = j
        · subst hqj; exact h
        · exact HF.out q (by omega))
      have HO := hide (show okAt 34 l j ↔ (0 ≤ l.getD j 0 ∧ l.getD j 0 < 34 ∧ (0 < j → l.getD (j - 1) 0 < l.getD j 0)) from Iff.rfl)
      by_cases h0 : j = 0
      · have H0 := hide h0
        have i0 : ¬ (0 : Int) < (j : Int) := by omega
        clear h0
        generalize l.getD j 0 = x at *
        by_cases x0 : x < 0
        · have := HT.out (fun h => by have := (HO.out.1 h).1; omega)
          subst this
          clear hm
          go_wp2
          go_ret
          exact ⟨rfl, rfl⟩
        · by_cases x1 : 34 ≤ x
          · have := HT.out (fun h => by have := (HO.out.1 h).2.1; omega)
            subst this
            clear hm
            go_wp2
            go_ret
            exact ⟨rfl, rfl⟩
          · have HN := hide (HY.out (HO.out.2 ⟨by omega, by omega, fun h => by have := H0.out; omega⟩))
            clear hm
            go_wp2
            exact ⟨⟨j + 1, by omega, by go_num, HN⟩, by simp [intOf]; omega⟩
      · obtain ⟨a', ha, _, hc'⟩ := Hl.out.num (i := j - 1) (by omega)
        cases ha
        have i0 : (0 : Int) < (j : Int) := by omega
        have H0 := hide (show 0 < j by omega)
        clear h0
        generalize l.getD j 0 = x at *
        generalize l.getD (j - 1) 0 = y at *
        by_cases x0 : x < 0
        · have := HT.out (fun h => by have := (HO.out.1 h).1; omega)
          subst this
          clear hm
          go_wp2
          go_ret
          exact ⟨rfl, rfl⟩
        · by_cases x1 : 34 ≤ x
          · have := HT.out (fun h => by have := (HO.out.1 h).2.1; omega)
            subst this
            clear hm
            go_wp2
            go_ret
            exact ⟨rfl, rfl⟩
          · by_cases x2 : x ≤ y
            · have := HT.out (fun h => by have := (HO.out.1 h).2.2 H0.out; omega)
              subst this
              clear hm
              go_wp2
              go_ret
              exact ⟨rfl, rfl⟩
            · have HN := hide (HY.out (HO.out.2 ⟨by omega, by omega, fun _ => by omega⟩))
              clear hm
              go_wp2
              exact ⟨⟨j + 1, by omega, by go_num, HN⟩, by simp [intOf]; omega⟩
    · have hjn : j = n := by omega
      subst hjn
      have : true = z := by
        rw [Hz.out, eq_comm, decide_eq_true_eq]
        intro q hq
        exact HF.out q (by rw [Hn.out]; exact hq)
      subst this
      go_wp2
      go_ret
      exact ⟨rfl, rfl⟩

theorem rise_u64 (A : Option Addr) (n c B : Nat) (l : List Int) (w : World) (h : Lies w B A (nums .u64 l)) (hn : n = l.length) (hbig : n ≤ 9223372036854775807) (hk : ∀ x ∈ l, 0 ≤ x ∨ IntKind.u64 = .i64) :
    Calls Tryz.prog 90 #[.slice A n c, .int .u64 2147483648] w fun e w' => e = .returned (.bool (decide (Rise 2147483648 l))) ∧ w = w' := by
  obtain ⟨z, hz⟩ : ∃ z, z = decide (Rise 2147483648 l) := ⟨_, rfl⟩
  rw [← hz]
  have Hz := hide hz
  have Hl := hide h
  have Hn := hide hn
  have Hk := hide hk
  clear hz h hn hk
  go_enter Tryz.func90, Tryz.ntmps90
  go_wp2
  go_loop [5, 6, 9] (fun s5 s6 i => ∃ j : Nat, j ≤ n ∧ i = .int .i64 (j : Int) ∧ Hid (∀ q, q < j → okAt 2147483648 l q)) (fun _ _ i => n - (intOf i).toNat)
  case atStart => exact ⟨0, Nat.zero_le _, rfl, hide (fun q hq => absurd hq (Nat.not_lt_zero _))⟩
  case round =>
    obtain ⟨j, hj, rfl, HF⟩ := hrel
    by_cases hlt : j < n
    · have hlt' : (j : Int) < (n : Int) := by omega
      have hjl : j < l.length := by rw [← Hn.out]; exact hlt
      obtain ⟨a, rfl, _, hc⟩ := Hl.out.num hjl
      have e2 : wrap64 ((j : Int) + 1) = ((j + 1 : Nat) : Int) := by unfold wrap64; omega
      have hm := Hk.out (l.getD j 0) (by simp [List.getD, List.getElem?_eq_getElem hjl])
      have HT := hide (show ¬ okAt 2147483648 l j → false = z from fun hno => by rw [Hz.out, eq_comm, decide_eq_false]; exact fun hr => hno (hr j hjl))
      have HY := hide (show okAt 2147483648 l j → ∀ q, q < j + 1 → okAt 2147483648 l q from fun h q hq => by
        by_cases hqj : q = j
        · subst hqj; exact h
        · exact HF.out q (by omega))
      have HO := hide (show okAt 2147483648 l j ↔ (0 ≤ l.getD j 0 ∧ l.getD j 0 < 2147483648 ∧ (0 < j → l.getD (j - 1) 0 < l.getD j 0)) from Iff.rfl)
      by_cases h0 : j = 0
      · have H0 := hide h0
        have i0 : ¬ (0 : Int) < (j : Int) := by omega
        clear h0
        generalize l.getD j 0 = x at *
        by_cases x0 : x < 0
        · have := HT.out (fun h => by have := (HO.out.1 h).1; omega)
          subst this
          exact absurd hm (by intro h; rcases h with h | h
                              · omega
                              · cases h)
        · by_cases x1 : 2147483648 ≤ x
          · have := HT.out (fun h => by have := (HO.out.1 h).2.1; omega)
            subst this
            clear hm
            go_wp2
            go_ret
            exact ⟨rfl, rfl⟩
          · have HN := hide (HY.out (HO.out.2 ⟨by omega, by omega, fun h => by have := H0.out; omega⟩))
            clear hm
            go_wp2
            exact ⟨⟨j + 1, by omega, by go_num, HN⟩, by simp [intOf]; omega⟩
      · obtain ⟨a', ha, _, hc'⟩ := Hl.out.num (i := j - 1) (by omega)
        cases ha
        have i0 : (0 : Int) < (j : Int) := by omega
        have H0 := hide (show 0 < j by omega)
        clear h0
        generalize l.getD j 0 = x at *
        generalize l.getD (j - 1) 0 = y at *
        by_cases x0 : x < 0
        · have := HT.out (fun h => by have := (HO.out.1 h).1; omega)
          subst this
          exact absurd hm (by intro h; rcases h with h | h
                              · omega
                              · cases h)
        · by_cases x1 : 2147483648 ≤ x
          · have := HT.out (fun h => by have := (HO.out.1 h).2.1; omega)
            subst this
            clear hm
            go_wp2
            go_ret
            exact ⟨rfl, rfl⟩
          · by_cases x2 : x ≤ y
            · have := HT.out (fun h => by have := (HO.out.1 h).2.2 H0.out; omega)
              subst this
              clear hm
              go_wp2
              go_ret
              exact ⟨rfl, rfl⟩
            · have HN := hide (HY.out (HO.out.2 ⟨by omega, by omega, fun _ => by omega⟩))
              clear hm
              go_wp2
              exact ⟨⟨j + 1, by omega, by go_num, HN⟩, by simp [intOf]; omega⟩
    · have hjn : j = n := by omega
      subst hjn
      have : true = z := by
        rw [Hz.out, eq_comm, decide_eq_true_eq]
        intro q hq
        exact HF.out q (by rw [Hn.out]; exact hq)
      subst this
      go_wp2
      go_ret
      exact ⟨rfl, rfl⟩

theorem worn_any (A : Option Addr) (n c B : Nat) (l : List Int) (w : World) (h : Lies w B A (nums .i64 l)) (hn : n = l.length) (hbig : n ≤ 9223372036854775807) :
    Calls Tryz.prog 89 #[.slice A n c] w fun e w' => e = .returned (.bool (decide (Worn l ∧ l.length ≤ 34))) ∧ w = w' := by
  obtain ⟨z, hz⟩ : ∃ z, z = decide (Worn l ∧ l.length ≤ 34) := ⟨_, rfl⟩
  rw [← hz]
  have Hz := hide hz
  have Hl := hide h
  have Hn := hide hn
  clear hz h hn
  go_enter Tryz.func89, Tryz.ntmps89
  go_wp2
  go_loop [4, 7] (fun s4 i => ∃ j : Nat, j ≤ n ∧ i = .int .i64 (j : Int) ∧ Hid (∀ q, q < j → 0 ≤ l.getD q 0 ∧ l.getD q 0 ≤ 65535)) (fun _ i => n - (intOf i).toNat)
  case atStart => exact ⟨0, Nat.zero_le _, rfl, hide (fun q hq => absurd hq (Nat.not_lt_zero _))⟩
  case round =>
    obtain ⟨j, hj, rfl, HF⟩ := hrel
    by_cases hlt : j < n
    · have hlt' : (j : Int) < (n : Int) := by omega
      have hjl : j < l.length := by rw [← Hn.out]; exact hlt
      obtain ⟨a, rfl, _, hc⟩ := Hl.out.num hjl
      have e2 : wrap64 ((j : Int) + 1) = ((j + 1 : Nat) : Int) := by unfold wrap64; omega
      have HT := hide (show ¬ (0 ≤ l.getD j 0 ∧ l.getD j 0 ≤ 65535) → false = z from fun hno => by rw [Hz.out, eq_comm, decide_eq_false]; exact fun hr => hno (hr.1 j hjl))
      have HY := hide (show (0 ≤ l.getD j 0 ∧ l.getD j 0 ≤ 65535) → ∀ q, q < j + 1 → 0 ≤ l.getD q 0 ∧ l.getD q 0 ≤ 65535 from fun h q hq => by
        by_cases hqj : q = j
        · subst hqj; exact h
        · exact HF.out q (by omega))
      generalize l.getD j 0 = x at *
      by_cases x0 : x < 0
      · have := HT.out (fun h => by omega)
        subst this
        go_wp2
        go_ret
        exact ⟨rfl, rfl⟩
      · by_cases x1 : 65535 < x
        · have := HT.out (fun h => by omega)
          subst this
          go_wp2
          go_ret
          exact ⟨rfl, rfl⟩
        · have HN := hide (HY.out ⟨by omega, by omega⟩)
          go_wp2
          exact ⟨⟨j + 1, by omega, by go_num, HN⟩, by simp [intOf]; omega⟩
    · have hjn : j = n := by omega
      subst hjn
      have hW : Worn l := fun q hq => HF.out q (by rw [Hn.out]; exact hq)
      by_cases h34 : (j : Int) ≤ 34
      · have : true = z := by
          rw [Hz.out, eq_comm, decide_eq_true_eq]
          exact ⟨hW, by rw [← Hn.out]; omega⟩
        subst this
        clear hW
        go_wp2
        go_ret
        exact ⟨rfl, rfl⟩
      · have : false = z := by
          rw [Hz.out, eq_comm, decide_eq_false_iff_not]
          intro h
          have := h.2
          rw [← Hn.out] at this
          omega
        subst this
        clear hW
        go_wp2
        go_ret
        exact ⟨rfl, rfl⟩

/-- A table, and where its lists lie. -/
structure Tl where
  t : Tb
  A1 : Option Addr
  A2 : Option Addr
  A3 : Option Addr
  c1 : Nat
  c2 : Nat
  c3 : Nat
def Tl.cells (x : Tl) : List Value := [.int .u64 (x.t.seq : Int), .slice x.A1 x.t.bad.length x.c1, .slice x.A2 x.t.wear.length x.c2, .slice x.A3 x.t.void.length x.c3]
def Tl.val (x : Tl) : Value := .agg #[.int .u64 (x.t.seq : Int), .slice x.A1 x.t.bad.length x.c1, .slice x.A2 x.t.wear.length x.c2, .slice x.A3 x.t.void.length x.c3]
theorem infoTb : (Tryz.prog.info? 26).map (·.size) = some 4 := by kernel_rfl
/-- The lists lie below block B. -/
structure Tl.Ok (x : Tl) (w : World) (B : Nat) : Prop where
  l1 : Lies w B x.A1 (nums .i64 x.t.bad)
  l2 : Lies w B x.A2 (nums .i64 x.t.wear)
  l3 : Lies w B x.A3 (nums .u64 x.t.void)
  k1 : x.t.bad.length ≤ x.c1
  k2 : x.t.wear.length ≤ x.c2
  k3 : x.t.void.length ≤ x.c3
  pos : ∀ y ∈ x.t.void, 0 ≤ y
  seq : x.t.seq < 18446744073709551616
  top : ∀ y ∈ x.t.void, y < 18446744073709551616
/-- .. and are not far too long. -/
structure Tl.Few (x : Tl) : Prop where
  f1 : x.t.bad.length ≤ 1000
  f2 : x.t.wear.length ≤ 1000
  f3 : x.t.void.length ≤ 1000
/-- No longer than any slice. -/
structure Tl.Long (x : Tl) : Prop where
  f1 : x.t.bad.length ≤ 9223372036854775807
  f2 : x.t.wear.length ≤ 9223372036854775807
  f3 : x.t.void.length ≤ 9223372036854775807
theorem Tl.Few.long {x : Tl} (h : x.Few) : x.Long := ⟨Nat.le_trans h.f1 (by decide), Nat.le_trans h.f2 (by decide), Nat.le_trans h.f3 (by decide)⟩
section
variable {x : Tl} {w w' : World} {B B' : Nat}
theorem Tl.Ok.below (h : x.Ok w B) (hb : Below B w w') : x.Ok w' B := ⟨h.l1.below hb, h.l2.below hb, h.l3.below hb, h.k1, h.k2, h.k3, h.pos, h.seq, h.top⟩
theorem Tl.Ok.up (h : x.Ok w B) (hB : B ≤ B') : x.Ok w B' := ⟨h.l1.up hB, h.l2.up hB, h.l3.up hB, h.k1, h.k2, h.k3, h.pos, h.seq, h.top⟩
end
/-- A table in its box. -/
def BoxT (x : Tl) (k : Nat) (w : World) : Prop := w.heap[k]? = some (.cells x.cells.toArray 26 (0, 0))
section
variable {x : Tl} {k B : Nat} {w w' : World}
theorem BoxT.below (hx : BoxT x k w) (hb : Below B w w') (hk : k < B) : BoxT x k w' := (hb.block k hk).trans hx
theorem BoxT.new (x : Tl) (w : World) : BoxT x w.heap.size (w.alloc (.cells x.cells.toArray 26)) := heap_alloc_new w _
theorem BoxT.lt (hx : BoxT x k w) : k < w.heap.size := (Array.getElem?_eq_some_iff.1 hx).1
theorem BoxT.free (hx : BoxT x k w) (j : Nat) : w.frozen? ⟨k, j, none⟩ = false := frozen_of_row w k j _ _ hx
theorem BoxT.c (hx : BoxT x k w) (j : Nat) (v : Value) (hj : x.cells[j]? = some v) : w.cell? ⟨k, j, none⟩ = some v := by
  have := World.news_of_block hx j v (by simpa using hj)
  have e : (⟨k, 0, none⟩ : Addr).add j = ⟨k, j, none⟩ := by unfold Addr.add; split <;> simp_all
  rw [e] at this
  exact this
theorem BoxT.range (hx : BoxT x k w) : w.rangeAt k 0 x.cells := by
  intro j v hv
  rw [Nat.zero_add]
  exact hx.c j v hv
end
theorem load_table {k : Nat} {W : World} {x : Tl} (hx : BoxT x k W) : (loadVar 26 ⟨k, 0, none⟩).run Tryz.prog W = .ok x.val W :=
  run_loadVar_row W k 26 26 x.cells.toArray (0, 0) _ hx Tryz.underlying26 rfl infoTb

/-- .. its lengths by themselves. -/
def BoxN (seq n1 n2 n3 : Nat) (A1 A2 A3 : Option Addr) (k1 k2 k3 k : Nat) (w : World) : Prop := w.heap[k]? = some (.cells #[.int .u64 (seq : Int), .slice A1 n1 k1, .slice A2 n2 k2, .slice A3 n3 k3] 26 (0, 0))
section
variable {seq n1 n2 n3 k1 k2 k3 k B : Nat} {A1 A2 A3 : Option Addr} {w w' : World}
theorem BoxN.below (hx : BoxN seq n1 n2 n3 A1 A2 A3 k1 k2 k3 k w) (hb : Below B w w') (hk : k < B) : BoxN seq n1 n2 n3 A1 A2 A3 k1 k2 k3 k w' := (hb.block k hk).trans hx
theorem BoxN.lt (hx : BoxN seq n1 n2 n3 A1 A2 A3 k1 k2 k3 k w) : k < w.heap.size := (Array.getElem?_eq_some_iff.1 hx).1
theorem BoxN.free (hx : BoxN seq n1 n2 n3 A1 A2 A3 k1 k2 k3 k w) (j : Nat) : w.frozen? ⟨k, j, none⟩ = false := frozen_of_row w k j _ _ hx
theorem BoxN.c (hx : BoxN seq n1 n2 n3 A1 A2 A3 k1 k2 k3 k w) (j : Nat) (v : Value) (hj : [Value.int .u64 (seq : Int), .slice A1 n1 k1, .slice A2 n2 k2, .slice A3 n3 k3][j]? = some v) : w.cell? ⟨k, j, none⟩ = some v := by
  have := World.news_of_block hx j v (by simpa using hj)
  have e : (⟨k, 0, none⟩ : Addr).add j = ⟨k, j, none⟩ := by unfold Addr.add; split <;> simp_all
  rw [e] at this
  exact this
end

def Tb.check (t : Tb) : Int := if t.May then 0 else 3
theorem Tb.check_ok {t : Tb} (h : t.May) : t.check = 0 := if_pos h
theorem Tb.check_not {t : Tb} (h : ¬ t.May) : t.check = 3 := if_neg h

set_option maxHeartbeats 1600000 in
theorem tcheck_big (x : Tl) (B : Nat) (w : World) (hx : x.Ok w B) (hf : x.Long) (hB : B ≤ w.heap.size) : Calls Tryz.prog 58 #[x.val] w fun e w' => e = .returned (.int .i64 x.t.check) ∧ Below w.heap.size w w' := by
  have Hb := hide (fun o => (Below.refl w.heap.size w).alloc (Nat.le_refl _) o)
  have hw : ∀ o, x.Ok (w.alloc o) B := fun o => hx.below ((Below.refl B w).alloc hB o)
  have f1 : Hid (∀ o, Calls Tryz.prog 88 #[.slice x.A1 x.t.bad.length x.c1, .int .i64 34] (w.alloc o) fun e w' => e = .returned (.bool (decide (Rise 34 x.t.bad))) ∧ w.alloc o = w') := hide (fun o => rise_int _ _ _ _ _ _ (hw o).l1 rfl (by have := hf.f1; omega) (fun _ _ => .inr rfl))
  have f2 : Hid (∀ o, Calls Tryz.prog 89 #[.slice x.A2 x.t.wear.length x.c2] (w.alloc o) fun e w' => e = .returned (.bool (decide (Worn x.t.wear ∧ x.t.wear.length ≤ 34))) ∧ w.alloc o = w') := hide (fun o => worn_any _ _ _ _ _ _ (hw o).l2 rfl (by have := hf.f2; omega))
  have f3 : Hid (∀ o, Calls Tryz.prog 90 #[.slice x.A3 x.t.void.length x.c3, .int .u64 2147483648] (w.alloc o) fun e w' => e = .returned (.bool (decide (Rise 2147483648 x.t.void))) ∧ w.alloc o = w') := hide (fun o => rise_u64 _ _ _ _ _ _ (hw o).l3 rfl (by have := hf.f3; omega) (fun y hy => .inl (hx.pos y hy)))
  clear hx hf hB hw
  rcases x with ⟨⟨seq, bad, wear, void⟩, A1, A2, A3, c1, c2, c3⟩
  dsimp only at *
  unfold Tl.val
  dsimp only
  have cn : ∀ h : ¬ (Tb.mk seq bad wear void).May, (Tb.mk seq bad wear void).check = 3 := fun h => Tb.check_not h
  have cy : ∀ h : (Tb.mk seq bad wear void).May, (Tb.mk seq bad wear void).check = 0 := fun h => Tb.check_ok h
  by_cases h1 : 2147483648 ≤ (seq : Int)
  · have d1 : decide ((2147483648 : Int) ≤ (seq : Int)) = true := decide_eq_true h1
    rw [cn (fun h => by have := h.1; dsimp only at this; omega)]
    clear h1 f1 f2 f3 cn cy
    generalize bad.length = n1 at *
    generalize wear.length = n2 at *
    generalize void.length = n3 at *
    go_enter Tryz.func58, Tryz.ntmps58
    go_wp2
    go_ret
    exact ⟨rfl, Hb.out _⟩
  · have d1 : decide ((2147483648 : Int) ≤ (seq : Int)) = false := decide_eq_false h1
    by_cases h2 : Rise 34 bad
    · rw [decide_eq_true h2] at f1
      by_cases h3 : Worn wear ∧ wear.length ≤ 34
      · rw [decide_eq_true h3] at f2
        by_cases h4 : (36 : Int) < (void.length : Int)
        · rw [cn (fun h => by have := h.2.2.2.1; dsimp only at this; omega)]
          clear h1 h2 h3 f3 cn cy
          generalize bad.length = n1 at *
          generalize wear.length = n2 at *
          generalize void.length = n3 at *
          go_enter Tryz.func58, Tryz.ntmps58
          go_wp2_with (first
            | (go_at_call 88; (with_reducible refine (f1.out _).mono ?_); rintro e w1 ⟨rfl, rfl⟩; clear f1)
            | (go_at_call 89; (with_reducible refine (f2.out _).mono ?_); rintro e w1 ⟨rfl, rfl⟩; clear f2))
          go_ret
          exact ⟨rfl, Hb.out _⟩
        · by_cases h5 : Rise 2147483648 void
          · rw [decide_eq_true h5] at f3
            rw [cy ⟨by dsimp only; omega, h2, h3, by dsimp only; omega, h5⟩]
            clear h1 h2 h3 h5 cn cy
            generalize bad.length = n1 at *
            generalize wear.length = n2 at *
            generalize void.length = n3 at *
            go_enter Tryz.func58, Tryz.ntmps58
            go_wp2_with (first
              | (go_at_call 88; (with_reducible refine (f1.out _).mono ?_); rintro e w1 ⟨rfl, rfl⟩; clear f1)
              | (go_at_call 89; (with_reducible refine (f2.out _).mono ?_); rintro e w1 ⟨rfl, rfl⟩; clear f2)
              | (go_at_call 90; (with_reducible refine (f3.out _).mono ?_); rintro e w1 ⟨rfl, rfl⟩; clear f3))
            go_ret
            exact ⟨rfl, Hb.out _⟩
          · rw [decide_eq_false h5] at f3
            rw [cn (fun h => h5 h.2.2.2.2)]
            clear h1 h2 h3 h5 cn cy
            generalize bad.length = n1 at *
            generalize wear.length = n2 at *
            generalize void.length = n3 at *
            go_enter Tryz.func58, Tryz.ntmps58
            go_wp2_with (first
              | (go_at_call 88; (with_reducible refine (f1.out _).mono ?_); rintro e w1 ⟨rfl, rfl⟩; clear f1)
              | (go_at_call 89; (with_reducible refine (f2.out _).mono ?_); rintro e w1 ⟨rfl, rfl⟩; clear f2)
              | (go_at_call 90; (with_reducible refine (f3.out _).mono ?_); rintro e w1 ⟨rfl, rfl⟩; clear f3))
            go_ret
            exact ⟨rfl, Hb.out _⟩
      · rw [decide_eq_false h3] at f2
        rw [cn (fun h => h3 h.2.2.1)]
        clear h1 h2 h3 f3 cn cy
        generalize bad.length = n1 at *
        generalize wear.length = n2 at *
        generalize void.length = n3 at *
        go_enter Tryz.func58, Tryz.ntmps58
        go_wp2_with (first
          | (go_at_call 88; (with_reducible refine (f1.out _).mono ?_); rintro e w1 ⟨rfl, rfl⟩; clear f1)
          | (go_at_call 89; (with_reducible refine (f2.out _).mono ?_); rintro e w1 ⟨rfl, rfl⟩; clear f2))
        go_ret
        exact ⟨rfl, Hb.out _⟩
    · rw [decide_eq_false h2] at f1
      rw [cn (fun h => h2 h.2.1)]
      clear h1 h2 f2 f3 cn cy
      generalize bad.length = n1 at *
      generalize wear.length = n2 at *
      generalize void.length = n3 at *
      go_enter Tryz.func58, Tryz.ntmps58
      go_wp2_with (first
        | (go_at_call 88; (with_reducible refine (f1.out _).mono ?_); rintro e w1 ⟨rfl, rfl⟩; clear f1))
      go_ret
      exact ⟨rfl, Hb.out _⟩

set_option maxHeartbeats 6400000 in
theorem may16_big (x : Tl) (B : Nat) (w : World) (hx : x.Ok w B) (hf : x.Long) (hB : B ≤ w.heap.size) : Calls Tryz.prog 7 #[x.val] w fun e w' => e = .returned (.bool (decide x.t.May)) ∧ Below w.heap.size w w' := by
  obtain ⟨w1, hw1⟩ : ∃ w1, w1 = w.alloc (.cells x.cells.toArray 26) := ⟨_, rfl⟩
  have hb1 : Below w.heap.size w w1 := by rw [hw1]; exact (Below.refl w.heap.size w).alloc (Nat.le_refl _) _
  have hX : BoxT x w.heap.size w1 := by rw [hw1]; exact BoxT.new x w
  have hx1 := hx.below (hb1.mono hB)
  obtain ⟨z, hz⟩ : ∃ z, z = decide x.t.May := ⟨_, rfl⟩
  rw [← hz]
  have HF : Hid (¬ x.t.May → false = z) := hide (fun h => by rw [hz, decide_eq_false h])
  have HT : Hid (x.t.May → true = z) := hide (fun h => by rw [hz, decide_eq_true h])
  have c0 := hX.c 0 _ rfl
  have c2 := hX.c 2 _ rfl
  have c3 := hX.c 3 _ rfl
  have l1 := hide hx1.l1
  have l2 := hide hx1.l2
  have l3 := hide hx1.l3
  have g1 := hf.f1
  have g2 := hf.f2
  have g3 := hf.f3
  have hpos := hide hx.pos
  have Hb1 := hide hb1
  have Hsz := hide hX.lt
  have Hle := hide hb1.size
  have HBw := hide (Nat.le_trans hB hb1.size)
  have HX := hide hX
  clear hx hf hx1 hX hb1 hz hB
  rcases x with ⟨⟨seq, bad, wear, void⟩, A1, A2, A3, k1, k2, k3⟩
  unfold Tl.val
  unfold Tl.cells at hw1
  dsimp only at *
  obtain ⟨n1, hn1⟩ : ∃ n1, n1 = bad.length := ⟨_, rfl⟩
  obtain ⟨n2, hn2⟩ : ∃ n2, n2 = wear.length := ⟨_, rfl⟩
  obtain ⟨n3, hn3⟩ : ∃ n3, n3 = void.length := ⟨_, rfl⟩
  rw [← hn1] at g1 hw1 ⊢
  rw [← hn2] at c2 g2 hw1 ⊢
  rw [← hn3] at c3 g3 hw1 ⊢
  have Hn1 := hide hn1
  have Hn2 := hide hn2
  have Hn3 := hide hn3
  have HX : Hid (BoxN seq n1 n2 n3 A1 A2 A3 k1 k2 k3 w.heap.size w1) := hide (by have := HX.out; unfold BoxT Tl.cells at this; dsimp only at this; rw [← hn1, ← hn2, ← hn3] at this; exact this)
  clear hn1 hn2 hn3
  by_cases h1 : 2147483648 ≤ (seq : Int)
  · have d1 : decide ((2147483648 : Int) ≤ (seq : Int)) = true := decide_eq_true h1
    have := HF.out (fun h => by have := h.1; dsimp only at this; omega)
    subst this
    clear h1
    go_enter Tryz.func7, Tryz.ntmps7
    go_upto_region 1 with fail
    simp only [← hw1]
    go_wp2
    go_ret
    exact ⟨rfl, by first | exact Hb1.out | (rw [hw1] at Hb1; exact Hb1.out)⟩
  · have d1 : decide ((2147483648 : Int) ≤ (seq : Int)) = false := decide_eq_false h1
    by_cases h2 : (34 : Int) < (n2 : Int)
    · have := HF.out (fun h => by have := h.2.2.1.2; dsimp only at this; rw [← Hn2.out] at this; omega)
      subst this
      clear h1
      go_enter Tryz.func7, Tryz.ntmps7
      go_upto_region 1 with fail
      simp only [← hw1]
      go_wp2
      go_ret
      exact ⟨rfl, by first | exact Hb1.out | (rw [hw1] at Hb1; exact Hb1.out)⟩
    · by_cases h3 : (36 : Int) < (n3 : Int)
      · have := HF.out (fun h => by have := h.2.2.2.1; dsimp only at this; rw [← Hn3.out] at this; omega)
        subst this
        clear h1
        go_enter Tryz.func7, Tryz.ntmps7
        go_upto_region 1 with fail
        simp only [← hw1]
        go_wp2
        go_ret
        exact ⟨rfl, by first | exact Hb1.out | (rw [hw1] at Hb1; exact Hb1.out)⟩
      · have HS := hide (show seq < 2147483648 ∧ wear.length ≤ 34 ∧ void.length ≤ 36 from by have := Hn2.out; have := Hn3.out; omega)
        clear h1
        go_enter Tryz.func7, Tryz.ntmps7
        go_upto_region 1 with fail
        simp only [← hw1]
        clear hw1
        go_wp2
        clear d1 h2 h3 c0 c2 c3
        go_loopw [3] (fun i wr => ∃ j : Nat, j ≤ n1 ∧ i = .int .i64 (j : Int) ∧ Hid (∀ q, q < j → okAt 34 bad q) ∧ Hid (Below w1.heap.size w1 wr)) (fun i _ => n1 - (intOf i).toNat)
        case atStart => exact ⟨0, Nat.zero_le _, rfl, hide (fun q hq => absurd hq (Nat.not_lt_zero _)), hide (Below.refl _ _)⟩
        case round =>
          obtain ⟨j, hj, rfl, HP, HW⟩ := hrel
          have c1 := (HX.out.below HW.out Hsz.out).c 1 _ rfl
          have Hb := hide (Hb1.out.trans (HW.out.mono Hle.out))
          by_cases hlt : j < n1
          · have hlt' : (j : Int) < (n1 : Int) := by omega
            have hjl : j < bad.length := by rw [← Hn1.out]; exact hlt
            have L := hide (l1.out.below (HW.out.mono HBw.out))
            obtain ⟨a, rfl, _, hc⟩ := L.out.num hjl
            have e2 : wrap64 ((j : Int) + 1) = ((j + 1 : Nat) : Int) := by unfold wrap64; omega
            have hno := hide (show ¬ okAt 34 bad j → false = z from fun hno => HF.out (fun h => hno (h.2.1 j hjl)))
            have HY := hide (show okAt 34 bad j → ∀ q, q < j + 1 → okAt 34 bad q from fun h q hq => by
              by_cases hqj : q = j
              · subst hqj; exact h
              · exact HP.out q (by omega))
            have HO := hide (show okAt 34 bad j ↔ (0 ≤ bad.getD j 0 ∧ bad.getD j 0 < 34 ∧ (0 < j → bad.getD (j - 1) 0 < bad.getD j 0)) from Iff.rfl)
            by_cases h0 : j = 0
            · have H0 := hide h0
              have i0 : ¬ (0 : Int) < (j : Int) := by omega
              clear h0 hjl
              generalize bad.getD j 0 = x at *
              by_cases x0 : x < 0
              · have := hno.out (fun h => by have := (HO.out.1 h).1; omega)
                subst this
                have bx0 : decide ((x : Int) < 0) = true := decide_eq_true x0
                first | (have bj : decide (0 < j) = false := decide_eq_false (fun h => i0 (Int.ofNat_lt.2 h))) | (have bj : decide (0 < j) = true := decide_eq_true H0.out)
                go_wp2
                go_quiet (fail)
                go_wp2
                go_ret
                exact ⟨rfl, bel_drewN Hb.out _⟩
              · by_cases x1 : 33 < x
                · have := hno.out (fun h => by have := (HO.out.1 h).2.1; omega)
                  subst this
                  have bx0 : decide (x < 0) = false := decide_eq_false x0
                  have bx1 : decide (33 < (x : Int)) = true := decide_eq_true x1
                  first | (have bj : decide (0 < j) = false := decide_eq_false (fun h => i0 (Int.ofNat_lt.2 h))) | (have bj : decide (0 < j) = true := decide_eq_true H0.out)
                  go_wp2
                  go_quiet (fail)
                  go_wp2
                  go_ret
                  exact ⟨rfl, bel_drewN Hb.out _⟩
                · have HN := hide (HY.out (HO.out.2 ⟨by omega, by omega, fun h => by have := H0.out; omega⟩))
                  have bx0 : decide (x < 0) = false := decide_eq_false x0
                  have bx1 : decide (33 < x) = false := decide_eq_false x1
                  first | (have bj : decide (0 < j) = false := decide_eq_false (fun h => i0 (Int.ofNat_lt.2 h))) | (have bj : decide (0 < j) = true := decide_eq_true H0.out)
                  go_wp2
                  go_quiet (fail)
                  go_wp2
                  exact ⟨⟨j + 1, by omega, by go_num, HN, hide (bel_drewN HW.out _)⟩, by simp [intOf]; omega⟩
            · obtain ⟨a', ha, _, hc'⟩ := L.out.num (i := j - 1) (by omega)
              cases ha
              have i0 : (0 : Int) < (j : Int) := by omega
              have H0 := hide (show 0 < j by omega)
              clear h0 hjl
              generalize bad.getD j 0 = x at *
              generalize bad.getD (j - 1) 0 = y at *
              by_cases x0 : x < 0
              · have := hno.out (fun h => by have := (HO.out.1 h).1; omega)
                subst this
                have bx0 : decide ((x : Int) < 0) = true := decide_eq_true x0
                first | (have bj : decide (0 < j) = false := decide_eq_false (fun h => i0 (Int.ofNat_lt.2 h))) | (have bj : decide (0 < j) = true := decide_eq_true H0.out)
                go_wp2
                go_quiet (fail)
                go_wp2
                go_ret
                exact ⟨rfl, bel_drewN Hb.out _⟩
              · by_cases x1 : 33 < x
                · have := hno.out (fun h => by have := (HO.out.1 h).2.1; omega)
                  subst this
                  have bx0 : decide (x < 0) = false := decide_eq_false x0
                  have bx1 : decide (33 < (x : Int)) = true := decide_eq_true x1
                  first | (have bj : decide (0 < j) = false := decide_eq_false (fun h => i0 (Int.ofNat_lt.2 h))) | (have bj : decide (0 < j) = true := decide_eq_true H0.out)
                  go_wp2
                  go_quiet (fail)
                  go_wp2
                  go_ret
                  exact ⟨rfl, bel_drewN Hb.out _⟩
                · by_cases x2 : x ≤ y
                  · have := hno.out (fun h => by have := (HO.out.1 h).2.2 H0.out; omega)
                    subst this
                    have bx0 : decide (x < 0) = false := decide_eq_false x0
                    have bx1 : decide (33 < x) = false := decide_eq_false x1
                    have bx2 : decide (x ≤ y) = true := decide_eq_true x2
                    first | (have bj : decide (0 < j) = false := decide_eq_false (fun h => i0 (Int.ofNat_lt.2 h))) | (have bj : decide (0 < j) = true := decide_eq_true H0.out)
                    go_wp2
                    go_quiet (fail)
                    go_wp2
                    go_ret
                    exact ⟨rfl, bel_drewN Hb.out _⟩
                  · have HN := hide (HY.out (HO.out.2 ⟨by omega, by omega, fun _ => by omega⟩))
                    have bx0 : decide (x < 0) = false := decide_eq_false x0
                    have bx1 : decide (33 < x) = false := decide_eq_false x1
                    have bx2 : decide (x ≤ y) = false := decide_eq_false x2
                    first | (have bj : decide (0 < j) = false := decide_eq_false (fun h => i0 (Int.ofNat_lt.2 h))) | (have bj : decide (0 < j) = true := decide_eq_true H0.out)
                    go_wp2
                    go_quiet (fail)
                    go_wp2
                    exact ⟨⟨j + 1, by omega, by go_num, HN, hide (bel_drewN HW.out _)⟩, by simp [intOf]; omega⟩
          · obtain rfl : j = n1 := by omega
            have R1 := hide (show Rise 34 bad from fun q hq => HP.out q (by rw [Hn1.out]; exact hq))
            clear HP hj hlt
            go_wp2
            clear c1 Hb
            go_loopw [4] (fun i wr => ∃ j : Nat, j ≤ n2 ∧ i = .int .i64 (j : Int) ∧ Hid (∀ q, q < j → (0 ≤ wear.getD q 0 ∧ wear.getD q 0 ≤ 65535)) ∧ Hid (Below w1.heap.size w1 wr)) (fun i _ => n2 - (intOf i).toNat)
            case atStart => exact ⟨0, Nat.zero_le _, rfl, hide (fun q hq => absurd hq (Nat.not_lt_zero _)), HW⟩
            case round =>
              obtain ⟨j, hj, rfl, HP, HW⟩ := hrel
              have c2 := (HX.out.below HW.out Hsz.out).c 2 _ rfl
              have Hb := hide (Hb1.out.trans (HW.out.mono Hle.out))
              by_cases hlt : j < n2
              · have hlt' : (j : Int) < (n2 : Int) := by omega
                have hjl : j < wear.length := by rw [← Hn2.out]; exact hlt
                have L := hide (l2.out.below (HW.out.mono HBw.out))
                obtain ⟨a, rfl, _, hc⟩ := L.out.num hjl
                have e2 : wrap64 ((j : Int) + 1) = ((j + 1 : Nat) : Int) := by unfold wrap64; omega
                have hno := hide (show ¬ (0 ≤ wear.getD j 0 ∧ wear.getD j 0 ≤ 65535) → false = z from fun hno => HF.out (fun h => hno (h.2.2.1.1 j hjl)))
                have HY := hide (show (0 ≤ wear.getD j 0 ∧ wear.getD j 0 ≤ 65535) → ∀ q, q < j + 1 → (0 ≤ wear.getD q 0 ∧ wear.getD q 0 ≤ 65535) from fun h q hq => by
                  by_cases hqj : q = j
                  · subst hqj; exact h
                  · exact HP.out q (by omega))
                clear hjl
                generalize wear.getD j 0 = x at *
                by_cases x0 : x < 0
                · have := hno.out (fun h => by have := h.1; omega)
                  subst this
                  go_wp2
                  go_ret
                  exact ⟨rfl, Hb.out⟩
                · by_cases x1 : 65535 < x
                  · have := hno.out (fun h => by have := h.2; omega)
                    subst this
                    go_wp2
                    go_ret
                    exact ⟨rfl, Hb.out⟩
                  · have HN := hide (HY.out ⟨by omega, by omega⟩)
                    go_wp2
                    exact ⟨⟨j + 1, by omega, by go_num, HN, HW⟩, by simp [intOf]; omega⟩
              · obtain rfl : j = n2 := by omega
                have R2 := hide (show Worn wear from fun q hq => HP.out q (by rw [Hn2.out]; exact hq))
                clear HP hj hlt
                go_wp2
                clear c2 Hb
                go_loopw [5] (fun i wr => ∃ j : Nat, j ≤ n3 ∧ i = .int .i64 (j : Int) ∧ Hid (∀ q, q < j → okAt 2147483648 void q) ∧ Hid (Below w1.heap.size w1 wr)) (fun i _ => n3 - (intOf i).toNat)
                case atStart => exact ⟨0, Nat.zero_le _, rfl, hide (fun q hq => absurd hq (Nat.not_lt_zero _)), HW⟩
                case round =>
                  obtain ⟨j, hj, rfl, HP, HW⟩ := hrel
                  have c3 := (HX.out.below HW.out Hsz.out).c 3 _ rfl
                  have Hb := hide (Hb1.out.trans (HW.out.mono Hle.out))
                  by_cases hlt : j < n3
                  · have hlt' : (j : Int) < (n3 : Int) := by omega
                    have hjl : j < void.length := by rw [← Hn3.out]; exact hlt
                    have L := hide (l3.out.below (HW.out.mono HBw.out))
                    obtain ⟨a, rfl, _, hc⟩ := L.out.num hjl
                    have e2 : wrap64 ((j : Int) + 1) = ((j + 1 : Nat) : Int) := by unfold wrap64; omega
                    have hno := hide (show ¬ okAt 2147483648 void j → false = z from fun hno => HF.out (fun h => hno (h.2.2.2.2 j hjl)))
                    have HY := hide (show okAt 2147483648 void j → ∀ q, q < j + 1 → okAt 2147483648 void q from fun h q hq => by
                      by_cases hqj : q = j
                      · subst hqj; exact h
                      · exact HP.out q (by omega))
                    have HO := hide (show okAt 2147483648 void j ↔ (0 ≤ void.getD j 0 ∧ void.getD j 0 < 2147483648 ∧ (0 < j → void.getD (j - 1) 0 < void.getD j 0)) from Iff.rfl)
                    have hp0 := hpos.out (void.getD j 0) (by simp [List.getD, List.getElem?_eq_getElem hjl])
                    by_cases h0 : j = 0
                    · have H0 := hide h0
                      have i0 : ¬ (0 : Int) < (j : Int) := by omega
                      clear h0 hjl
                      generalize void.getD j 0 = x at *
                      by_cases x1 : 2147483648 ≤ x
                      · have := hno.out (fun h => by have := (HO.out.1 h).2.1; omega)
                        subst this
                        have bx1 : decide (2147483648 ≤ (x : Int)) = true := decide_eq_true x1
                        first | (have bj : decide (0 < j) = false := decide_eq_false (fun h => i0 (Int.ofNat_lt.2 h))) | (have bj : decide (0 < j) = true := decide_eq_true H0.out)
                        go_wp2
                        go_quiet (fail)
                        go_wp2
                        go_ret
                        exact ⟨rfl, bel_drewN Hb.out _⟩
                      · have HN := hide (HY.out (HO.out.2 ⟨by omega, by omega, fun h => by have := H0.out; omega⟩))
                        have bx1 : decide (2147483648 ≤ x) = false := decide_eq_false x1
                        first | (have bj : decide (0 < j) = false := decide_eq_false (fun h => i0 (Int.ofNat_lt.2 h))) | (have bj : decide (0 < j) = true := decide_eq_true H0.out)
                        go_wp2
                        go_quiet (fail)
                        go_wp2
                        exact ⟨⟨j + 1, by omega, by go_num, HN, hide (bel_drewN HW.out _)⟩, by simp [intOf]; omega⟩
                    · obtain ⟨a', ha, _, hc'⟩ := L.out.num (i := j - 1) (by omega)
                      cases ha
                      have i0 : (0 : Int) < (j : Int) := by omega
                      have H0 := hide (show 0 < j by omega)
                      clear h0 hjl
                      generalize void.getD j 0 = x at *
                      generalize void.getD (j - 1) 0 = y at *
                      by_cases x1 : 2147483648 ≤ x
                      · have := hno.out (fun h => by have := (HO.out.1 h).2.1; omega)
                        subst this
                        have bx1 : decide (2147483648 ≤ (x : Int)) = true := decide_eq_true x1
                        first | (have bj : decide (0 < j) = false := decide_eq_false (fun h => i0 (Int.ofNat_lt.2 h))) | (have bj : decide (0 < j) = true := decide_eq_true H0.out)
                        go_wp2
                        go_quiet (fail)
                        go_wp2
                        go_ret
                        exact ⟨rfl, bel_drewN Hb.out _⟩
                      · by_cases x2 : x ≤ y
                        · have := hno.out (fun h => by have := (HO.out.1 h).2.2 H0.out; omega)
                          subst this
                          have bx1 : decide (2147483648 ≤ x) = false := decide_eq_false x1
                          have bx2 : decide (x ≤ y) = true := decide_eq_true x2
                          first | (have bj : decide (0 < j) = false := decide_eq_false (fun h => i0 (Int.ofNat_lt.2 h))) | (have bj : decide (0 < j) = true := decide_eq_true H0.out)
                          go_wp2
                          go_quiet (fail)
                          go_wp2
                          go_ret
                          exact ⟨rfl, bel_drewN Hb.out _⟩
                        · have HN := hide (HY.out (HO.out.2 ⟨by omega, by omega, fun _ => by omega⟩))
                          have bx1 : decide (2147483648 ≤ x) = false := decide_eq_false x1
                          have bx2 : decide (x ≤ y) = false := decide_eq_false x2
                          first | (have bj : decide (0 < j) = false := decide_eq_false (fun h => i0 (Int.ofNat_lt.2 h))) | (have bj : decide (0 < j) = true := decide_eq_true H0.out)
                          go_wp2
                          go_quiet (fail)
                          go_wp2
                          exact ⟨⟨j + 1, by omega, by go_num, HN, hide (bel_drewN HW.out _)⟩, by simp [intOf]; omega⟩
                  · obtain rfl : j = n3 := by omega
                    have := HT.out ⟨HS.out.1, R1.out, ⟨R2.out, HS.out.2.1⟩, HS.out.2.2, fun q hq => HP.out q (by rw [Hn3.out]; exact hq)⟩
                    subst this
                    go_wp2
                    go_ret
                    exact ⟨rfl, Hb.out⟩
theorem tcheck_any (x : Tl) (B : Nat) (w : World) (hx : x.Ok w B) (hf : x.Few) (hB : B ≤ w.heap.size) : Calls Tryz.prog 58 #[x.val] w fun e w' => e = .returned (.int .i64 x.t.check) ∧ Below w.heap.size w w' := tcheck_big x B w hx hf.long hB
end Go.Proofs.YtigpplckddnghaaGreat
