/-
  wagtailref16.Is. (Cut out of TbF.)
  LAYER 19: finds whose numbers are whatever they are, as mathematics and as cells.
-/
import Derived.Test.YtjdaoenapmjoeaaRowK
import Derived.Test.YtjdaoenapmjoeaaElem
import Derived.RegionTactic
import Derived.Deep.QuietTactic
import Derived.BigQuiet
import Derived.Deep.CutBlock
namespace Go.Proofs.Ytjdaoenapmjoeaa
section
open Go.RowKit
set_option maxRecDepth 8000
theorem drop_getD (l : List Int) (j : Nat) (h : j < l.length) : l.drop j = l.getD j 0 :: l.drop (j + 1) := by
  rw [List.drop_eq_getElem_cons h]; simp [List.getD, List.getElem?_eq_getElem h]

theorem is16_any (A : Option Addr) (n c B : Nat) (l : List Int) (z : Int) (w : World) (hl : Lies w B A (nums .u64 l)) (hn : n = l.length) (hbig : n ≤ 1000000) :
    Calls Try.prog 8 #[.slice A n c, .int .u64 z] w fun e w' => e = .returned (.bool (decide (z ∈ l))) ∧ w = w' := by
  have Hl := hide hl
  have Hn := hide hn
  obtain ⟨R, hR⟩ : ∃ R, R = decide (z ∈ l) := ⟨_, rfl⟩
  rw [← hR]
  have HR := hide hR
  clear hl hn hR
  go_enter Try.func8, Try.ntmps8
  go_wp2
  go_loop [5] (fun i => ∃ j : Nat, j ≤ n ∧ i = .int .i64 (j : Int) ∧ Hid (R = decide (z ∈ l.drop j))) (fun i => n - (intOf i).toNat)
  case atStart => exact ⟨0, Nat.zero_le _, rfl, hide (by rw [HR.out]; rfl)⟩
  case round =>
    obtain ⟨j, hj, rfl, hd⟩ := hrel
    by_cases hlt : j < n
    · have hjl : j < l.length := by rw [← Hn.out]; exact hlt
      have hlt' : (j : Int) < (n : Int) := by omega
      obtain ⟨a, rfl, hab, hca⟩ := Hl.out.num hjl
      have Hd := hide (drop_getD l j hjl)
      have e1 : wrap64 ((j : Int) + 1) = ((j + 1 : Nat) : Int) := by unfold wrap64; omega
      generalize l.getD j 0 = u at *
      clear hjl
      by_cases hz : u = z
      · subst hz
        have hR2 : R = true := by rw [hd.out, Hd.out]; simp
        go_wp2
        go_ret
        exact ⟨by first | rfl | exact ret_bool hR2.symm, rfl⟩
      · have hb : (u == z) = false := beq_eq_false_iff_ne.2 hz
        have Hnew := hide (show R = decide (z ∈ l.drop (j + 1)) by rw [hd.out, Hd.out]; exact decide_eq_decide.2 (by simp [Ne.symm hz]))
        go_wp2
        go_round
        case rel => exact ⟨j + 1, by omega, rfl, Hnew⟩
        case measure => simp [intOf]; omega
    · obtain rfl : j = n := by omega
      have hR2 : R = false := by rw [hd.out, List.drop_eq_nil_of_le (by rw [Hn.out]; exact Nat.le_refl _)]; rfl
      go_wp2
      go_ret
      exact ⟨by first | rfl | exact ret_bool hR2.symm, rfl⟩
end
section
open Go.RowKit
set_option maxRecDepth 8000

/-- A find. -/
structure Fo where
  x : Int
  y : Int
  kd : Int
  ix : Int
  ct : Int
  bt : Int
  op : Int
  lp : Int
  ln : Int
deriving DecidableEq, Inhabited
def Fo.cells (f : Fo) : List Value := [.int .i64 f.x, .int .i64 f.y, .int .i64 f.kd, .int .i64 f.ix, .int .i64 f.ct, .int .u64 f.bt, .int .u64 f.op, .int .i64 f.lp, .int .i64 f.ln]
theorem Fo.cells_len (f : Fo) : f.cells.length = 9 := rfl
theorem infoFo : (Try.prog.info? 34).map (·.size) = some 9 := by kernel_rfl
def rowO (l : List Fo) : List Value := l.flatMap Fo.cells
theorem rowO_len (l : List Fo) : (rowO l).length = l.length * 9 := flat_len _ 9 Fo.cells_len l
theorem rowO_app (l : List Fo) (x : Fo) : rowO (l ++ [x]) = rowO l ++ x.cells := by simp [rowO]
theorem fo_one (x : Fo) : ∀ u ∈ x.cells, u.oneCell' = true := by simp [Fo.cells, Value.oneCell']
theorem foelems : Elems Try.prog 22 34 9 72 := by
  obtain ⟨i0, hi, hz0, hz1, hz2⟩ := info_parts (show (Try.prog.info? 34).map (fun i => (i.zero, i.size, i.bytes)) = some (some (.agg #[.int .i64 0, .int .i64 0, .int .i64 0, .int .i64 0, .int .i64 0, .int .u64 0, .int .u64 0, .int .i64 0, .int .i64 0]), 9, 72) by kernel_rfl)
  exact ⟨Try.underlying22, ⟨i0, _, hi, hz0, hz1, hz2, rfl⟩, by decide⟩
/-- A find in its box. -/
def BoxO (f : Fo) (k : Nat) (w : World) : Prop := w.heap[k]? = some (.cells f.cells.toArray 34 (0, 0))
section
variable {f : Fo} {k B : Nat} {w w' : World}
theorem BoxO.below (hx : BoxO f k w) (hb : Below B w w') (hk : k < B) : BoxO f k w' := (hb.block k hk).trans hx
theorem BoxO.lt (hx : BoxO f k w) : k < w.heap.size := (Array.getElem?_eq_some_iff.1 hx).1
theorem BoxO.new (f : Fo) (w : World) : BoxO f w.heap.size (w.alloc (.cells f.cells.toArray 34)) := heap_alloc_new w _
theorem BoxO.c (hx : BoxO f k w) (j : Nat) (v : Value) (hj : f.cells[j]? = some v) : w.cell? ⟨k, j, none⟩ = some v := by
  have := World.news_of_block hx j v (by simpa using hj)
  have e : (⟨k, 0, none⟩ : Addr).add j = ⟨k, j, none⟩ := by unfold Addr.add; split <;> simp_all
  rw [e] at this
  exact this
theorem BoxO.range (hx : BoxO f k w) : w.rangeAt k 0 f.cells := by
  intro j v hv
  rw [Nat.zero_add]
  exact hx.c j v hv
end

/-! ### the document's words -/
def hiO (l : List Fo) : Int := l.foldl (fun h f => max h f.bt) 0
/-- Does a find end the batch h? -/
def endO (h : Int) (f : Fo) : Bool := decide (f.bt = h) && decide (f.ix = wrap64 (f.ct - 1))
def brokenO (l : List Fo) : Bool := decide (0 < l.length) && !(l.any (endO (hiO l)))
/-- Which batches count for nothing, as they are listed ahead of the sorting. -/
def voidO (l : List Fo) (void : List Int) : List Int := void ++ (if brokenO l = true then [hiO l] else [])
def countO (ns : List Int) (b : Int) : Bool := !decide (b ∈ ns)
/-- The greatest batch of a logical page that counts, 0 if there is none. -/
def newO (ns : List Int) (l : List Fo) (lp : Int) : Int := l.foldl (fun h f => if countO ns f.bt = true ∧ f.lp = lp then max h f.bt else h) 0
def wantO (ns : List Int) (l : List Fo) (f : Fo) : Bool := countO ns f.bt && decide (f.bt = newO ns l f.lp)
def groupO (ns : List Int) (l : List Fo) (m : List Fo) (lp : Int) : List Fo := m.filter fun f => wantO ns l f && decide (f.lp = lp)
theorem hiO_next {l : List Fo} {n : Nat} (h : n < l.length) : hiO (l.take (n + 1)) = max (hiO (l.take n)) l[n].bt := by
  unfold hiO
  rw [← List.take_append_getElem h, List.foldl_append]; rfl
theorem newO_next {ns : List Int} {l : List Fo} {n : Nat} (h : n < l.length) (lp : Int) : newO ns (l.take (n + 1)) lp = if countO ns l[n].bt = true ∧ l[n].lp = lp then max (newO ns (l.take n) lp) l[n].bt else newO ns (l.take n) lp := by
  unfold newO
  rw [← List.take_append_getElem h, List.foldl_append]; rfl
/-- Numbers within their kinds. -/
def Fo.Ok (f : Fo) : Prop := (-9223372036854775808 ≤ f.lp ∧ f.lp ≤ 9223372036854775807) ∧ (0 ≤ f.bt ∧ f.bt ≤ 18446744073709551615)
end
end Go.Proofs.Ytjdaoenapmjoeaa
