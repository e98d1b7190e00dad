/-
  LAYER 20, CONTRACTS: versions as cells; placed, newest; mover makes its function; IndexFunc of places.
-/
import Derived.Test.YtofokljhlcdebaaPkC
namespace Go.Proofs.Ytofokljhlcdebaa
open Go.RowKit
set_option maxRecDepth 8000

/-- A version: its numbers, where its places lie, its places. -/
structure Cq where
  lp : Int
  kd : Int
  a : Option Addr
  c : Nat
  ps : List Pl2
deriving Inhabited
def Cq.cells (q : Cq) : List Value := [.int .i64 q.lp, .int .i64 q.kd, .slice q.a q.ps.length q.c]
theorem Cq.cells_len (q : Cq) : q.cells.length = 3 := rfl
def rowK (l : List Cq) : List Value := l.flatMap Cq.cells
theorem rowK_app (l : List Cq) (x : Cq) : rowK (l ++ [x]) = rowK l ++ x.cells := by simp [rowK]
theorem cqelems : Elems Try.prog 37 42 3 40 := by
  obtain ⟨i0, hi, hz0, hz1, hz2⟩ := info_parts (show (Try.prog.info? 42).map (fun i => (i.zero, i.size, i.bytes)) = some (some (.agg #[.int .i64 0, .int .i64 0, .slice none 0 0]), 3, 40) by kernel_rfl)
  exact ⟨Try.underlying37, ⟨i0, _, hi, hz0, hz1, hz2, rfl⟩, by decide⟩
theorem infoCq : (Try.prog.info? 42).map (·.size) = some 3 := by kernel_rfl
/-- Versions that lie, with their places. -/
structure Vq (W : World) (B : Nat) (A : Option Addr) (l : List Cq) : Prop where
  row : Lies W B A (rowK l)
  each : ∀ q ∈ l, Lies W B q.a (rowQ q.ps)
theorem Vq.below {W W' : World} {B : Nat} {A : Option Addr} {l : List Cq} (h : Vq W B A l) (hb : Below B W W') : Vq W' B A l := ⟨h.row.below hb, fun q hq => (h.each q hq).below hb⟩
theorem Vq.up {W : World} {B B' : Nat} {A : Option Addr} {l : List Cq} (h : Vq W B A l) (hb : B ≤ B') : Vq W B' A l := ⟨h.row.up hb, fun q hq => (h.each q hq).up hb⟩
def BoxV (q : Cq) (k : Nat) (w : World) : Prop := w.heap[k]? = some (.cells #[.int .i64 q.lp, .int .i64 q.kd, .slice q.a q.ps.length q.c] 42 (0, 0))
theorem BoxV.lt {q : Cq} {k : Nat} {w : World} (h : BoxV q k w) : k < w.heap.size := (Array.getElem?_eq_some_iff.1 h).1
theorem BoxV.new (q : Cq) (w : World) : BoxV q w.heap.size (w.alloc (.cells #[.int .i64 q.lp, .int .i64 q.kd, .slice q.a q.ps.length q.c] 42)) := heap_alloc_new w _
theorem BoxV.c2 {q : Cq} {k : Nat} {w : World} (h : BoxV q k w) : w.cell? ⟨k, 2, none⟩ = some (.slice q.a q.ps.length q.c) := by simp [World.cell?, show w.heap[k]? = _ from h]
def hasPl (q : Cq) : Bool := decide (0 < q.ps.length)

/-- What placed keeps behind k of the versions. -/
structure Pd (w0 : World) (l : List Cq) (k : Nat) (v : Value) (W : World) : Prop where
  own : W.ownsRow w0.heap.size 42 3 v ((l.take k).filter hasPl).length (rowK ((l.take k).filter hasPl))
  below : Below w0.heap.size w0 W
theorem Pd.later {w0 W W' : World} {l : List Cq} {k : Nat} {v : Value} (h : Pd w0 l k v W) (hb : Below W.heap.size W W') : Pd w0 l k v W' := ⟨own_keepT h.own hb, h.below.trans (hb.mono h.below.size)⟩
theorem filt_next {l : List Cq} {k : Nat} (h : k < l.length) : (l.take (k + 1)).filter hasPl = if hasPl l[k] = true then (l.take k).filter hasPl ++ [l[k]] else (l.take k).filter hasPl := by
  rw [← List.take_append_getElem h, List.filter_append]
  by_cases hp : hasPl l[k] = true <;> simp [hp]
set_option maxHeartbeats 4000000 in
theorem placed_any (A : Option Addr) (n c B : Nat) (l : List Cq) (w : World) (hl : Vq w B A l) (hB : B ≤ w.heap.size) (hn : n = l.length) (hbig : n ≤ 1000) :
    Calls Try.prog 40 #[.slice A n c] w fun e w' => ∃ (A2 : Option Addr) (c2 : Nat), e = .returned (.slice A2 (l.filter hasPl).length c2) ∧ Vq w' w'.heap.size A2 (l.filter hasPl) ∧ Below w.heap.size w w' := by
  have HL := hide hl
  have HB := hide hB
  have Hn := hide hn
  have Hbig := hide hbig
  clear hl hn hbig hB
  go_enter Try.func40, Try.ntmps40
  go_wp2
  go_loopw [3, 8] (fun v i wr => ∃ k : Nat, k ≤ n ∧ i = .int .i64 (k : Int) ∧ Hid (Pd w l k v wr)) (fun _ i _ => n - (intOf i).toNat)
  case atStart => exact ⟨0, Nat.zero_le _, rfl, hide ⟨World.ownsRow_nil _ _ _ _, Below.refl _ _⟩⟩
  case round =>
    obtain ⟨k, hk, rfl, HC⟩ := hrel
    by_cases hlt : k < n
    · have hlt' : (k : Int) < (n : Int) := by omega
      have e7 : wrap64 ((k : Int) + 1) = ((k + 1 : Nat) : Int) := by have := Hbig.out; unfold wrap64; omega
      have hnl : k < l.length := by rw [← Hn.out]; exact hlt
      obtain ⟨ad, rfl, hab, hca⟩ := (HL.out.row.below (HC.out.below.mono HB.out)).elem Cq.cells_len hnl (by decide)
      have Hca := hide hca
      have Hnx := hide (filt_next hnl)
      have Hgl : Hid (((l.take k).filter hasPl).length ≤ 1000) := hide (Nat.le_trans (List.length_filter_le _ _) (by rw [List.length_take]; have := Hbig.out; omega))
      generalize l[k] = f at *
      rcases f with ⟨lp, kd, fa, fc, ps⟩
      clear hca hab hnl
      have Hlt := hide hlt
      have E7 := hide e7
      have HX4 := hide (BoxV.new ⟨lp, kd, fa, fc, ps⟩ wr)
      have HA4 := hide (HC.out.later ((Below.refl wr.heap.size wr).alloc (Nat.le_refl _) (.cells #[.int .i64 lp, .int .i64 kd, .slice fa ps.length fc] 42)))
      unfold Cq.cells at Hca
      dsimp only at *
      go_upto_region 5 with (with_reducible refine wpl_load_addr rfl 42 (.tmp 10) rfl (ad.add (k * 3)) _ Hca.out rfl _ Try.underlying42 rfl 3 infoCq rfl ?_)
      generalize wr.alloc (.cells #[.int .i64 lp, .int .i64 kd, .slice fa ps.length fc] 42) = w5 at *
      clear Hca HC
      have Hq := hide HX4.out.lt
      generalize wr.heap.size = q8 at *
      have x2 := HX4.out.c2
      try dsimp only at x2
      by_cases hb : 0 < ps.length
      · have g1 : decide ((0 : Int) < (ps.length : Int)) = true := decide_eq_true (by omega)
        have g1n : decide (0 < ps.length) = true := decide_eq_true hb
        have Hn2 := hide (show (l.take (k + 1)).filter hasPl = (l.take k).filter hasPl ++ [⟨lp, kd, fa, fc, ps⟩] by rw [Hnx.out, if_pos (by unfold hasPl; exact decide_eq_true hb)])
        obtain ⟨v3, c3, hv3, _, _⟩ := own_form HA4.out.own
        subst hv3
        have HA6 := hide ((Below.refl w5.heap.size w5).alloc (Nat.le_refl _) (.cells #[.int .i64 lp, .int .i64 kd, .slice fa ps.length fc] 42))
        have Hsz := hide (Nat.le_trans HA4.out.below.size HA6.out.size)
        have Hcb := hide (World.news_of_block HX4.out)
        clear hb Hnx
        go_wp2_with (first
          | (with_reducible refine wpl_load_addr rfl 42 (.tmp 5) rfl ⟨q8, 0, none⟩ _ Hcb.out rfl _ Try.underlying42 rfl 3 infoCq rfl ?_)
          | (at_builtin; refine wpl_app _ rfl cqelems (.tmp 16) (.tmp 18) rfl w.heap.size (.slice v3 ((l.take k).filter hasPl).length c3) ((l.take k).filter hasPl).length (rowK ((l.take k).filter hasPl)) rfl (own_keepT HA4.out.own HA6.out) (w5.heap.size + 1) (some ⟨w5.heap.size, 0, none⟩) 1 1 [.int .i64 lp, .int .i64 kd, .slice fa ps.length fc] rfl (by rfl) (Lies.new w5 _ _ _ _ (Nat.lt_succ_self _)) (by simp [Value.oneCell']) (by have := Hgl.out; unfold maxLen; omega) (by have := Hgl.out; omega) Hsz.out ?_; intro A5 c5 w7 hown hg hat; have HN : Hid (Pd w l (k + 1) (.slice A5 (((l.take k).filter hasPl).length + 1) c5) w7) := hide ⟨by rw [Hn2.out, List.length_append, rowK_app]; exact hown, (HA4.out.below.trans (HA6.out.mono HA4.out.below.size)).grown hg Hsz.out (fun j e => (own_lowS HA4.out.own j e).1)⟩; clear hown hg hat))
        go_roundw
        case rel => exact ⟨k + 1, Hlt.out, congrArg (Value.int .i64) E7.out, HN⟩
        case measure => first | exact measT Hlt.out | exact measT2 E7.out Hlt.out
      · have g1 : decide ((0 : Int) < (ps.length : Int)) = false := decide_eq_false (by omega)
        have g1n : decide (0 < ps.length) = false := decide_eq_false hb
        have Hn2 := hide (show (l.take (k + 1)).filter hasPl = (l.take k).filter hasPl by rw [Hnx.out, if_neg (by unfold hasPl; rw [decide_eq_false hb]; decide)])
        have HN : Hid (Pd w l (k + 1) _ w5) := hide ⟨by rw [Hn2.out]; exact HA4.out.own, HA4.out.below⟩
        clear hb Hnx
        go_wp2
        go_roundw
        case rel => exact ⟨k + 1, Hlt.out, congrArg (Value.int .i64) E7.out, HN⟩
        case measure => first | exact measT Hlt.out | exact measT2 E7.out Hlt.out
    · obtain rfl : k = n := by omega
      obtain ⟨v3, c3, hv3, _, _⟩ := own_form HC.out.own
      subst hv3
      have e : l.take k = l := List.take_of_length_le (by rw [Hn.out]; exact Nat.le_refl _)
      have HC2 := hide HC.out
      have hw := HC.out.own
      rw [e] at hw ⊢
      have HW := hide hw
      clear HC hw
      go_wp2
      go_ret
      exact ⟨v3, c3, rfl, ⟨Lies.of_own HW.out, fun q hq => ((HL.out.each q (List.mem_filter.1 hq).1).below (HC2.out.below.mono HB.out)).up (Nat.le_trans HB.out HC2.out.below.size)⟩, HC2.out.below⟩
def headP (q : Cq) : Pl2 := q.ps.headD (0, 0)
/-- What newest keeps behind k of the versions. -/
structure Nw (w0 : World) (l : List Cq) (k : Nat) (v : Value) (W : World) : Prop where
  own : W.ownsRow w0.heap.size 30 2 v k (rowQ ((l.take k).map headP))
  below : Below w0.heap.size w0 W
theorem Nw.later {w0 W W' : World} {l : List Cq} {k : Nat} {v : Value} (h : Nw w0 l k v W) (hb : Below W.heap.size W W') : Nw w0 l k v W' := ⟨own_keepT h.own hb, h.below.trans (hb.mono h.below.size)⟩
set_option maxHeartbeats 4000000 in
theorem newest_any (A : Option Addr) (n c B : Nat) (l : List Cq) (w : World) (hl : Vq w B A l) (hB : B ≤ w.heap.size) (hn : n = l.length) (hbig : n ≤ 1000) (hne : ∀ q ∈ l, 0 < q.ps.length) :
    Calls Try.prog 41 #[.slice A n c] w fun e w' => ∃ v : Value, e = .returned v ∧ w'.ownsRow w.heap.size 30 2 v n (rowQ (l.map headP)) ∧ Below w.heap.size w w' := by
  have HL := hide hl
  have HB := hide hB
  have Hn := hide hn
  have Hbig := hide hbig
  have Hne := hide hne
  clear hl hn hbig hB hne
  go_enter Try.func41, Try.ntmps41
  go_wp2
  go_loopw [3, 8] (fun v i wr => ∃ k : Nat, k ≤ n ∧ i = .int .i64 (k : Int) ∧ Hid (Nw w l k v wr)) (fun _ i _ => n - (intOf i).toNat)
  case atStart => exact ⟨0, Nat.zero_le _, rfl, hide ⟨World.ownsRow_nil _ _ _ _, Below.refl _ _⟩⟩
  case round =>
    obtain ⟨k, hk, rfl, HC⟩ := hrel
    by_cases hlt : k < n
    · have hlt' : (k : Int) < (n : Int) := by omega
      have e7 : wrap64 ((k : Int) + 1) = ((k + 1 : Nat) : Int) := by have := Hbig.out; unfold wrap64; omega
      have hnl : k < l.length := by rw [← Hn.out]; exact hlt
      obtain ⟨ad, rfl, hab, hca⟩ := (HL.out.row.below (HC.out.below.mono HB.out)).elem Cq.cells_len hnl (by decide)
      have Hca := hide hca
      have Hnx : Hid ((l.take (k + 1)).map headP = (l.take k).map headP ++ [headP l[k]]) := hide (by rw [← List.take_append_getElem hnl, List.map_append]; rfl)
      have Hpl := hide ((HL.out.each _ (List.getElem_mem hnl)).below (HC.out.below.mono HB.out))
      have Hp0 := hide (Hne.out _ (List.getElem_mem hnl))
      generalize l[k] = f at *
      rcases f with ⟨lp, kd, fa, fc, ps⟩
      clear hca hab hnl
      have Hlt := hide hlt
      have E7 := hide e7
      have HX4 := hide (BoxV.new ⟨lp, kd, fa, fc, ps⟩ wr)
      have HB4 : Hid (Below wr.heap.size wr (wr.alloc (.cells #[.int .i64 lp, .int .i64 kd, .slice fa ps.length fc] 42))) := hide ((Below.refl wr.heap.size wr).alloc (Nat.le_refl _) _)
      have HA4 := hide (HC.out.later HB4.out)
      have Hpl2 := hide (Hpl.out.below (HB4.out.mono (Nat.le_trans HB.out HC.out.below.size)))
      unfold Cq.cells at Hca
      dsimp only at *
      go_upto_region 5 with (with_reducible refine wpl_load_addr rfl 42 (.tmp 10) rfl (ad.add (k * 3)) _ Hca.out rfl _ Try.underlying42 rfl 3 infoCq rfl ?_)
      generalize wr.alloc (.cells #[.int .i64 lp, .int .i64 kd, .slice fa ps.length fc] 42) = w5 at *
      clear Hca HC Hpl HB4
      have Hq := hide HX4.out.lt
      generalize wr.heap.size = q8 at *
      have x2 := HX4.out.c2
      try dsimp only at x2
      obtain ⟨ag, rfl, _, hcg⟩ := Hpl2.out.elem plc_len Hp0.out (by decide)
      have hh : ps[0]'Hp0.out = headP ⟨lp, kd, some ag, fc, ps⟩ := by
        unfold headP
        cases ps with
        | nil => exact absurd Hp0.out (by simp)
        | cons p r => rfl
      rw [hh] at hcg
      have Hcg := hide hcg
      have b0 : (0 : Int) < (ps.length : Int) := by have := Hp0.out; omega
      generalize headP ⟨lp, kd, some ag, fc, ps⟩ = p at *
      rcases p with ⟨px, py⟩
      unfold plc at Hcg
      obtain ⟨v3, c3, hv3, _, _⟩ := own_form HA4.out.own
      subst hv3
      have HA6 := hide ((Below.refl w5.heap.size w5).alloc (Nat.le_refl _) (.cells #[.int .i64 px, .int .i64 py] 30))
      have Hsz := hide (Nat.le_trans HA4.out.below.size HA6.out.size)
      have Hk9 := hide (show k + 1 ≤ 1000 by have := Hlt.out; have := Hbig.out; omega)
      clear hcg hh Hp0 Hpl2
      rw [show ag.add (0 * 2) = ag by simp [Addr.add]] at Hcg
      go_wp2_with (first
        | (with_reducible refine wpl_load_addr rfl 30 (.tmp 15) rfl ag _ Hcg.out rfl _ Try.underlying30 rfl 2 infoPl2 rfl ?_)
        | (at_builtin; refine wpl_app _ rfl plelems (.tmp 12) (.tmp 17) rfl w.heap.size (.slice v3 k c3) k (rowQ ((l.take k).map headP)) rfl (own_keepT HA4.out.own HA6.out) (w5.heap.size + 1) (some ⟨w5.heap.size, 0, none⟩) 1 1 [.int .i64 px, .int .i64 py] rfl (by rfl) (Lies.new w5 _ _ _ _ (Nat.lt_succ_self _)) (by simp [Value.oneCell']) (by have := Hk9.out; unfold maxLen; omega) (by have := Hk9.out; omega) Hsz.out ?_; intro A5 c5 w7 hown hg hat; have HN : Hid (Nw w l (k + 1) (.slice A5 (k + 1) c5) w7) := hide ⟨by rw [Hnx.out, rowQ_app]; exact hown, (HA4.out.below.trans (HA6.out.mono HA4.out.below.size)).grown hg Hsz.out (fun j e => (own_lowS HA4.out.own j e).1)⟩; clear hown hg hat))
      go_roundw
      case rel => exact ⟨k + 1, Hlt.out, congrArg (Value.int .i64) E7.out, HN⟩
      case measure => first | exact measT Hlt.out | exact measT2 E7.out Hlt.out
    · obtain rfl : k = n := by omega
      have e : l.take k = l := List.take_of_length_le (by rw [Hn.out]; exact Nat.le_refl _)
      have HC2 := hide HC.out
      clear HC
      go_wp2
      go_ret
      exact ⟨_, rfl, by have := HC2.out.own; rwa [e] at this, HC2.out.below⟩
end Go.Proofs.Ytofokljhlcdebaa
