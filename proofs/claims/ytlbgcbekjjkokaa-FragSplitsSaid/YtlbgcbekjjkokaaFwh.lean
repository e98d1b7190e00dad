/-
  CONTRACTS: frag.whole.
-/
import Derived.Test.YtlbgcbekjjkokaaIdx
import Derived.Test.YtlbgcbekjjkokaaWhol
namespace Go.Proofs.Ytlbgcbekjjkokaa
open Go.RowKit

theorem putArr_eq : ∀ (vs : List Value) (o : Nat) (cs : List Value), o + vs.length ≤ cs.length → putArr cs.toArray o vs = (cs.take o ++ (vs ++ cs.drop (o + vs.length))).toArray
  | [], o, cs, h => by show cs.toArray = _; simp
  | v :: r, o, cs, h => by
    rw [List.length_cons] at h
    show putArr (cs.toArray.setIfInBounds o v) (o + 1) r = _
    rw [List.setIfInBounds_toArray, putArr_eq r (o + 1) (cs.set o v) (by rw [List.length_set]; omega)]
    congr 1
    have hd : (cs.set o v).drop (o + 1 + r.length) = cs.drop (o + (r.length + 1)) := by
      rw [List.drop_set_of_lt (by omega)]; congr 1; omega
    have ht : (cs.set o v).take (o + 1) = cs.take o ++ [v] := by
      rw [List.take_succ_eq_append_getElem (by rw [List.length_set]; omega), List.take_set_of_le (Nat.le_refl _), List.getElem_set_self]
    rw [hd, ht, List.append_assoc, List.length_cons]
    rfl
theorem put_p (b : Bn) (p : Pr) : putArr b.cells.toArray 0 p.cells = (Bn.cells { b with p := p }).toArray := by rw [putArr_eq _ _ _ (by show 0 + 19 ≤ 25; omega)]; rfl
theorem put_data (b : Bn) (s : ByteArray) : b.cells.toArray.setIfInBounds 24 (.string s) = (Bn.cells { b with pay := { b.pay with data := s } }).toArray := rfl
theorem cells_one (b : Bn) : b.cells.toArray.toList.all (·.oneCell') = true := rfl
theorem pcells_one (p : Pr) : p.cells.toArray.toList.all (·.oneCell') = true := rfl
theorem cells_size (b : Bn) : b.cells.toArray.size = 25 := rfl
theorem fits_p (b : Bn) : decide (0 + 19 ≤ b.cells.toArray.size) = true := by rw [cells_size]; rfl
theorem lt_24 (b : Bn) : 24 < b.cells.toArray.size := by rw [cells_size]; omega
theorem pcells_size (p : Pr) : p.cells.toArray.size = 19 := rfl

set_option maxRecDepth 100000 in
set_option maxHeartbeats 4000000 in
theorem fwhole_any (a : Addr) (n c B : Nat) (l : List Bn) (w : World) (h : Lies w B (some a) (l.flatMap Bn.cells)) (hn : n = l.length) (hB : B ≤ w.heap.size) (hbig : n ≤ 1000000) (j : Nat) (hj : j < l.length)
    (hany : l.any (fun b => decide (b.p.off = 0)) = true) (hidx : l.findIdx (fun b => decide (b.p.off = 0)) = j) (b : Bn) (hbj : l[j] = b) (hok : b.Ok w B) (D : Option Addr) (dn dc BD : Nat) (data : List UInt8) (hD : Lies w BD D (bys data)) (hdn : dn = data.length) (hBD : BD ≤ w.heap.size) (hdl : data.length ≤ 1000000) :
    Calls Try.prog 25 #[.slice (some a) n c, .slice D dn dc] w fun e w' => ∃ A' c', e = .returned (Bn.val { b with p := b.p.whole, A := A', c := c', pay := { b.pay with data := str data } }) ∧ Bn.Ok w' w'.heap.size { b with p := b.p.whole, A := A', c := c', pay := { b.pay with data := str data } } ∧ Below w.heap.size w w' ∧ ∀ a, A' = some a → w.heap.size < a.block := by
  have FI := hide (fun W (hb : Below w.heap.size w W) => indexN_any 39 #[] (fun args w => by rfl) (some a) n c B l (fun b => decide (b.p.off = 0)) W (h.below (hb.mono hB)) hn (Nat.le_trans hB hb.size) (by omega) (fun W2 _ k hk => whole1_any l[k] W2))
  simp only [hany, if_true, hidx] at FI
  have FC := hide (fun W (hb : Below w.heap.size w W) => clone_any b B W (hok.below (hb.mono hB)) (Nat.le_trans hB hb.size))
  have FW := hide (fun W => whole_any b.p W hok.fl)
  have FS := hide (fun W (hb : Below w.heap.size w W) => strU8 dc (hD.below (hb.mono hBD)) hdn)
  have Hl := hide h
  have hjn : (j : Int) < (n : Int) := by omega
  have Hr0 := hide (fun A => heap_alloc_last w (.cells A 33))
  have HB := hide (fun o => (Below.refl w.heap.size w).alloc (Nat.le_refl _) o)
  have Hbj := hide hbj
  have Hfin := hide (fun (A' : Option Addr) (c' : Nat) (W : World) (h1 : Bn.Ok W W.heap.size { b with A := A', c := c' }) => (⟨h1.lies, h1.len, h1.cap, h1.few, h1.big, by show b.p.fl - b.p.fl % 2 < _; have := h1.fl; simp only [] at this; omega, by show 0 < _; omega, by show 0 < _; omega, h1.dst, h1.src, h1.rep, by show (str data).size ≤ _; rw [str_size]; omega⟩ : Bn.Ok W W.heap.size { b with p := b.p.whole, A := A', c := c', pay := { b.pay with data := str data } }))
  clear h hok hD hany hidx hbj hn hdn
  go_enter Try.func25, Try.ntmps25
  go_wp2_with fail
  refine (FI.out _ (HB.out _)).mono ?_
  rintro e w1 ⟨rfl, hb⟩
  have hr1 := (hb.block w.heap.size (by simp)).trans (Hr0.out _)
  have hz1 : w.heap.size < w1.heap.size := by have := hb.size; simp at this; omega
  have Hb1 := hide ((HB.out _).trans (hb.mono (by simp)))
  have Hr1 := hide hr1
  obtain ⟨a', ha', _, hca⟩ := (Hl.out.below (Hb1.out.mono hB)).elem (f := Bn.cells) (m := 25) Bn.cells_len hj (by omega)
  cases ha'
  rw [Hbj.out] at hca
  have Hca := hide hca
  clear hca hr1 hb FI HB Hr0 Hl Hbj
  go_wp2_with (with_reducible refine wpl_load_addr rfl 33 (.tmp 11) rfl (a.add (j * 25)) b.cells Hca.out rfl _ Try.underlying33 rfl 25 info33 (by with_unfolding_all rfl) ?_)
  refine (FC.out _ Hb1.out).mono ?_
  rintro e w2 ⟨A1, c1, rfl, hok1, hb, hab⟩
  have hr2 := (hb.block w.heap.size hz1).trans Hr1.out
  have hz2 : w.heap.size < w2.heap.size := by have := hb.size; omega
  have Hb2 := hide (Hb1.out.trans (hb.mono (Nat.le_of_lt hz1)))
  have Hok2 := hide hok1
  have Hab := hide hab
  have HB2 := hide (fun o => (Below.refl w2.heap.size w2).alloc (Nat.le_refl _) o)
  have Hl2 := hide (fun A => heap_alloc_last w2 (.cells A 33))
  have Ho2 := hide (fun A => (heap_alloc_old w2 (.cells A 33) hz2).trans hr2)
  have Hfin2 := hide (Hfin.out A1 c1)
  obtain ⟨b1, hb1⟩ : ∃ b1, b1 = { b with A := A1, c := c1 } := ⟨_, rfl⟩
  have R2 := hide (range_p (range_new w2 (Bn.cells b1) 33 (0, 0)))
  rw [show ({ b with A := A1, c := c1 } : Bn) = b1 from hb1.symm] at Hok2 Hfin2
  have Hval := hide (show (Bn.val { b with A := A1, c := c1 }) = .agg b1.cells.toArray by rw [hb1]; rfl)
  rw [Hval.out]
  have hp1 : b1.p = b.p := by rw [hb1]
  rw [hp1] at R2
  have Hput := hide (put_p b1 b.p.whole)
  obtain ⟨b2, hb2⟩ : ∃ b2, b2 = ({ b1 with p := b.p.whole } : Bn) := ⟨_, rfl⟩
  rw [← hb2] at Hput
  have Hput2 := hide (put_data b2 (str data))
  obtain ⟨b3, hb3⟩ : ∃ b3, b3 = ({ b2 with pay := { b2.pay with data := str data } } : Bn) := ⟨_, rfl⟩
  rw [← hb3] at Hput2
  have e3 : b3 = { b with p := b.p.whole, A := A1, c := c1, pay := { b.pay with data := str data } } := by rw [hb3, hb2, hb1]
  have Hfin3 := hide (show ∀ (W : World), Bn.Ok W W.heap.size b1 → Bn.Ok W W.heap.size b3 by rw [e3]; exact Hfin2.out)
  have HV3 := hide (show Bn.val { b with p := b.p.whole, A := A1, c := c1, pay := { b.pay with data := str data } } = .agg b3.cells.toArray by rw [e3]; rfl)
  have HO3 := hide e3
  have HA3 := hide (show b1.A = A1 by rw [hb1])
  clear hb1 hb2 hb3 e3 hp1 Hfin Hfin2 Hval hr2 hb FC Hb1 Hr1 hok1 hab Hca
  simp only []
  go_wp2_with (first
    | (with_reducible refine wpl_store_last w2 rfl 33 (.tmp 6) (.tmp 13) rfl 33 _ b1.cells.toArray rfl rfl 25 info33 (cells_size b1) (by with_unfolding_all rfl) (cells_one b1) ?_)
    | (with_reducible refine wpl_load_mid rfl 28 (.tmp 14) rfl w2.heap.size 0 b.p.cells R2.out rfl _ Try.underlying28 rfl 19 info28 (by with_unfolding_all rfl) ?_))
  refine (FW.out _).mono ?_
  rintro e w4 ⟨rfl, hb⟩
  have hg4 := (hb.block w2.heap.size (by simp)).trans (Hl2.out _)
  have hr4 := (hb.block w.heap.size (by simp; omega)).trans (Ho2.out _)
  have hz4 : w2.heap.size < w4.heap.size := by have := hb.size; simp at this; omega
  have Hb4 := hide ((HB2.out _).trans (hb.mono (by simp)))
  have Hg4 := hide hg4
  have Hr4 := hide hr4
  have HB2w := hide Hb2.out
  have fs := FS.out
  have FSA := hide fs
  rw [show ({ b.p with fl := b.p.fl - b.p.fl % 2, off := 0, tot := 0 } : Pr) = b.p.whole from rfl]
  rw [show (b.p.whole).val = .agg b.p.whole.cells.toArray from rfl]
  simp only []
  clear hg4 hr4 hb FW R2 HB2 Hl2 Ho2 FS fs
  generalize hP1 : b.p.whole = P1 at *
  have HP := hide hP1
  clear hP1
  go_wp2_with (first
    | (with_reducible refine wpl_store_part rfl 28 (.tmp 17) (.tmp 16) rfl w2.heap.size 0 33 _ P1.cells.toArray Hg4.out rfl rfl 19 info28 (pcells_size P1) (fits_p b1) (pcells_one P1) ?_; rw [show P1.cells.toArray.toList = P1.cells from rfl, Hput.out]; have Hg5 := hide (setRow_heap w4 w2.heap.size _ b2.cells.toArray _ _ Hg4.out); have Hr5 := hide ((setRow_other w4 w2.heap.size w.heap.size b2.cells.toArray (by omega)).trans Hr4.out); have Hb5 := hide (below_setRow Hb4.out (Nat.le_refl _) b2.cells.toArray); have hz5 : w2.heap.size < (w4.setRow w2.heap.size b2.cells.toArray).heap.size := (Array.getElem?_eq_some_iff.1 Hg5.out).1; clear Hg4 Hr4 Hb4 Hput hz4; generalize w4.setRow w2.heap.size b2.cells.toArray = w5 at *; have fs5 := FSA.out w5 (HB2w.out.trans (Hb5.out.mono (Nat.le_of_lt hz2))))
    | (with_reducible refine wpl_store_field rfl 9 (.tmp 21) (.tmp 19) rfl w2.heap.size 24 rfl (.string (str data)) rfl 33 b2.cells.toArray Hg5.out (lt_24 b2) rfl rfl info_str ?_; rw [Hput2.out]; have Hg6 := hide (setRow_heap w5 w2.heap.size _ b3.cells.toArray _ _ Hg5.out); have Hr6 := hide ((setRow_other w5 w2.heap.size w.heap.size b3.cells.toArray (by omega)).trans Hr5.out); have Hb6 := hide (below_setRow Hb5.out (Nat.le_refl _) b3.cells.toArray); have hz6 : w2.heap.size < (w5.setRow w2.heap.size b3.cells.toArray).heap.size := (Array.getElem?_eq_some_iff.1 Hg6.out).1; clear Hg5 Hr5 Hb5 Hput2 hz5 fs5; generalize w5.setRow w2.heap.size b3.cells.toArray = w6 at *)
    | (with_reducible refine wpl_load_at rfl 33 (.tmp 6) rfl w2.heap.size 33 b3.cells.toArray _ Hg6.out rfl Try.underlying33 rfl 25 info33 (cells_size b3) ?_)
    | (with_reducible refine wpl_store_at rfl 33 (.tmp 4) (.tmp 22) rfl w.heap.size 33 _ b3.cells.toArray Hr6.out rfl rfl 25 info33 (cells_size b3) (by with_unfolding_all rfl) (cells_one b3) ?_; have Hg7 := hide (setRow_heap w6 w.heap.size _ b3.cells.toArray _ _ Hr6.out); have Hb7 := hide (below_setRow (HB2w.out.trans (Hb6.out.mono (Nat.le_of_lt hz2))) (Nat.le_refl _) b3.cells.toArray); have Hok7 := hide (show Lies (w6.setRow w.heap.size b3.cells.toArray) (w6.setRow w.heap.size b3.cells.toArray).heap.size b1.A (b1.bs.flatMap Bk.cells) from Lies.up (Lies.setRow (Hok2.out.lies.below Hb6.out) (fun a ha => by have := Hab.out a (HA3.out ▸ ha); omega) b3.cells.toArray) (by simp; omega)); clear Hg6 Hr6 Hb6 hz6; generalize w6.setRow w.heap.size b3.cells.toArray = w7 at *))
  refine end_cell rfl w.heap.size _ b3.cells.toArray _ Hg7.out rfl Try.underlying33 rfl 25 info33 (cells_size b3) ?_
  exact ⟨A1, c1, by rw [HP.out, HV3.out], by rw [HP.out, ← HO3.out]; exact Hfin3.out w7 { Hok2.out with lies := Hok7.out }, Hb7.out, fun a ha => Nat.lt_of_lt_of_le hz1 (Hab.out a ha)⟩

end Go.Proofs.Ytlbgcbekjjkokaa
