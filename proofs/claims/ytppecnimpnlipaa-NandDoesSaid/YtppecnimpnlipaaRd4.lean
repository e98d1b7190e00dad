/-
  THE REFERENCE OF LAYER 14: fault, Read.
-/
import Derived.Test.YtppecnimpnlipaaRd3
import Derived.Test.YtppecnimpnlipaaDev9
namespace Go.Proofs.Ytppecnimpnlipaa
open Go.RowKit
open Go.Sort

section
variable {w : World} {B0 B : Nat} {q : Pn} {D : Dv} {r rp rn rw cp cn cw : Nat}
theorem firstF_hit {f : Flt} {l : List Flt} {a : Int} (h1 : f.at_ = a) (h2 : 0 ≤ a) (h3 : f.kind = 1 ∨ f.kind = 2) : firstF (f :: l) a = (f.kind, f.m.take 256) := by
  unfold firstF
  rw [if_pos]
  unfold Flt.on
  rw [h1, decide_eq_true (show 0 ≤ a ∧ (f.kind = 1 ∨ f.kind = 2) from ⟨h2, h3⟩), decide_eq_true rfl]
  rfl
theorem firstF_miss {f : Flt} {l : List Flt} {a : Int} (h : ¬ (f.at_ = a ∧ (f.kind = 1 ∨ f.kind = 2))) : firstF (f :: l) a = firstF l a := by
  rw [firstF, if_neg]
  unfold Flt.on
  intro hh
  rw [Bool.and_eq_true, decide_eq_true_eq, decide_eq_true_eq] at hh
  exact h ⟨hh.2, hh.1.2⟩

/-- A row in a block of its own is kept while the device is written. -/
theorem lies_tch4 {w' W : World} {g : Nat} {l : List UInt8} (hi : r < B ∧ rp < B ∧ rn < B ∧ rw < B) (hg : B ≤ g) (hs : g < w'.heap.size) (h : Lies w' (g + 1) (some ⟨g, 0, none⟩) (bys l)) (ht : Tch [r, rp, rn, rw] w' W) : Lies W W.heap.size (some ⟨g, 0, none⟩) (bys l) := by
  rcases h with h | ⟨a, ha, hb, hc⟩
  · exact .inl h
  · cases ha
    refine .inr ⟨_, rfl, Nat.lt_of_lt_of_le hs ht.size, fun j u hu => ?_⟩
    have e : ((⟨g, 0, none⟩ : Addr).add j).block = g := by unfold Addr.add; split <;> rfl
    refine (World.cell?_of_block ?_).trans (hc j u hu)
    rw [e]
    refine ht.block g hs ?_
    simp only [List.mem_cons, List.not_mem_nil, or_false, not_or]
    omega
/-- What fault leaves: the kind, a mask of which no more than 256 bytes count, an operation more. -/
def FaultPost (w : World) (B0 B : Nat) (q : Pn) (D : Dv) (r rp rn rw cp cn cw : Nat) (kk : Int) (mm : List UInt8) (n : Nat) (e : Ending) (w' : World) : Prop :=
  ∃ A m c l, e = .returned (.tuple #[.int .i64 kk, .slice A m c]) ∧ m = l.length ∧ m ≤ 300 ∧ (∀ W, Tch [r, rp, rn, rw] w' W → Lies W W.heap.size A (bys l)) ∧ l.take 256 = mm ∧ RefAt w' B0 B q { D with ops := n } r rp rn rw cp cn cw ∧ Tch [r] w w'

set_option maxRecDepth 4000 in
set_option maxHeartbeats 2000000 in
/-- What goes wrong with the operation that begins. -/
theorem fault_any (h : RefAt w B0 B q D r rp rn rw cp cn cw) (hB : B ≤ w.heap.size) (hops : D.ops < 1000000) :
    Calls Try.prog 54 #[.pointer (some ⟨r, 0, none⟩)] w (FaultPost w B0 B q D r rp rn rw cp cn cw D.kind D.mask (D.ops + 1)) := by
  have c8 : w.cell? ⟨r, 8, none⟩ = some (.int .i64 (D.ops : Int)) := h.c 8 _ rfl
  have f8 := h.f 8
  have hr := h.hi.1
  have e1 : wrap64 ((D.ops : Int) + 1) = ((D.ops + 1 : Nat) : Int) := by rw [i64w (by omega)]; rfl
  have H1 := hide (h.set_ops (D.ops + 1))
  have T1 := hide (Tch.set (S := [r]) (w := w) (p := ⟨r, 8, none⟩) (by simp) (.int .i64 ((D.ops + 1 : Nat) : Int)))
  have HB := hide (show B ≤ (w.setCell ⟨r, 8, none⟩ (.int .i64 ((D.ops + 1 : Nat) : Int))).heap.size by simpa [World.setCell] using hB)
  obtain ⟨a, ha⟩ : ∃ a, a = D.ops := ⟨_, rfl⟩
  have Hk := hide (show (D.kind = (firstF q.fl (a : Int)).1) ∧ (D.mask = if (firstF q.fl (a : Int)).1 = 1 ∨ (firstF q.fl (a : Int)).1 = 2 then (firstF q.fl (a : Int)).2 else [255]) by
    unfold Dv.mask Dv.kind; rw [h.ft, ← ha]; exact ⟨rfl, rfl⟩)
  rw [← ha] at c8 e1
  have Hpl := hide h.plan
  have Hfew := hide h.few
  have Hlos := hide (show ∀ k ∈ [r, rp, rn, rw], B0 ≤ k by have := h.lo; intro k hk; simp only [List.mem_cons, List.not_mem_nil, or_false] at hk; omega)
  have His := hide h.hi
  have Hlo := hide (Nat.le_trans h.lo.1 (Nat.le_of_lt h.hi.1))
  obtain ⟨kk, hkk⟩ : ∃ kk, kk = D.kind := ⟨_, rfl⟩
  obtain ⟨mm, hmm⟩ : ∃ mm, mm = D.mask := ⟨_, rfl⟩
  rw [← hkk, ← hmm] at Hk
  rw [← hkk, ← hmm]
  clear h hkk hmm hB
  rw [← ha] at H1 T1 HB ⊢
  rw [Int.natCast_succ] at H1 T1 HB
  clear ha hops
  go_enter Try.func54, Try.ntmps54
  go_wp2
  clear c8 f8 e1
  generalize w.setCell ⟨r, 8, none⟩ (.int .i64 ((a : Int) + 1)) = w1 at *
  go_loopw [5] (fun i wr => ∃ j : Nat, j ≤ q.n2 ∧ i = .int .i64 (j : Int) ∧ Below w1.heap.size w1 wr ∧ Hid (firstF q.fl (a : Int) = firstF (q.fl.drop j) (a : Int))) (fun i _ => q.n2 - (intOf i).toNat)
  case atStart => exact ⟨0, Nat.zero_le _, rfl, Below.refl _ _, hide rfl⟩
  case round =>
    obtain ⟨j, hj, rfl, hb, hF⟩ := hrel
    have Hb := hide hb
    have HR := hide (H1.out.below (hb.mono HB.out))
    have c7 : wr.cell? ⟨r, 7, none⟩ = some (.slice q.A2 q.n2 q.c2) := HR.out.c 7 _ rfl
    by_cases hlt : j < q.n2
    · have hjl : j < q.fl.length := by rw [← Hpl.out.h2]; exact hlt
      have hlt' : (j : Int) < (q.n2 : Int) := by omega
      have Hpr := hide (HR.out.plan)
      obtain ⟨ad, had, hab, hca⟩ := Hpr.out.l2.elem Flt.cells_len hjl (by decide)
      have Hok1 := hide (Hpr.out.h3 _ (List.getElem_mem hjl))
      have Hn := hide (Hfew.out.2.2 _ (List.getElem_mem hjl))
      have Hd := hide (show q.fl.drop j = q.fl[j] :: q.fl.drop (j + 1) from List.drop_eq_getElem_cons hjl)
      have e1 : wrap64 ((j : Int) + 1) = ((j + 1 : Nat) : Int) := by rw [i64w (by have := Hfew.out.2.1; omega)]; rfl
      rw [had] at c7
      generalize q.fl[j] = f at *
      rcases f with ⟨at_, kd, fA, fn, fc, fm⟩
      have Hca : Hid (∀ i v, [Value.int .i64 at_, .int .i64 kd, .slice fA fn fc][i]? = some v → wr.cell? ((ad.add (j * 3)).add i) = some v) := hide hca
      have hbf := (Below.refl wr.heap.size wr).alloc (Nat.le_refl _) (.cells #[.int .i64 at_, .int .i64 kd, .slice fA fn fc] 84)
      have Hbf := hide hbf
      have c7' := (hbf.cell (World.block_lt_of_cell? _ _ c7)).trans c7
      clear hca hjl hb hbf had
      by_cases hat : at_ = (a : Int)
      · subst hat
        by_cases hk : kd = 1 ∨ kd = 2
        · have Hhit := hide ((hF.out.trans (by rw [Hd.out])).trans (firstF_hit (f := ⟨_, kd, fA, fn, fc, fm⟩) (l := q.fl.drop (j + 1)) rfl (Int.natCast_nonneg a) hk))
          have Hkk := hide (show kk = kd ∧ mm = fm.take 256 by
            have h1 := Hk.out
            rw [Hhit.out] at h1
            refine ⟨h1.1, h1.2.trans ?_⟩
            rw [if_pos hk])
          have HRf := hide (HR.out.below (Hbf.out.mono (Nat.le_trans HB.out Hb.out.size)))
          have HT := hide (T1.out.trans (Tch.of_below (Hb.out.trans (Hbf.out.mono Hb.out.size))))
          have Hlz := hide (Hok1.out.lies.below (Hbf.out.mono (Nat.le_trans Hlo.out (Nat.le_trans HB.out Hb.out.size))))
          have Hsz := hide (Nat.le_trans (Nat.le_trans Hlo.out (Nat.le_trans HB.out Hb.out.size)) Hbf.out.size)
          by_cases hk1 : kd = 1
          all_goals
            first
            | subst hk1
            | (have hk2 : kd = 2 := hk.resolve_left hk1
               subst hk2)
            clear hk
            go_upto_region 8 with (with_reducible refine wpl_load_addr rfl 84 (.tmp 33) rfl (ad.add (j * 3)) _ Hca.out rfl _ Try.underlying84 rfl 3 infoFlt rfl ?_)
            go_quiet (fail)
            go_wp2
            refine bodyPost_ret (results_tmp2 rfl _ _ _) rfl ?_
            exact ⟨fA, fn, fc, fm, by rw [Hkk.out.1]; rfl, Hok1.out.len, Hn.out, (fun W hW => ((Hlz.out.drewN _).below (hW.below Hsz.out Hlos.out)).up (Nat.le_trans Hsz.out hW.size)), Hkk.out.2.symm, HRf.out.below (bel_drewN (Below.refl _ _) _), HT.out.drewN _⟩
        · have hk1 : (kd == 1) = false := beq_eq_false_iff_ne.2 fun h => hk (.inl h)
          have hk2 : (kd == 2) = false := beq_eq_false_iff_ne.2 fun h => hk (.inr h)
          have Hnew := hide ((hF.out.trans (by rw [Hd.out])).trans (firstF_miss (f := ⟨_, kd, fA, fn, fc, fm⟩) (l := q.fl.drop (j + 1)) (fun h => hk h.2)))
          clear hk
          go_wp2_with (with_reducible refine wpl_load_addr rfl 84 (.tmp 33) rfl (ad.add (j * 3)) _ Hca.out rfl _ Try.underlying84 rfl 3 infoFlt rfl ?_)
          go_roundw
          case rel => exact ⟨j + 1, Nat.succ_le_of_lt hlt, congrArg (Value.int .i64) e1, Hb.out.trans (Hbf.out.mono Hb.out.size), hide Hnew.out⟩
          case measure => rw [e1]; exact measR hlt
      · have ha1 : (at_ == (a : Int)) = false := beq_eq_false_iff_ne.2 hat
        have Hnew := hide ((hF.out.trans (by rw [Hd.out])).trans (firstF_miss (f := ⟨at_, kd, fA, fn, fc, fm⟩) (l := q.fl.drop (j + 1)) (fun h => hat h.1)))
        clear hat
        go_wp2_with (with_reducible refine wpl_load_addr rfl 84 (.tmp 33) rfl (ad.add (j * 3)) _ Hca.out rfl _ Try.underlying84 rfl 3 infoFlt rfl ?_)
        go_roundw
        case rel => exact ⟨j + 1, Nat.succ_le_of_lt hlt, congrArg (Value.int .i64) e1, Hb.out.trans (Hbf.out.mono Hb.out.size), hide Hnew.out⟩
        case measure => rw [e1]; exact measR hlt
    · obtain rfl : j = q.n2 := by omega
      have Hend := hide (show kk = 0 ∧ mm = [255] by
        have h1 := Hk.out
        rw [hF.out, List.drop_eq_nil_of_le (by rw [Hpl.out.h2]; exact Nat.le_refl _)] at h1
        exact ⟨h1.1, h1.2.trans (if_neg (show ¬ ((0 : Int) = 1 ∨ (0 : Int) = 2) by decide))⟩)
      go_wp2
      refine bodyPost_ret (results_tmp2 rfl _ _ _) rfl ?_
      have hbn := (Below.refl wr.heap.size wr).alloc (Nat.le_refl _) (.cells #[.int .u8 255] 5)
      refine ⟨some ⟨wr.heap.size, 0, none⟩, 1, 1, [255], by rw [Hend.out.1]; rfl, rfl, by decide, (fun W hW => lies_tch4 His.out (Nat.le_trans HB.out Hb.out.size) (by simp) (Lies.fresh wr [255] 5 (0, 0) #[.int .u8 255] rfl wr.heap.size (wr.heap.size + 1) rfl (Nat.lt_succ_self _)) hW), by rw [Hend.out.2]; rfl, HR.out.below (hbn.mono (Nat.le_trans HB.out Hb.out.size)), T1.out.trans (Tch.of_below (Hb.out.trans (hbn.mono Hb.out.size)))⟩
end
end Go.Proofs.Ytppecnimpnlipaa
