/-
  THE REFERENCE OF LAYER 14: fault, Read.
  THE REFERENCE OF LAYER 14: Read.
  The walk of NandOneWay, the loop. (By gen/OLaw.gen.py.)
-/
import Derived.Test.YtahipfmokbiklaaRd3
import Derived.Test.YtahipfmokbiklaaDev9
import Derived.Test.YtahipfmokbiklaaDev6
namespace Go.Proofs.Ytahipfmokbiklaa
section
open Go.RowKit
open Go.Sort

section
variable {w : World} {B0 B : Nat} {q : Pn} {D : Dv} {r rp rn rw cp cn cw : Nat}
theorem firstF_hit {f : Flt} {l : List Flt} {a : Int} (h1 : f.at_ = a) (h2 : 0 ≤ a) (h3 : f.kind = 1 ∨ f.kind = 2) : firstF (f :: l) a = (f.kind, f.m.take 256) := by
  unfold firstF
  rw [if_pos]
  unfold Flt.on
  rw [h1, decide_eq_true (show 0 ≤ a ∧ (f.kind = 1 ∨ f.kind = 2) from ⟨h2, h3⟩), decide_eq_true rfl]
  rfl
theorem firstF_miss {f : Flt} {l : List Flt} {a : Int} (h : ¬ (f.at_ = a ∧ (f.kind = 1 ∨ f.kind = 2))) : firstF (f :: l) a = firstF l a := by
  rw [firstF, if_neg]
  unfold Flt.on
  intro hh
  rw [Bool.and_eq_true, decide_eq_true_eq, decide_eq_true_eq] at hh
  exact h ⟨hh.2, hh.1.2⟩

/-- A row in a block of its own is kept while the device is written. -/
theorem lies_tch4 {w' W : World} {g : Nat} {l : List UInt8} (hi : r < B ∧ rp < B ∧ rn < B ∧ rw < B) (hg : B ≤ g) (hs : g < w'.heap.size) (h : Lies w' (g + 1) (some ⟨g, 0, none⟩) (bys l)) (ht : Tch [r, rp, rn, rw] w' W) : Lies W W.heap.size (some ⟨g, 0, none⟩) (bys l) := by
  rcases h with h | ⟨a, ha, hb, hc⟩
  · exact .inl h
  · cases ha
    refine .inr ⟨_, rfl, Nat.lt_of_lt_of_le hs ht.size, fun j u hu => ?_⟩
    have e : ((⟨g, 0, none⟩ : Addr).add j).block = g := by unfold Addr.add; split <;> rfl
    refine (World.cell?_of_block ?_).trans (hc j u hu)
    rw [e]
    refine ht.block g hs ?_
    simp only [List.mem_cons, List.not_mem_nil, or_false, not_or]
    omega
/-- What fault leaves: the kind, a mask of which no more than 256 bytes count, an operation more. -/
def FaultPost (w : World) (B0 B : Nat) (q : Pn) (D : Dv) (r rp rn rw cp cn cw : Nat) (kk : Int) (mm : List UInt8) (n : Nat) (e : Ending) (w' : World) : Prop :=
  ∃ A m c l, e = .returned (.tuple #[.int .i64 kk, .slice A m c]) ∧ m = l.length ∧ m ≤ 300 ∧ (∀ W, Tch [r, rp, rn, rw] w' W → Lies W W.heap.size A (bys l)) ∧ l.take 256 = mm ∧ RefAt w' B0 B q { D with ops := n } r rp rn rw cp cn cw ∧ Tch [r] w w'

set_option maxRecDepth 4000 in
set_option maxHeartbeats 2000000 in
/-- What goes wrong with the operation that begins. -/
theorem fault_any (h : RefAt w B0 B q D r rp rn rw cp cn cw) (hB : B ≤ w.heap.size) (hops : D.ops < 1000000) :
    Calls Try.prog 54 #[.pointer (some ⟨r, 0, none⟩)] w (FaultPost w B0 B q D r rp rn rw cp cn cw D.kind D.mask (D.ops + 1)) := by
  have c8 : w.cell? ⟨r, 8, none⟩ = some (.int .i64 (D.ops : Int)) := h.c 8 _ rfl
  have f8 := h.f 8
  have hr := h.hi.1
  have e1 : wrap64 ((D.ops : Int) + 1) = ((D.ops + 1 : Nat) : Int) := by rw [i64w (by omega)]; rfl
  have H1 := hide (h.set_ops (D.ops + 1))
  have T1 := hide (Tch.set (S := [r]) (w := w) (p := ⟨r, 8, none⟩) (by simp) (.int .i64 ((D.ops + 1 : Nat) : Int)))
  have HB := hide (show B ≤ (w.setCell ⟨r, 8, none⟩ (.int .i64 ((D.ops + 1 : Nat) : Int))).heap.size by simpa [World.setCell] using hB)
  obtain ⟨a, ha⟩ : ∃ a, a = D.ops := ⟨_, rfl⟩
  have Hk := hide (show (D.kind = (firstF q.fl (a : Int)).1) ∧ (D.mask = if (firstF q.fl (a : Int)).1 = 1 ∨ (firstF q.fl (a : Int)).1 = 2 then (firstF q.fl (a : Int)).2 else [255]) by
    unfold Dv.mask Dv.kind; rw [h.ft, ← ha]; exact ⟨rfl, rfl⟩)
  rw [← ha] at c8 e1
  have Hpl := hide h.plan
  have Hfew := hide h.few
  have Hlos := hide (show ∀ k ∈ [r, rp, rn, rw], B0 ≤ k by have := h.lo; intro k hk; simp only [List.mem_cons, List.not_mem_nil, or_false] at hk; omega)
  have His := hide h.hi
  have Hlo := hide (Nat.le_trans h.lo.1 (Nat.le_of_lt h.hi.1))
  obtain ⟨kk, hkk⟩ : ∃ kk, kk = D.kind := ⟨_, rfl⟩
  obtain ⟨mm, hmm⟩ : ∃ mm, mm = D.mask := ⟨_, rfl⟩
  rw [← hkk, ← hmm] at Hk
  rw [← hkk, ← hmm]
  clear h hkk hmm hB
  rw [← ha] at H1 T1 HB ⊢
  rw [Int.natCast_succ] at H1 T1 HB
  clear ha hops
  go_enter Try.func54, Try.ntmps54
  go_wp2
  clear c8 f8 e1
  generalize w.setCell ⟨r, 8, none⟩ (.int .i64 ((a : Int) + 1)) = w1 at *
  go_loopw [5] (fun i wr => ∃ j : Nat, j ≤ q.n2 ∧ i = .int .i64 (j : Int) ∧ Below w1.heap.size w1 wr ∧ Hid (firstF q.fl (a : Int) = firstF (q.fl.drop j) (a : Int))) (fun i _ => q.n2 - (intOf i).toNat)
  case atStart => exact ⟨0, Nat.zero_le _, rfl, Below.refl _ _, hide rfl⟩
  case round =>
    obtain ⟨j, hj, rfl, hb, hF⟩ := hrel
    have Hb := hide hb
    have HR := hide (H1.out.below (hb.mono HB.out))
    have c7 : wr.cell? ⟨r, 7, none⟩ = some (.slice q.A2 q.n2 q.c2) := HR.out.c 7 _ rfl
    by_cases hlt : j < q.n2
    · have hjl : j < q.fl.length := by rw [← Hpl.out.h2]; exact hlt
      have hlt' : (j : Int) < (q.n2 : Int) := by omega
      have Hpr := hide (HR.out.plan)
      obtain ⟨ad, had, hab, hca⟩ := Hpr.out.l2.elem Flt.cells_len hjl (by decide)
      have Hok1 := hide (Hpr.out.h3 _ (List.getElem_mem hjl))
      have Hn := hide (Hfew.out.2.2 _ (List.getElem_mem hjl))
      have Hd := hide (show q.fl.drop j = q.fl[j] :: q.fl.drop (j + 1) from List.drop_eq_getElem_cons hjl)
      have e1 : wrap64 ((j : Int) + 1) = ((j + 1 : Nat) : Int) := by rw [i64w (by have := Hfew.out.2.1; omega)]; rfl
      rw [had] at c7
      generalize q.fl[j] = f at *
      rcases f with ⟨at_, kd, fA, fn, fc, fm⟩
      have Hca : Hid (∀ i v, [Value.int .i64 at_, .int .i64 kd, .slice fA fn fc][i]? = some v → wr.cell? ((ad.add (j * 3)).add i) = some v) := hide hca
      have hbf := (Below.refl wr.heap.size wr).alloc (Nat.le_refl _) (.cells #[.int .i64 at_, .int .i64 kd, .slice fA fn fc] 67)
      have Hbf := hide hbf
      have c7' := (hbf.cell (World.block_lt_of_cell? _ _ c7)).trans c7
      clear hca hjl hb hbf had
      by_cases hat : at_ = (a : Int)
      · subst hat
        by_cases hk : kd = 1 ∨ kd = 2
        · have Hhit := hide ((hF.out.trans (by rw [Hd.out])).trans (firstF_hit (f := ⟨_, kd, fA, fn, fc, fm⟩) (l := q.fl.drop (j + 1)) rfl (Int.natCast_nonneg a) hk))
          have Hkk := hide (show kk = kd ∧ mm = fm.take 256 by
            have h1 := Hk.out
            rw [Hhit.out] at h1
            refine ⟨h1.1, h1.2.trans ?_⟩
            rw [if_pos hk])
          have HRf := hide (HR.out.below (Hbf.out.mono (Nat.le_trans HB.out Hb.out.size)))
          have HT := hide (T1.out.trans (Tch.of_below (Hb.out.trans (Hbf.out.mono Hb.out.size))))
          have Hlz := hide (Hok1.out.lies.below (Hbf.out.mono (Nat.le_trans Hlo.out (Nat.le_trans HB.out Hb.out.size))))
          have Hsz := hide (Nat.le_trans (Nat.le_trans Hlo.out (Nat.le_trans HB.out Hb.out.size)) Hbf.out.size)
          by_cases hk1 : kd = 1
          all_goals
            first
            | subst hk1
            | (have hk2 : kd = 2 := hk.resolve_left hk1
               subst hk2)
            clear hk
            go_upto_region 8 with (with_reducible refine wpl_load_addr rfl 67 (.tmp 33) rfl (ad.add (j * 3)) _ Hca.out rfl _ Try.underlying67 rfl 3 infoFlt rfl ?_)
            go_quiet (fail)
            go_wp2
            refine bodyPost_ret (results_tmp2 rfl _ _ _) rfl ?_
            exact ⟨fA, fn, fc, fm, by rw [Hkk.out.1]; rfl, Hok1.out.len, Hn.out, (fun W hW => ((Hlz.out.drewN _).below (hW.below Hsz.out Hlos.out)).up (Nat.le_trans Hsz.out hW.size)), Hkk.out.2.symm, HRf.out.below (bel_drewN (Below.refl _ _) _), HT.out.drewN _⟩
        · have hk1 : (kd == 1) = false := beq_eq_false_iff_ne.2 fun h => hk (.inl h)
          have hk2 : (kd == 2) = false := beq_eq_false_iff_ne.2 fun h => hk (.inr h)
          have Hnew := hide ((hF.out.trans (by rw [Hd.out])).trans (firstF_miss (f := ⟨_, kd, fA, fn, fc, fm⟩) (l := q.fl.drop (j + 1)) (fun h => hk h.2)))
          clear hk
          go_wp2_with (with_reducible refine wpl_load_addr rfl 67 (.tmp 33) rfl (ad.add (j * 3)) _ Hca.out rfl _ Try.underlying67 rfl 3 infoFlt rfl ?_)
          go_roundw
          case rel => exact ⟨j + 1, Nat.succ_le_of_lt hlt, congrArg (Value.int .i64) e1, Hb.out.trans (Hbf.out.mono Hb.out.size), hide Hnew.out⟩
          case measure => rw [e1]; exact measR hlt
      · have ha1 : (at_ == (a : Int)) = false := beq_eq_false_iff_ne.2 hat
        have Hnew := hide ((hF.out.trans (by rw [Hd.out])).trans (firstF_miss (f := ⟨at_, kd, fA, fn, fc, fm⟩) (l := q.fl.drop (j + 1)) (fun h => hat h.1)))
        clear hat
        go_wp2_with (with_reducible refine wpl_load_addr rfl 67 (.tmp 33) rfl (ad.add (j * 3)) _ Hca.out rfl _ Try.underlying67 rfl 3 infoFlt rfl ?_)
        go_roundw
        case rel => exact ⟨j + 1, Nat.succ_le_of_lt hlt, congrArg (Value.int .i64) e1, Hb.out.trans (Hbf.out.mono Hb.out.size), hide Hnew.out⟩
        case measure => rw [e1]; exact measR hlt
    · obtain rfl : j = q.n2 := by omega
      have Hend := hide (show kk = 0 ∧ mm = [255] by
        have h1 := Hk.out
        rw [hF.out, List.drop_eq_nil_of_le (by rw [Hpl.out.h2]; exact Nat.le_refl _)] at h1
        exact ⟨h1.1, h1.2.trans (if_neg (show ¬ ((0 : Int) = 1 ∨ (0 : Int) = 2) by decide))⟩)
      go_wp2
      refine bodyPost_ret (results_tmp2 rfl _ _ _) rfl ?_
      have hbn := (Below.refl wr.heap.size wr).alloc (Nat.le_refl _) (.cells #[.int .u8 255] 5)
      refine ⟨some ⟨wr.heap.size, 0, none⟩, 1, 1, [255], by rw [Hend.out.1]; rfl, rfl, by decide, (fun W hW => lies_tch4 His.out (Nat.le_trans HB.out Hb.out.size) (by simp) (Lies.fresh wr [255] 5 (0, 0) #[.int .u8 255] rfl wr.heap.size (wr.heap.size + 1) rfl (Nat.lt_succ_self _)) hW), by rw [Hend.out.2]; rfl, HR.out.below (hbn.mono (Nat.le_trans HB.out Hb.out.size)), T1.out.trans (Tch.of_below (Hb.out.trans (hbn.mono Hb.out.size)))⟩
end
end
section
open Go.RowKit
open Go.Sort

/-- The numbers of a page's place. -/
theorem pg_nums {x y nb np : Nat} (hx : x < nb) (hb : nb ≤ 34) (hp : np ≤ 32) (hy : y < np) : ∃ Z I N : Nat, N = nb * np ∧ Z = x * np ∧ I = x * np + y ∧ I < N ∧ (I : Int) < (N : Int) ∧ N ≤ 34 * 32 ∧ wrap64 ((x : Int) * (np : Int)) = (Z : Int) ∧ IntKind.i64.wrap ((x : Int) * (np : Int)) = (Z : Int) ∧ wrap64 ((Z : Int) + (y : Int)) = (I : Int) ∧ IntKind.i64.wrap ((Z : Int) + (y : Int)) = (I : Int) := by
  have h0 := lt_mul hx hy
  have hN : nb * np ≤ 34 * 32 := Nat.mul_le_mul hb hp
  have e1 : (x : Int) * (np : Int) = ((x * np : Nat) : Int) := (Int.natCast_mul x np).symm
  rw [e1]
  generalize x * np = Z at *
  have e2 : (Z : Int) + (y : Int) = ((Z + y : Nat) : Int) := (Int.natCast_add Z y).symm
  refine ⟨Z, Z + y, nb * np, rfl, rfl, rfl, h0, Int.ofNat_lt.2 h0, hN, i64w (by omega), IntWalk.i64_in _ (by omega), ?_, ?_⟩
  · rw [e2]; exact i64w (by omega)
  · rw [e2]; exact IntWalk.i64_in _ (by omega)
end
section
open Go.RowKit
open Go.Sort

/-- What the loop keeps: the device, the plan in its box, what was to be programmed. -/
structure LS (w : World) (q : Pn) (D : Dv) (want : Nat → List UInt8) (k kb kp km B0 B gq gw N : Nat) (W : World) : Prop where
  dev : DevAt W B0 B D k kb kp km
  box : BoxQ q gq W
  row : RowF W gw 9 N (fun i => .string (str (want i)))
  below : Below w.heap.size w W
  pos : w.heap.size ≤ gq ∧ gq < B0 ∧ w.heap.size ≤ B0 ∧ B0 ≤ B ∧ B ≤ gw
  g : D.g = q.g
  n : N = D.nb * D.np
section
variable {w W W' : World} {q : Pn} {D D' : Dv} {want : Nat → List UInt8} {k kb kp km B0 B gq gw N : Nat}
theorem LS.big (h : LS w q D want k kb kp km B0 B gq gw N W) : B ≤ W.heap.size := by
  have := h.row.lt; have := h.pos; omega
theorem LS.next (h : LS w q D want k kb kp km B0 B gq gw N W) (hb : Below W.heap.size W W') : LS w q D want k kb kp km B0 B gq gw N W' := by
  have h1 := h.row.lt
  have h2 := h.pos
  exact ⟨h.dev.below (hb.mono h.big), h.box.below hb (by omega), h.row.kept (hb.block _ h1), h.below.trans (hb.mono h.below.size), h.pos, h.g, h.n⟩
theorem LS.turn (h : LS w q D want k kb kp km B0 B gq gw N W) (hd : DevAt W' B0 B D' k kb kp km) (ht : Tch [k, kb, kp] W W') (hg : D'.g = D.g) : LS w q D' want k kb kp km B0 B gq gw N W' := by
  have h1 := h.row.lt
  have h2 := h.pos
  have h3 := h.dev.lo
  have h4 := h.dev.hi
  have o1 : gq ∉ [k, kb, kp] := by simp only [List.mem_cons, List.not_mem_nil, or_false, not_or]; omega
  have o2 : gw ∉ [k, kb, kp] := by simp only [List.mem_cons, List.not_mem_nil, or_false, not_or]; omega
  refine ⟨hd, (ht.block _ (by omega) o1).trans h.box, h.row.kept (ht.block _ h1 o2), h.below.trans (ht.below h.below.size ?_), h.pos, hg.trans h.g, by rw [h.n]; unfold Dv.nb Dv.np; rw [hg]⟩
  intro b hb
  simp only [List.mem_cons, List.not_mem_nil, or_false] at hb
  omega
theorem LS.store (h : LS w q D want k kb kp km B0 B gq gw N W) (i : Nat) (l : List UInt8) : LS w q D (upd want i l) k kb kp km B0 B gq gw N (W.setCell ⟨gw, i, none⟩ (.string (str l))) := by
  have h2 := h.pos
  refine ⟨h.dev.below ((Below.refl B W).setCell h2.2.2.2.2 _), (Below.heap_setCell _ _ _ _ (by show gq ≠ gw; omega)).trans h.box, (h.row.set i _).congr fun j _ => ?_, h.below.setCell (by show w.heap.size ≤ gw; omega) _, h.pos, h.g, h.n⟩
  unfold upd
  by_cases e : j = i
  · rw [if_pos e, if_pos e]
  · rw [if_neg e, if_neg e]
theorem LS.cells (h : LS w q D want k kb kp km B0 B gq gw N W) : W.cell? ⟨gq, 0, none⟩ = some (.int .i64 (D.nb : Int)) ∧ W.cell? ⟨gq, 1, none⟩ = some (.int .i64 (D.np : Int)) := by
  obtain ⟨_, _, _, _, h5, h6⟩ := h.dev.sides
  rw [h.g] at h5 h6
  exact ⟨by rw [h.box.c 0 _ rfl, h5], by rw [h.box.c 1 _ rfl, h6]⟩
end
/-- The states of the page's making. -/
def PhiP (w7 : World) (x y : Int) (i : Nat) (f : Nat → Value) (W : World) : Prop :=
  Below w7.heap.size w7 W ∧ (i = 0 ∨ ∃ gp, f 11 = .pointer (some ⟨gp, 0, none⟩) ∧ w7.heap.size ≤ gp ∧ ((i = 1 ∧ BoxedP 0 0 gp W) ∨ (2 ≤ i ∧ BoxedP x y gp W)))
theorem PhiP.loc (w7 : World) (x y : Int) : ∀ i f g W, (∀ t ∈ [11], f t = g t) → PhiP w7 x y i f W → PhiP w7 x y i g W := by
  intro i f g W h hΦ
  have h11 := h 11 (by simp)
  unfold PhiP at *
  rw [← h11]
  exact hΦ
/-- The numbers of an erase's loop. -/
theorem erase_nums {x nb np N : Nat} (hx : x < nb) (hb : nb ≤ 34) (hN : N = nb * np) (hNb : N ≤ 34 * 32) : ∃ Z Z2 : Nat, Z = x * np ∧ Z2 = Z + np ∧ Z ≤ Z2 ∧ Z2 ≤ N ∧ wrap64 ((x : Int) * (np : Int)) = (Z : Int) ∧ wrap64 (((x : Int) + 1) * (np : Int)) = (Z2 : Int) ∧ wrap64 ((x : Int) + 1) = (x : Int) + 1 ∧ Z2 ≤ 34 * 32 := by
  have h1 := Nat.mul_le_mul_right np (show x + 1 ≤ nb by omega)
  rw [Nat.add_mul, Nat.one_mul] at h1
  have h2 : (x : Int) * (np : Int) = ((x * np : Nat) : Int) := by simp
  have h3 : ((x : Int) + 1) * (np : Int) = ((x * np + np : Nat) : Int) := by rw [Int.add_mul, h2]; omega
  refine ⟨x * np, x * np + np, rfl, rfl, by omega, by omega, ?_, ?_, ?_, by omega⟩
  · rw [h2]; exact i64w (by omega)
  · rw [h3]; exact i64w (by omega)
  · exact i64w (by omega)
theorem erase_round {K Z2 N : Nat} (h : K < Z2) (hle : Z2 ≤ N) (hb : Z2 ≤ 34 * 32) : (K : Int) < (Z2 : Int) ∧ (K : Int) < (N : Int) ∧ K < N ∧ wrap64 ((K : Int) + 1) = ((K + 1 : Nat) : Int) := by
  refine ⟨by omega, by omega, by omega, ?_⟩
  rw [i64w (by omega)]; rfl
theorem meas {K Z2 : Nat} (h : K < Z2) : Z2 - (intOf (.int .i64 ((K + 1 : Nat) : Int))).toNat < Z2 - (intOf (.int .i64 (K : Int))).toNat := by
  show Z2 - ((K + 1 : Nat) : Int).toNat < Z2 - (K : Int).toNat
  omega
/-- The states of a program that is laid out: the bytes made, the device programmed. -/
def PhiF (w8 : World) (l : List UInt8) (s : Nat) (R : World → Prop) (i : Nat) (f : Nat → Value) (W : World) : Prop :=
  (i = 0 ∧ Below w8.heap.size w8 W) ∨ (i = 1 ∧ Below w8.heap.size w8 W ∧ ∃ A c, f s = .slice A 256 c ∧ LiesT W W.heap.size A l) ∨ (2 ≤ i ∧ R W)
theorem PhiF.loc (w8 : World) (l : List UInt8) (s : Nat) (R : World → Prop) : ∀ i f g W, (∀ t ∈ [s], f t = g t) → PhiF w8 l s R i f W → PhiF w8 l s R i g W := by
  intro i f g W h hΦ
  have h11 := h s (by simp)
  unfold PhiF at *
  rw [← h11]
  exact hΦ
theorem PhiF.tch {w8 : World} {l : List UInt8} {s : Nat} {R : World → Prop} {S : List Nat} (hR : ∀ W, R W → Tch S w8 W) {i : Nat} {f : Nat → Value} {W : World} (h : PhiF w8 l s R i f W) : Tch S w8 W := by
  rcases h with ⟨_, h⟩ | ⟨_, h, _⟩ | ⟨_, h⟩
  · exact Tch.of_below h
  · exact Tch.of_below h
  · exact hR W h
theorem PhiF.at0 {w8 : World} {l : List UInt8} {s : Nat} {R : World → Prop} {f : Nat → Value} {W : World} (h : PhiF w8 l s R 0 f W) : Below w8.heap.size w8 W := by
  rcases h with ⟨_, h⟩ | ⟨h, _⟩ | ⟨h, _⟩
  · exact h
  · cases h
  · omega
theorem PhiF.at1 {w8 : World} {l : List UInt8} {s : Nat} {R : World → Prop} {f : Nat → Value} {W : World} (h : PhiF w8 l s R 1 f W) : Below w8.heap.size w8 W ∧ ∃ A c, f s = .slice A 256 c ∧ LiesT W W.heap.size A l := by
  rcases h with ⟨h, _⟩ | ⟨_, h⟩ | ⟨h, _⟩
  · cases h
  · exact h
  · omega
theorem PhiF.at2 {w8 : World} {l : List UInt8} {s : Nat} {R : World → Prop} {f : Nat → Value} {W : World} (h : PhiF w8 l s R 2 f W) : R W := by
  rcases h with ⟨h, _⟩ | ⟨h, _⟩ | ⟨_, h⟩
  · cases h
  · cases h
  · exact h
/-- The states of a page's bytes put down. -/
def PhiW (w9 : World) (l : List UInt8) (gw I : Nat) (i : Nat) (f : Nat → Value) (W : World) : Prop :=
  (i ≤ 2 ∧ Below w9.heap.size w9 W ∧ (i = 1 → ∃ A c, f 163 = .slice A 256 c ∧ LiesT W W.heap.size A l)) ∨ (3 ≤ i ∧ ∃ W0, Below w9.heap.size w9 W0 ∧ W = W0.setCell ⟨gw, I, none⟩ (.string (str l)))
theorem PhiW.loc (w9 : World) (l : List UInt8) (gw I : Nat) : ∀ i f g W, (∀ t ∈ [163], f t = g t) → PhiW w9 l gw I i f W → PhiW w9 l gw I i g W := by
  intro i f g W h hΦ
  have h11 := h 163 (by simp)
  unfold PhiW at *
  rw [← h11]
  exact hΦ
theorem PhiW.cell {w9 : World} {l : List UInt8} {gw I i : Nat} {f : Nat → Value} {W : World} (h : PhiW w9 l gw I i f W) {p : Addr} {v : Value} (hp : p.block ≠ gw) (hc : w9.cell? p = some v) : W.cell? p = some v := by
  rcases h with ⟨_, h, _⟩ | ⟨_, W0, h, rfl⟩
  · exact (h.cell (World.block_lt_of_cell? w9 p hc)).trans hc
  · refine (World.cell?_setCell_other _ _ _ _ (fun e => hp ?_)).trans ((h.cell (World.block_lt_of_cell? w9 p hc)).trans hc)
    exact (congrArg Addr.block e).symm
theorem PhiW.at0 {w9 : World} {l : List UInt8} {gw I : Nat} {f : Nat → Value} {W : World} {i : Nat} (hi : i ≤ 2) (h : PhiW w9 l gw I i f W) : Below w9.heap.size w9 W := by
  rcases h with ⟨_, h, _⟩ | ⟨h, _⟩
  · exact h
  · omega
/-- The states of a page read: the great operations' slots, one behind the other. -/
def PhiR (w0 : World) (l : List UInt8) (i : Nat) (f : Nat → Value) (W : World) : Prop :=
  Below w0.heap.size w0 W ∧ (i = 0 ∨ ∃ A c, LiesT W W.heap.size A l ∧ ((i = 1 ∧ f 195 = .tuple #[.slice A 256 c, .int .i64 0]) ∨ (i = 2 ∧ f 182 = .tuple #[.slice A 256 c, .int .i64 0]) ∨ (i = 3 ∧ f 196 = .slice A 256 c) ∨ (4 ≤ i ∧ f 15 = .slice A 256 c)))
theorem PhiR.loc (w0 : World) (l : List UInt8) : ∀ i f g W, (∀ t ∈ [195, 182, 196, 15], f t = g t) → PhiR w0 l i f W → PhiR w0 l i g W := by
  intro i f g W h hΦ
  have h1 := h 195 (by simp)
  have h2 := h 182 (by simp)
  have h3 := h 196 (by simp)
  have h4 := h 15 (by simp)
  unfold PhiR at *
  rw [← h1, ← h2, ← h3, ← h4]
  exact hΦ
section
variable {w0 W : World} {l : List UInt8} {f : Nat → Value}
theorem PhiR.at1 (h : PhiR w0 l 1 f W) : Below w0.heap.size w0 W ∧ ∃ A c, LiesT W W.heap.size A l ∧ f 195 = .tuple #[.slice A 256 c, .int .i64 0] := by
  obtain ⟨hb, h | ⟨A, c, hl, ⟨_, h⟩ | ⟨h, _⟩ | ⟨h, _⟩ | ⟨h, _⟩⟩⟩ := h
  · cases h
  · exact ⟨hb, A, c, hl, h⟩
  all_goals exact absurd h (by decide)
theorem PhiR.at2 (h : PhiR w0 l 2 f W) : Below w0.heap.size w0 W ∧ ∃ A c, LiesT W W.heap.size A l ∧ f 182 = .tuple #[.slice A 256 c, .int .i64 0] := by
  obtain ⟨hb, h | ⟨A, c, hl, ⟨h, _⟩ | ⟨_, h⟩ | ⟨h, _⟩ | ⟨h, _⟩⟩⟩ := h
  · cases h
  · exact absurd h (by decide)
  · exact ⟨hb, A, c, hl, h⟩
  all_goals exact absurd h (by decide)
theorem PhiR.at3 (h : PhiR w0 l 3 f W) : Below w0.heap.size w0 W ∧ ∃ A c, LiesT W W.heap.size A l ∧ f 196 = .slice A 256 c := by
  obtain ⟨hb, h | ⟨A, c, hl, ⟨h, _⟩ | ⟨h, _⟩ | ⟨_, h⟩ | ⟨h, _⟩⟩⟩ := h
  · cases h
  · exact absurd h (by decide)
  · exact absurd h (by decide)
  · exact ⟨hb, A, c, hl, h⟩
  · exact absurd h (by decide)
end
theorem strBytes (W : World) (s : List UInt8) : ∃ c W', (convert 9 65 (.string (str s))).run Try.prog W = .ok (.slice (some ⟨W.heap.size, 0, none⟩) s.length c) W' ∧ Below W.heap.size W W' ∧ Lies W' W'.heap.size (some ⟨W.heap.size, 0, none⟩) (bys s) := by
  have hr := run_bytes_of_string (P := Try.prog) W 9 65 5 (str s) Try.underlying9 Try.underlying65 Try.underlying5
  have hz : (str s).size = s.length := str_size s
  generalize hcp : grownCap W (str s).size 0 5 = cp at hr
  rw [hz] at hr
  refine ⟨_, _, hr, ((Below.refl _ W).drew).alloc (Nat.le_refl _) _, .inr ⟨_, rfl, by simp, ?_⟩⟩
  intro j u hj
  have hjl : j < s.length := by have := (List.getElem?_eq_some_iff.1 hj).1; rwa [bys_len] at this
  rw [bys_at s j hjl] at hj
  cases hj
  have e : (⟨W.heap.size, 0, none⟩ : Addr).add j = ⟨W.heap.size, j, none⟩ := by unfold Addr.add; split <;> simp_all
  rw [e, show (⟨W.heap.size, j, none⟩ : Addr) = ⟨W.drew.heap.size, j, none⟩ from rfl, World.cell?_alloc_mark, bytesRow_at (str s) _ j (by simpa [str] using hjl)]
  simp [str]
end
end Go.Proofs.Ytahipfmokbiklaa
