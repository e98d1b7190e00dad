/-
  The walk of ScanBlocks. (By gen/ScY.gen.py.)
-/
import Derived.Test.YtahipfmokbiklaaScX
import Derived.Test.YtahipfmokbiklaaScM
import Derived.Deep.CutBlock
import Derived.StillTailTactics
namespace Go.Proofs.Ytahipfmokbiklaa
open Go.RowKit
open Go.Sort
set_option maxRecDepth 8000

/-- What the loop over the blocks keeps. -/
structure GbS (w2 : World) (D : Dv) (n : Nat) (vg vb : Value) (W : World) : Prop where
  below : Below w2.heap.size w2 W
  og : W.ownsRow w2.heap.size 3 1 vg (blocksF D false n).length (i64s (blocksF D false n))
  ob : W.ownsRow w2.heap.size 3 1 vb (blocksF D true n).length (i64s (blocksF D true n))
  ne : vb.ownBlock = none ∨ vb.ownBlock ≠ vg.ownBlock
theorem ne_other {x y : Option Nat} (h : y = none ∨ y ≠ x) : x = none ∨ x ≠ y := by
  cases x with
  | none => exact .inl rfl
  | some a =>
    refine .inr fun e => ?_
    rcases h with h | h
    · rw [h] at e; cases e
    · exact h e.symm
section
variable {w2 W W' w5 w6 : World} {D : Dv} {n : Nat} {vg vb : Value} {m : Bool}
theorem blocksF_yes (hn : 2 ≤ n) (h : D.bad n = m) : blocksF D m (n + 1) = blocksF D m n ++ [(n : Int)] := by
  show blocksF D m n ++ _ = _
  rw [if_pos ⟨hn, h⟩]
theorem blocksF_no (h : D.bad n ≠ m) : blocksF D m (n + 1) = blocksF D m n := by
  show blocksF D m n ++ _ = _
  rw [if_neg fun h2 => h h2.2, List.append_nil]
theorem GbS.later (h : GbS w2 D n vg vb W) (hb : Below W.heap.size W W') : GbS w2 D n vg vb W' := ⟨h.below.trans (hb.mono h.below.size), own_keepT h.og hb, own_keepT h.ob hb, h.ne⟩
theorem GbS.good (h : GbS w2 D n vg vb W) (hb : Below W.heap.size W w5) (hn : 2 ≤ n) (hm : D.bad n = false) {A : Option Addr} {c : Nat} (hown : w6.ownsRow w2.heap.size 3 1 (.slice A ((blocksF D false n).length + 1) c) ((blocksF D false n).length + 1) (i64s (blocksF D false n) ++ [.int .i64 (n : Int)])) (hg : w5.grownBy w6 vg.ownBlock) (hat : (Value.slice A ((blocksF D false n).length + 1) c).ownBlock = vg.ownBlock ∨ (Value.slice A ((blocksF D false n).length + 1) c).ownBlock = some w5.heap.size) :
    GbS w2 D (n + 1) (.slice A (blocksF D false (n + 1)).length c) vb w6 := by
  have h2 := h.later hb
  have e1 := blocksF_yes hn hm
  have e2 : blocksF D true (n + 1) = blocksF D true n := blocksF_no (by rw [hm]; decide)
  refine ⟨h2.below.grown hg h2.below.size (fun q e => (own_lowS h2.og q e).1), ?_, ?_, ?_⟩
  · rw [e1, i64s_app, List.length_append]; exact hown
  · rw [e2]; exact h2.ob.kept hg h2.ne
  · show vb.ownBlock = none ∨ vb.ownBlock ≠ (Value.slice A (blocksF D false (n + 1)).length c).ownBlock
    rw [e1, List.length_append]
    rcases hat with e | e
    · have e' : (Value.slice A ((blocksF D false n).length + [(n : Int)].length) c).ownBlock = vg.ownBlock := e
      rw [e']; exact h2.ne
    · have e' : (Value.slice A ((blocksF D false n).length + [(n : Int)].length) c).ownBlock = some w5.heap.size := e
      rw [e']
      cases hv : vb.ownBlock with
      | none => exact .inl rfl
      | some q =>
        have := (own_lowS h2.ob q hv).2
        exact .inr fun e => by injection e; omega
theorem GbS.bad (h : GbS w2 D n vg vb W) (hb : Below W.heap.size W w5) (hn : 2 ≤ n) (hm : D.bad n = true) {A : Option Addr} {c : Nat} (hown : w6.ownsRow w2.heap.size 3 1 (.slice A ((blocksF D true n).length + 1) c) ((blocksF D true n).length + 1) (i64s (blocksF D true n) ++ [.int .i64 (n : Int)])) (hg : w5.grownBy w6 vb.ownBlock) (hat : (Value.slice A ((blocksF D true n).length + 1) c).ownBlock = vb.ownBlock ∨ (Value.slice A ((blocksF D true n).length + 1) c).ownBlock = some w5.heap.size) :
    GbS w2 D (n + 1) vg (.slice A (blocksF D true (n + 1)).length c) w6 := by
  have h2 := h.later hb
  have e1 := blocksF_yes hn hm
  have e2 : blocksF D false (n + 1) = blocksF D false n := blocksF_no (by rw [hm]; decide)
  refine ⟨h2.below.grown hg h2.below.size (fun q e => (own_lowS h2.ob q e).1), ?_, ?_, ?_⟩
  · rw [e2]; exact h2.og.kept hg (ne_other h2.ne)
  · rw [e1, i64s_app, List.length_append]; exact hown
  · show (Value.slice A (blocksF D true (n + 1)).length c).ownBlock = none ∨ (Value.slice A (blocksF D true (n + 1)).length c).ownBlock ≠ vg.ownBlock
    rw [e1, List.length_append]
    rcases hat with e | e
    · have e' : (Value.slice A ((blocksF D true n).length + [(n : Int)].length) c).ownBlock = vb.ownBlock := e
      rw [e']; exact h2.ne
    · have e' : (Value.slice A ((blocksF D true n).length + [(n : Int)].length) c).ownBlock = some w5.heap.size := e
      rw [e']
      refine .inr fun e => ?_
      have := (own_lowS h2.og _ e.symm).2
      omega
end
/-- What the laws' loops know behind w2. -/
structure RwS (w w1 : World) (q : Pn) (D : Dv) (m : Bl) (Ag Ab : Option Addr) (W : World) : Prop where
  l : LawS w w1 q D m W
  g : Lies W W.heap.size Ag (i64s (D.blocks false))
  b : Lies W W.heap.size Ab (i64s (D.blocks true))
theorem RwS.next {w w1 W W' : World} {q : Pn} {D : Dv} {m : Bl} {Ag Ab : Option Addr} (h : RwS w w1 q D m Ag Ab W) (hb : Below W.heap.size W W') : RwS w w1 q D m Ag Ab W' := ⟨h.l.next hb, (h.g.below hb).up hb.size, (h.b.below hb).up hb.size⟩
set_option maxHeartbeats 4000000 in
theorem scanBlocks_off (q : Pn) (A : Option Addr) (n c : Nat) (b : Int) (w : World) (hq : q.Ok w w.heap.size) (hl : ¬ (q.light = true ∧ q.g.Right)) :
    Calls Try.prog 4 #[q.val, .slice A n c, .int .i64 b] w fun e w' => e = .returned (.bool true) ∧ Below w.heap.size w w' := by
  have b1 := (Below.refl w.heap.size w).alloc (Nat.le_refl _) (.cells #[.int .i64 q.g.b, .int .i64 q.g.p, .int .i64 q.g.r, .slice q.A1 q.n1 q.c1, .slice q.A2 q.n2 q.c2] 27)
  have hx1 : BoxQ q w.heap.size (w.alloc (.cells #[.int .i64 q.g.b, .int .i64 q.g.p, .int .i64 q.g.r, .slice q.A1 q.n1 q.c1, .slice q.A2 q.n2 q.c2] 27)) := heap_alloc_new w _
  have hs1 : w.heap.size < (w.alloc (.cells #[.int .i64 q.g.b, .int .i64 q.g.p, .int .i64 q.g.r, .slice q.A1 q.n1 q.c1, .slice q.A2 q.n2 q.c2] 27)).heap.size := by simp
  have Hb1 := hide b1
  have Hx1 := hide hx1
  have Hs1 := hide hs1
  have FL := hide (fun W (hW : Below w.heap.size w W) => laid_off q A n c W ((hq.below hW).up hW.size) hl)
  clear b1 hx1 hs1 hq hl
  unfold Pn.val at *
  go_enter Try.func4, Try.ntmps4
  go_wp2_with fail
  (with_reducible refine (awake18_any _).mono ?_)
  rintro e w1 ⟨rfl, hb⟩
  have Hb2 := hide (Hb1.out.trans (hb.mono Hb1.out.size))
  have Hx2 := hide (Hx1.out.below hb Hs1.out)
  clear hb Hb1 Hx1 Hs1
  have c0 := Hx2.out.c 0 _ rfl
  have c1 := Hx2.out.c 1 _ rfl
  have c2 := Hx2.out.c 2 _ rfl
  have c3 := Hx2.out.c 3 _ rfl
  have c4 := Hx2.out.c 4 _ rfl
  go_wp2_with fail
  (with_reducible refine (FL.out _ Hb2.out).mono ?_)
  rintro e w3 ⟨rfl, hb⟩
  have Hb3 := hide (Hb2.out.trans (hb.mono Hb2.out.size))
  clear hb FL Hb2 Hx2 c0 c1 c2 c3 c4
  go_wp2
  go_ret
  exact ⟨rfl, Hb3.out⟩

set_option maxHeartbeats 8000000 in
theorem scanBlocks_on (q : Pn) (A : Option Addr) (n c : Nat) (al : List Ly) (b : Int) (w : World) (hq : q.Ok w w.heap.size) (hl : q.light = true) (hr : q.g.Right) (hA : Lies w w.heap.size A (al.flatMap Ly.cells)) (hn : n = al.length) (hb0 : i64s_ok b) :
    Calls Try.prog 4 #[q.val, .slice A n c, .int .i64 b] w fun e w' => e = .returned (.bool true) ∧ Below w.heap.size w w' := by
  have b1 := (Below.refl w.heap.size w).alloc (Nat.le_refl _) (.cells #[.int .i64 q.g.b, .int .i64 q.g.p, .int .i64 q.g.r, .slice q.A1 q.n1 q.c1, .slice q.A2 q.n2 q.c2] 27)
  have hx1 : BoxQ q w.heap.size (w.alloc (.cells #[.int .i64 q.g.b, .int .i64 q.g.p, .int .i64 q.g.r, .slice q.A1 q.n1 q.c1, .slice q.A2 q.n2 q.c2] 27)) := heap_alloc_new w _
  have hs1 : w.heap.size < (w.alloc (.cells #[.int .i64 q.g.b, .int .i64 q.g.p, .int .i64 q.g.r, .slice q.A1 q.n1 q.c1, .slice q.A2 q.n2 q.c2] 27)).heap.size := by simp
  have Hb1 := hide b1
  have Hx1 := hide hx1
  have Hs1 := hide hs1
  have FL := hide (fun W (hW : Below w.heap.size w W) => laid_on q A n c al W ((hq.below hW).up hW.size) hl hr ((hA.below hW).up hW.size) hn)
  clear b1 hx1 hs1 hq hl hr hA hn
  unfold Pn.val LaidPost at *
  go_enter Try.func4, Try.ntmps4
  go_wp2_with fail
  (with_reducible refine (awake18_any _).mono ?_)
  rintro e w1 ⟨rfl, hb⟩
  have Hb2 := hide (Hb1.out.trans (hb.mono Hb1.out.size))
  have Hx2 := hide (Hx1.out.below hb Hs1.out)
  have Hs2 := hide (Nat.lt_of_lt_of_le Hs1.out hb.size)
  clear hb Hb1 Hx1 Hs1
  have c0 := Hx2.out.c 0 _ rfl
  have c1 := Hx2.out.c 1 _ rfl
  have c2 := Hx2.out.c 2 _ rfl
  have c3 := Hx2.out.c 3 _ rfl
  have c4 := Hx2.out.c 4 _ rfl
  go_wp2_with fail
  (with_reducible refine (FL.out _ Hb2.out).mono ?_)
  rintro e w2 ⟨D, m, rfl, hL, hdn⟩
  have HL := hide (laidS hL Hb2.out Hx2.out Hs2.out)
  have Hdn := hide hdn
  clear hL hdn FL Hb2 Hx2 Hs2 c0 c1 c2 c3 c4
  have Hb0 := hide hb0
  clear hb0
  go_wp2
  have G0 : Hid (GbS w2 D 2 (.slice none 0 0) (.slice none 0 0) w2) := hide ⟨Below.refl _ _, World.ownsRow_nil _ _ _ _, World.ownsRow_nil _ _ _ _, .inl rfl⟩
  have HS := hide HL.out.s.dev.sides
  go_loopw [9, 10, 11] (fun sg sb i wr => ∃ (k : Nat) (Ag Ab : Option Addr) (cg cb : Nat), 2 ≤ k ∧ k ≤ D.nb ∧ sg = .slice Ag (blocksF D false k).length cg ∧ sb = .slice Ab (blocksF D true k).length cb ∧ i = .int .i64 (k : Int) ∧ Hid (GbS w2 D k (.slice Ag (blocksF D false k).length cg) (.slice Ab (blocksF D true k).length cb) wr)) (fun _ _ i _ => D.nb - (intOf i).toNat)
  case atStart => exact ⟨2, none, none, 0, 0, Nat.le_refl _, Nat.le_trans (by decide) HS.out.1, rfl, rfl, rfl, G0⟩
  case round =>
    obtain ⟨k, Ag, Ab, cg, cb, hk2, hk, rfl, rfl, rfl, HG⟩ := hrel
    clear G0
    have HLr := hide (HL.out.next HG.out.below)
    have q0 := HLr.out.cells.1
    by_cases hlt : k < D.nb
    · have hlt' : (k : Int) < (D.nb : Int) := by omega
      have e7 : wrap64 ((k : Int) + 1) = ((k + 1 : Nat) : Int) := by have := HS.out.2.1; unfold wrap64; omega
      have q3 : wr.cell? ⟨w.heap.size, 3, none⟩ = some (.slice q.A1 q.n1 q.c1) := HLr.out.box.c 3 _ rfl
      have FH := hide (has_any q.A1 q.n1 q.c1 w1.heap.size q.bl (k : Int) wr HLr.out.s.ref.plan.l1 HLr.out.s.ref.plan.h1 (Nat.le_trans HLr.out.s.ref.few.1 (by decide)))
      rw [← HLr.out.s.ref.bad k hlt] at FH
      have Hk2 := hide hk2
      have Hlt := hide hlt
      have Hg1 := hide (show (blocksF D false k).length ≤ 34 from Nat.le_trans (blocksF_few _ _ _) (Nat.le_trans hk HS.out.2.1))
      have Hg2 := hide (show (blocksF D true k).length ≤ 34 from Nat.le_trans (blocksF_few _ _ _) (Nat.le_trans hk HS.out.2.1))
      have HA5 := hide ((Below.refl wr.heap.size wr).alloc (Nat.le_refl _) (.cells #[.int .i64 (k : Int)] 3))
      clear hk2 hk hlt
      obtain ⟨bk, hbk⟩ : ∃ bk, D.bad k = bk := ⟨_, rfl⟩
      rw [hbk] at FH
      have Hbk := hide hbk
      clear hbk
      cases bk with
      | true =>
        have Hq1 := hide (show (blocksF D true k).length + 1 = (blocksF D true (k + 1)).length by rw [blocksF_yes Hk2.out Hbk.out, List.length_append]; rfl)
        have Hq2 := hide (show (blocksF D false k).length = (blocksF D false (k + 1)).length by rw [blocksF_no (by rw [Hbk.out]; decide)])
        go_wp2_with fail
        (with_reducible refine FH.out.mono ?_)
        rintro e w5 ⟨rfl, rfl⟩
        clear FH
        go_wp2_with (at_builtin; refine wpl_app _ rfl intEl (.tmp 42) (.tmp 44) rfl w2.heap.size _ (blocksF D true k).length (i64s (blocksF D true k)) rfl (own_keepT HG.out.ob HA5.out) (wr.heap.size + 1) (some ⟨wr.heap.size, 0, none⟩) 1 1 [.int .i64 (k : Int)] rfl (by rfl) (Lies.new wr #[.int .i64 (k : Int)] 3 (0, 0) _ (Nat.lt_succ_self _)) (by simp [Value.oneCell']) (by have := Hg2.out; unfold maxLen; omega) (by have := Hg2.out; omega) (Nat.le_trans HG.out.below.size HA5.out.size) ?_; intro A2 c2 w6 hown hg hat; have HG6 := hide (HG.out.bad HA5.out Hk2.out Hbk.out hown hg hat); clear hown hg hat)
        go_wp2
        go_roundw
        case rel => exact ⟨k + 1, Ag, A2, cg, c2, Nat.le_succ_of_le Hk2.out, Hlt.out, congrArg (fun q : Nat => Value.slice Ag q cg) Hq2.out, congrArg (fun q : Nat => Value.slice A2 q c2) Hq1.out, congrArg (Value.int .i64) e7, hide (by rw [← Hq2.out]; exact HG6.out)⟩
        case measure => first | exact measT Hlt.out | exact measT2 e7 Hlt.out
      | false =>
        have Hq1 := hide (show (blocksF D false k).length + 1 = (blocksF D false (k + 1)).length by rw [blocksF_yes Hk2.out Hbk.out, List.length_append]; rfl)
        have Hq2 := hide (show (blocksF D true k).length = (blocksF D true (k + 1)).length by rw [blocksF_no (by rw [Hbk.out]; decide)])
        go_wp2_with fail
        (with_reducible refine FH.out.mono ?_)
        rintro e w5 ⟨rfl, rfl⟩
        clear FH
        go_wp2_with (at_builtin; refine wpl_app _ rfl intEl (.tmp 46) (.tmp 48) rfl w2.heap.size _ (blocksF D false k).length (i64s (blocksF D false k)) rfl (own_keepT HG.out.og HA5.out) (wr.heap.size + 1) (some ⟨wr.heap.size, 0, none⟩) 1 1 [.int .i64 (k : Int)] rfl (by rfl) (Lies.new wr #[.int .i64 (k : Int)] 3 (0, 0) _ (Nat.lt_succ_self _)) (by simp [Value.oneCell']) (by have := Hg1.out; unfold maxLen; omega) (by have := Hg1.out; omega) (Nat.le_trans HG.out.below.size HA5.out.size) ?_; intro A2 c2 w6 hown hg hat; have HG6 := hide (HG.out.good HA5.out Hk2.out Hbk.out hown hg hat); clear hown hg hat)
        go_wp2
        go_roundw
        case rel => exact ⟨k + 1, A2, Ab, c2, cb, Nat.le_succ_of_le Hk2.out, Hlt.out, congrArg (fun q : Nat => Value.slice A2 q c2) Hq1.out, congrArg (fun q : Nat => Value.slice Ab q cb) Hq2.out, congrArg (Value.int .i64) e7, hide (by rw [← Hq2.out]; exact HG6.out)⟩
        case measure => first | exact measT Hlt.out | exact measT2 e7 Hlt.out
    · obtain rfl : k = D.nb := by omega
      have HR := hide (show RwS w w1 q D m Ag Ab wr from ⟨HLr.out, Lies.of_own HG.out.og, Lies.of_own HG.out.ob⟩)
      have Hng := hide (show (D.blocks false).length = (blocksF D false D.nb).length from rfl)
      have Hnb := hide (show (D.blocks true).length = (blocksF D true D.nb).length from rfl)
      rw [← Hng.out, ← Hnb.out]
      have Hl1 := hide (show (D.blocks false).length ≤ 34 from Nat.le_trans (blocksF_few _ _ _) HS.out.2.1)
      have Hl2 := hide (show (D.blocks true).length ≤ 34 from Nat.le_trans (blocksF_few _ _ _) HS.out.2.1)
      clear HLr HG hk2 hk hlt Hng Hnb HL
      have q0 := HR.out.l.cells.1
      have q1 := HR.out.l.cells.2
      obtain ⟨inR, hin⟩ : ∃ inR, inR = decide (0 ≤ b ∧ b < (D.nb : Int)) := ⟨_, rfl⟩
      go_upto_region 13 with fail
      go_cut [12] (fun s12 wx => s12 = .bool inR ∧ wx = wr)
      case first =>
        by_cases h1 : 0 ≤ b
        · by_cases h2 : b < (D.nb : Int)
          · have hz : inR = true := by rw [hin]; exact decide_eq_true ⟨h1, h2⟩
            clear hin
            go_wp2_with fail
            go_meet
            exact ⟨congrArg Value.bool hz.symm, rfl⟩
          · have hz : inR = false := by rw [hin]; exact decide_eq_false (fun h => h2 h.2)
            clear hin
            go_wp2_with fail
            go_meet
            exact ⟨congrArg Value.bool hz.symm, rfl⟩
        · have hz : inR = false := by rw [hin]; exact decide_eq_false (fun h => h1 h.1)
          clear hin
          go_wp2_with fail
          go_meet
          exact ⟨congrArg Value.bool hz.symm, rfl⟩
      case rest =>
        obtain ⟨rfl, rfl⟩ := hcut
        have Hin := hide hin
        clear hin q0 q1
        go_wp2
        go_loopw [12, 13] (fun s12 i wx => ∃ k : Nat, k ≤ D.np ∧ i = .int .i64 (k : Int) ∧ s12 = .bool (inR && blankF D b.toNat k) ∧ Hid (RwS w w1 q D m Ag Ab wx)) (fun _ i _ => D.np - (intOf i).toNat)
        case atStart => exact ⟨0, Nat.zero_le _, rfl, congrArg Value.bool (Bool.and_true inR).symm, HR⟩
        case round =>
          obtain ⟨k, hk, rfl, rfl, HU⟩ := hrel
          clear HR
          have q1 := HU.out.l.cells.2
          obtain ⟨bl, hbl⟩ : ∃ bl, bl = (inR && blankF D b.toNat k) := ⟨_, rfl⟩
          rw [← hbl]
          have Hbl := hide hbl
          have Hk := hide hk
          clear hbl hk
          go_upto_region 15 with fail
          go_cut [66] from 59 to 83 (fun s66 wx => s66 = .bool (decide (k < D.np) && bl) ∧ wr = wx)
          case first =>
            by_cases hlt : k < D.np
            · have hlt' : (k : Int) < (D.np : Int) := by omega
              cases bl with
              | true =>
                have hz : (decide (k < D.np) && true) = true := by rw [decide_eq_true hlt]; rfl
                have Hz := hide hz
                clear hz hlt
                go_wp2_with fail
                go_meet
                exact ⟨congrArg Value.bool Hz.out.symm, rfl⟩
              | false =>
                clear hlt
                go_wp2_with fail
                go_meet
                exact ⟨congrArg Value.bool (Bool.and_false _).symm, rfl⟩
            · have hlt' : ¬ (k : Int) < (D.np : Int) := by omega
              have hz : (decide (k < D.np) && bl) = false := by rw [decide_eq_false hlt]; rfl
              have Hz := hide hz
              clear hz hlt
              go_wp2_with fail
              go_meet
              exact ⟨congrArg Value.bool Hz.out.symm, rfl⟩
          case rest =>
            obtain ⟨rfl, rfl⟩ := hcut
            by_cases hgo : k < D.np ∧ bl = true
            · obtain ⟨hlt, rfl⟩ := hgo
              rw [decide_eq_true hlt, Bool.true_and]
              have hh := Hbl.out
              rw [Hin.out] at hh
              have hh2 := hh.symm
              rw [Bool.and_eq_true, decide_eq_true_eq] at hh2
              obtain ⟨⟨hb1, hb2⟩, hbk⟩ := hh2
              obtain ⟨x, hbx⟩ := Int.eq_ofNat_of_zero_le hb1
              have hxn : x < D.nb := by omega
              have e7 : wrap64 ((k : Int) + 1) = ((k + 1 : Nat) : Int) := by have h4 := HS.out.2.2.2.1; clear hb1 hb2 hbx hh; unfold wrap64; omega
              obtain ⟨Z, I, N, hN, hZ, hI, hIN, hIN2, hNb, k1, k2, k3, k4⟩ := pg_nums hxn HS.out.2.1 HS.out.2.2.2.1 hlt
              rw [← hbx] at k1 k2
              have c4 : wr.cell? ⟨m.r, 4, none⟩ = some (.slice (some ⟨m.rp, 0, none⟩) N m.cp) := HU.out.l.s.ref.c 4 _ (by rw [hN]; rfl)
              have cp := HU.out.l.s.ref.pages.cell (j := I) (by rw [← hN]; exact hIN)
              have hlen : (D.pg I).length = 256 := HU.out.l.s.dev.plen I (by rw [← hN]; exact hIN)
              have FC := hide (class15_any (D.pg I) wr.drew (by rw [hlen]; decide))
              have Hnx := hide (show blankF D b.toNat (k + 1) = decide (classN (D.pg I) = 0) by
                show (blankF D b.toNat k && _) = _
                rw [hbk, Bool.true_and, hI, hbx, Int.toNat_natCast])
              have HinT := hide (show inR = true by rw [Hin.out]; exact decide_eq_true ⟨hb1, hb2⟩)
              have Hlt := hide hlt
              have HUd := hide (HU.out.next (W' := wr.drew) ((Below.refl _ _).drew))
              clear hh hb1 hb2 hbk hbx hxn hN hZ hI hIN hNb hlen hlt Hbl Hk
              generalize classN (D.pg I) = cl at *
              go_upto_region 17 with fail
              refine wp_region_still_tail 13 (by kernel_rfl) (by kernel_rfl) ?_
              simp only [List.take_succ_cons, List.take_zero, List.drop_succ_cons, List.drop_zero]
              repeat still_step
              refine wpStill_nil ?_
              change wpList _ _ _ _ _ wr.drew
              clear c4 cp k1 k2 k3 k4 q1 hIN2
              generalize wr.drew = wd at *
              go_wp2_with fail
              (with_reducible refine FC.out.mono ?_)
              rintro e w4 ⟨rfl, hb⟩
              have HU4 := hide (HUd.out.next hb)
              clear hb FC HUd
              by_cases h0 : cl = 0
              · subst h0
                have hz : (inR && blankF D b.toNat (k + 1)) = true := by rw [HinT.out, Hnx.out]; rfl
                have Hz := hide hz
                clear hz Hnx
                go_wp2
                go_roundw
                case rel => exact ⟨k + 1, Hlt.out, congrArg (Value.int .i64) e7, congrArg Value.bool Hz.out.symm, HU4⟩
                case measure => first | exact measT Hlt.out | exact measT2 e7 Hlt.out
              · have hz : (inR && blankF D b.toNat (k + 1)) = false := by rw [HinT.out, Hnx.out, decide_eq_false h0]; rfl
                have Hz := hide hz
                have hc : ((cl : Int) == 0) = false := beq_eq_false_iff_ne.2 (by omega)
                clear hz Hnx h0
                go_wp2
                go_roundw
                case rel => exact ⟨k + 1, Hlt.out, congrArg (Value.int .i64) e7, congrArg Value.bool Hz.out.symm, HU4⟩
                case measure => first | exact measT Hlt.out | exact measT2 e7 Hlt.out
            · have hbk : bl = D.blank b := by
                unfold Dv.blank
                rw [Hdn.out, Bool.not_false, Bool.true_and, ← Hin.out, Hbl.out]
                by_cases hlt : k < D.np
                · have hf : bl = false := by
                    cases bl with
                    | false => rfl
                    | true => exact absurd ⟨hlt, rfl⟩ hgo
                  have h2 := Hbl.out
                  rw [hf] at h2
                  rw [← h2]
                  cases inR with
                  | false => rfl
                  | true =>
                    rw [Bool.true_and] at h2 ⊢
                    obtain ⟨j, hj⟩ := Nat.exists_eq_add_of_le (Nat.le_of_lt hlt)
                    rw [hj, blankF_no D b.toNat h2.symm j]
                · have e : k = D.np := by have := Hk.out; omega
                  rw [e]
              have hz : (decide (k < D.np) && bl) = false := by
                cases bl with
                | false => exact Bool.and_false _
                | true => rw [decide_eq_false (fun h => hgo ⟨h, rfl⟩)]; rfl
              rw [hz]
              have Hbk := hide hbk
              clear hgo hz hbk Hbl Hk Hin q1
              go_wp2_with fail
              (with_reducible refine (refAll_any HU.out.l.s.ref HU.out.l.s.pos.2.2.2 HU.out.l.s.dev.plen).mono ?_)
              rintro e w4 ⟨A4, c4, rfl, ho, hb⟩
              have HR4 := hide (Lies.of_own ho)
              have HU4 := hide (HU.out.next hb)
              clear ho hb HU
              have Hfew := hide (show D.finds.length ≤ 2000 from Nat.le_trans (findsF_few _ _) (Nat.le_trans (Nat.mul_le_mul (show D.nb - 2 ≤ 32 by have := HS.out.2.1; omega) HS.out.2.2.2.1) (by decide)))
              have S0 : Hid (OfS w4 A4 D.finds b 0 (.slice none 0 0) w4) := hide ⟨World.ownsRow_nil _ _ _ _, Below.refl _ _⟩
              go_wp2
              go_loopw [15, 16] (fun v i wy => ∃ (n : Nat) (A5 : Option Addr) (c5 : Nat), n ≤ D.finds.length ∧ v = .slice A5 (ofBlock (D.finds.take n) b).length c5 ∧ i = .int .i64 (n : Int) ∧ Hid (OfS w4 A4 D.finds b n (.slice A5 (ofBlock (D.finds.take n) b).length c5) wy)) (fun _ i _ => D.finds.length - (intOf i).toNat)
              case atStart => exact ⟨0, none, 0, Nat.zero_le _, rfl, rfl, S0⟩
              case round =>
                obtain ⟨n, A5, c5, hn, rfl, rfl, HT⟩ := hrel
                clear S0
                by_cases hlt : n < D.finds.length
                · have hlt' : (n : Int) < (D.finds.length : Int) := by omega
                  have e7 : wrap64 ((n : Int) + 1) = ((n + 1 : Nat) : Int) := by have := Hfew.out; unfold wrap64; omega
                  have Hlt := hide hlt
                  have Hlen := hide (show (ofBlock (D.finds.take n) b).length ≤ 2000 from Nat.le_trans (List.length_filter_le _ _) (by rw [List.length_take]; have := Hfew.out; omega))
                  obtain ⟨ad, rfl, _, hca⟩ := (HR4.out.below HT.out.below).elem Fd.cells_len hlt (by decide)
                  have Hnx := hide (ofBlock_next (z := b) hlt)
                  have Hm := hide (fun (hz : ((D.finds[n]).x : Int) = b) w5 (hb : Below wr.heap.size wr w5) A3 c3 w6 => HT.out.more hb hlt hz (w6 := w6) (A2 := A3) (c := c3))
                  generalize D.finds[n] = f at *
                  clear hlt hn
                  rcases f with ⟨fx, fy, ⟨kd, ix, ct, bt, op, lp, ln⟩⟩
                  have Hca := hide hca
                  obtain ⟨a0, _⟩ := fd_cells hca
                  clear hca
                  unfold Fd.cells at *
                  dsimp only at *
                  by_cases hz : (fx : Int) = b
                  · have HA5 := hide ((Below.refl wr.heap.size wr).alloc (Nat.le_refl _) (.cells #[.int .i64 (fx : Int), .int .i64 (fy : Int), .int .i64 kd, .int .i64 ix, .int .i64 ct, .int .u64 (bt : Int), .int .u64 (op : Int), .int .i64 lp, .int .i64 ln] 48))
                    have Hq := hide (show (ofBlock (D.finds.take n) b).length + 1 = (ofBlock (D.finds.take (n + 1)) b).length by rw [Hnx.out, if_pos hz, List.length_append]; rfl)
                    have Hm2 := hide (Hm.out hz)
                    have hzb : ((fx : Int) == b) = true := beq_iff_eq.2 hz
                    clear Hm Hnx hz
                    go_wp2_with (first
                      | (with_reducible refine wpl_load_addr rfl 48 (.tmp 103) rfl (ad.add (n * 9)) _ Hca.out rfl _ Try.underlying48 rfl 9 infoFd rfl ?_)
                      | (at_builtin; refine wpl_app _ rfl felems (.tmp 100) (.tmp 105) rfl w4.heap.size _ (ofBlock (D.finds.take n) b).length (rowD (ofBlock (D.finds.take n) b)) rfl (own_keepT HT.out.own (HA5.out)) (wr.heap.size + 1) (some ⟨wr.heap.size, 0, none⟩) 1 1 _ rfl (by rfl) (Lies.new wr _ _ _ _ (Nat.lt_succ_self _)) (by simp [Value.oneCell']) (by have := Hlen.out; unfold maxLen; omega) (by have := Hlen.out; omega) (Nat.le_trans HT.out.below.size HA5.out.size) ?_; intro A3 c3 w5 hown hg hat; have HT5 := hide (Hm2.out _ HA5.out A3 c3 w5 hown hg); clear hown hg hat))
                    go_wp2
                    go_roundw
                    case rel => exact ⟨n + 1, A3, c3, Hlt.out, congrArg (fun q : Nat => Value.slice A3 q c3) Hq.out, congrArg (Value.int .i64) e7, HT5⟩
                    case measure => first | exact measT Hlt.out | exact measT2 e7 Hlt.out
                  · have HT4 := hide (show OfS w4 (some ad) D.finds b (n + 1) (.slice A5 (ofBlock (D.finds.take n) b).length c5) wr from by
                      refine ⟨?_, HT.out.below⟩
                      rw [Hnx.out, if_neg hz, List.append_nil]
                      exact HT.out.own)
                    have Hq := hide (show (ofBlock (D.finds.take n) b).length = (ofBlock (D.finds.take (n + 1)) b).length by rw [Hnx.out, if_neg hz, List.append_nil])
                    have hb0 : ((fx : Int) == b) = false := beq_eq_false_iff_ne.2 hz
                    clear hz Hnx Hm HT
                    go_wp2
                    go_roundw
                    case rel => exact ⟨n + 1, A5, c5, Hlt.out, congrArg (fun q : Nat => Value.slice A5 q c5) Hq.out, congrArg (Value.int .i64) e7, hide (by rw [← Hq.out]; exact HT4.out)⟩
                    case measure => first | exact measT Hlt.out | exact measT2 e7 Hlt.out
                · obtain rfl : n = D.finds.length := by omega
                  have ho := HT.out.own
                  rw [List.take_length] at ho ⊢
                  have HO := hide (Lies.of_own ho)
                  have HV := hide (HU4.out.next HT.out.below)
                  have HR := hide ((HR4.out.below HT.out.below).up HT.out.below.size)
                  have Hofl := hide (show (ofBlock D.finds b).length ≤ 2000 from Nat.le_trans (List.length_filter_le _ _) Hfew.out)
                  clear ho HT hn hlt HU4 HR4
                  go_wp2_with fail
                  (with_reducible refine (sBlocks_any HV.out.l.s.dev HV.out.l.s.bigB).mono ?_)
                  rintro e w5 ⟨A6, c6, rfl, ho, hb⟩
                  have HV5 := hide (HV.out.next hb)
                  have HR5 := hide ((HR.out.below hb).up hb.size)
                  have HO5 := hide ((HO.out.below hb).up hb.size)
                  have HX5 := hide (Lies.of_own ho)
                  clear ho hb HV HR HO
                  go_wp2_with fail
                  (with_reducible refine (ints_same A6 Ag (D.blocks false).length c6 cg w5.heap.size (D.blocks false) w5 HX5.out HV5.out.g rfl (by have := Hl1.out; omega) (Nat.le_refl _)).mono ?_)
                  rintro e w6 ⟨rfl, hb⟩
                  have HV6 := hide (HV5.out.next hb)
                  have HR6 := hide ((HR5.out.below hb).up hb.size)
                  have HO6 := hide ((HO5.out.below hb).up hb.size)
                  clear hb HV5 HR5 HO5 HX5
                  go_wp2_with fail
                  (with_reducible refine (sMarked_any HV6.out.l.s.dev HV6.out.l.s.bigB).mono ?_)
                  rintro e w7 ⟨A7, c7, rfl, ho, hb⟩
                  have HV7 := hide (HV6.out.next hb)
                  have HR7 := hide ((HR6.out.below hb).up hb.size)
                  have HO7 := hide ((HO6.out.below hb).up hb.size)
                  have HX7 := hide (Lies.of_own ho)
                  clear ho hb HV6 HR6 HO6
                  go_wp2_with fail
                  (with_reducible refine (ints_same A7 Ab (D.blocks true).length c7 cb w7.heap.size (D.blocks true) w7 HX7.out HV7.out.b rfl (by have := Hl2.out; omega) (Nat.le_refl _)).mono ?_)
                  rintro e w8 ⟨rfl, hb⟩
                  have HV8 := hide (HV7.out.next hb)
                  have HR8 := hide ((HR7.out.below hb).up hb.size)
                  have HO8 := hide ((HO7.out.below hb).up hb.size)
                  clear hb HV7 HR7 HO7 HX7
                  go_wp2_with fail
                  have FB := sblank_any HV8.out.l.s.dev HV8.out.l.s.bigB b
                  rw [← Hbk.out] at FB
                  (with_reducible refine FB.mono ?_)
                  rintro e w9 ⟨rfl, hb⟩
                  have HV9 := hide (HV8.out.next hb)
                  have HR9 := hide ((HR8.out.below hb).up hb.size)
                  have HO9 := hide ((HO8.out.below hb).up hb.size)
                  have hbb : (bl == bl) = true := beq_self_eq_true bl
                  clear hb FB HV8 HR8 HO8
                  go_wp2_with fail
                  (with_reducible refine (sof_any _ D.finds.length c4 D.finds b w9 HR9.out rfl Hfew.out).mono ?_)
                  rintro e w10 ⟨A8, c8, rfl, ho, hb⟩
                  have HV10 := hide (HV9.out.next hb)
                  have HO10 := hide ((HO9.out.below hb).up hb.size)
                  have HX10 := hide (Lies.of_own ho)
                  clear ho hb HV9 HR9 HO9
                  go_wp2_with fail
                  (with_reducible refine (same18_same A8 _ (ofBlock D.finds b).length c8 _ w10.heap.size (ofBlock D.finds b) w10 HX10.out HO10.out rfl (by have := Hofl.out; omega) (Nat.le_refl _)).mono ?_)
                  rintro e w11 ⟨rfl, hb⟩
                  have HV11 := hide (HV10.out.next hb)
                  clear hb HV10 HO10 HX10
                  go_wp2
                  go_ret
                  exact ⟨rfl, HV11.out.l.below⟩
end Go.Proofs.Ytahipfmokbiklaa
