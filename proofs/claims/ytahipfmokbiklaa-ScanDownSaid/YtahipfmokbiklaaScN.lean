/-
  LAYER 18, CONTRACTS of package scan: dataBlocks, Blocks, Marked, Blank, Of.
-/
import Derived.Test.YtahipfmokbiklaaScM
import Derived.Test.YtahipfmokbiklaaRd9
namespace Go.Proofs.Ytahipfmokbiklaa
open Go.RowKit
set_option maxRecDepth 8000

theorem i64s_app (l m : List Int) : i64s (l ++ m) = i64s l ++ i64s m := by simp [i64s]
theorem field_blocksS (b n r : Int) (W : World) : (Instr.field 23 (.agg #[.int .i64 b, .int .i64 n, .int .i64 r]) 0).run Try.prog W = .ok (.int .i64 b) W := by kernel_rfl
theorem field_pagesS (b n r : Int) (W : World) : (Instr.field 23 (.agg #[.int .i64 b, .int .i64 n, .int .i64 r]) 1).run Try.prog W = .ok (.int .i64 n) W := by kernel_rfl

/-! ### the data blocks -/
def blocksF (D : Dv) (m : Bool) : Nat → List Int
  | 0 => []
  | b + 1 => blocksF D m b ++ (if 2 ≤ b ∧ D.bad b = m then [(b : Int)] else [])
def Dv.blocks (D : Dv) (m : Bool) : List Int := blocksF D m D.nb
theorem blocksF_few (D : Dv) (m : Bool) : ∀ n, (blocksF D m n).length ≤ n
  | 0 => Nat.le_refl _
  | n + 1 => by
    unfold blocksF
    rw [List.length_append]
    have := blocksF_few D m n
    split <;> simp <;> omega
/-- What dataBlocks keeps. -/
structure BlkS (w : World) (D : Dv) (m : Bool) (n k B0 B kb kp km : Nat) (v : Value) (W : World) : Prop where
  dev : DevAt W B0 B D k kb kp km
  own : W.ownsRow w.heap.size 3 1 v (blocksF D m n).length (i64s (blocksF D m n))
  below : Below w.heap.size w W
section
variable {w W W' w5 w6 : World} {D : Dv} {m : Bool} {n k B0 B kb kp km : Nat} {v : Value}
theorem BlkS.later (h : BlkS w D m n k B0 B kb kp km v W) (hB : B ≤ W.heap.size) (hb : Below W.heap.size W W') : BlkS w D m n k B0 B kb kp km v W' :=
  ⟨h.dev.below (hb.mono hB), own_keepT h.own hb, h.below.trans (hb.mono h.below.size)⟩
theorem BlkS.skip (h : BlkS w D m n k B0 B kb kp km v W) (hn : ¬ (2 ≤ n ∧ D.bad n = m)) : BlkS w D m (n + 1) k B0 B kb kp km v W := by
  have e : blocksF D m (n + 1) = blocksF D m n := by
    show blocksF D m n ++ _ = _
    rw [if_neg hn, List.append_nil]
  exact ⟨h.dev, by rw [e]; exact h.own, h.below⟩
theorem BlkS.more (h : BlkS w D m n k B0 B kb kp km v W) (hB : B ≤ w.heap.size) (hb : Below W.heap.size W w5) (hn : 2 ≤ n ∧ D.bad n = m) {A : Option Addr} {c : Nat} (hown : w6.ownsRow w.heap.size 3 1 (.slice A ((blocksF D m n).length + 1) c) ((blocksF D m n).length + 1) (i64s (blocksF D m n) ++ [.int .i64 (n : Int)])) (hg : w5.grownBy w6 v.ownBlock) :
    BlkS w D m (n + 1) k B0 B kb kp km (.slice A (blocksF D m (n + 1)).length c) w6 := by
  have h2 := h.later (Nat.le_trans hB h.below.size) hb
  have hlow := own_lowS h.own
  have e : blocksF D m (n + 1) = blocksF D m n ++ [(n : Int)] := by
    show blocksF D m n ++ _ = _
    rw [if_pos hn]
  have hw6 : Below w.heap.size w w6 := h2.below.grown hg h2.below.size (fun q e => (hlow q e).1)
  have hb6 : Below w.heap.size w5 w6 := (Below.refl w.heap.size w5).grown hg h2.below.size (fun q e => (hlow q e).1)
  refine ⟨h2.dev.below (hb6.mono hB), ?_, hw6⟩
  rw [e, i64s_app, List.length_append]
  exact hown
end
section
variable {w : World} {B0 B : Nat} {D : Dv} {k kb kp km : Nat}
set_option maxHeartbeats 4000000 in
theorem sblocks_any (h : DevAt w B0 B D k kb kp km) (hB : B ≤ w.heap.size) (m : Bool) :
    Calls Try.prog 40 #[.pointer (some ⟨k, 0, none⟩), .bool m] w fun e w' => ∃ A c, e = .returned (.slice A (D.blocks m).length c) ∧ w'.ownsRow w.heap.size 3 1 (.slice A (D.blocks m).length c) (D.blocks m).length (i64s (D.blocks m)) ∧ Below w.heap.size w w' := by
  have hs := h.sides
  have HS := hide hs
  have HBB := hide hB
  have hg : D.g.val = .agg #[.int .i64 (D.nb : Int), .int .i64 D.g.p, .int .i64 D.g.r] := by unfold Gm.val; rw [hs.2.2.2.2.1]
  have Hg := hide hg
  have hfd := fun W => field_blocksS (D.nb : Int) D.g.p D.g.r W
  have S0 : Hid (BlkS w D m 2 k B0 B kb kp km (.slice none 0 0) w) := hide ⟨h, by
    rw [show blocksF D m 2 = [] from rfl]
    exact World.ownsRow_nil _ _ _ _, Below.refl _ _⟩
  unfold Dv.blocks
  clear h hB hs hg
  go_enter Try.func40, Try.ntmps40
  go_wp2
  go_loopw [5, 6] (fun v i wr => ∃ (n : Nat) (A : Option Addr) (c : Nat), 2 ≤ n ∧ n ≤ D.nb ∧ v = .slice A (blocksF D m n).length c ∧ i = .int .i64 (n : Int) ∧ Hid (BlkS w D m n k B0 B kb kp km (.slice A (blocksF D m n).length c) wr)) (fun _ i _ => D.nb - (intOf i).toNat)
  case atStart => exact ⟨2, none, 0, Nat.le_refl _, Nat.le_trans (by decide) HS.out.1, rfl, rfl, S0⟩
  case round =>
    obtain ⟨n, A, c, hn2, hn, rfl, rfl, HT⟩ := hrel
    clear S0
    have F := hide (sides_any HT.out.dev)
    rw [Hg.out] at F
    by_cases hlt : n < D.nb
    · have hlt' : (n : Int) < (D.nb : Int) := by omega
      have e7 : wrap64 ((n : Int) + 1) = ((n + 1 : Nat) : Int) := by have := HS.out.2.1; unfold wrap64; omega
      have hBw := hide (Nat.le_trans HBB.out HT.out.below.size)
      have Hlen := hide (show (blocksF D m n).length ≤ 1000 from Nat.le_trans (blocksF_few _ _ _) (by have := HS.out.2.1; omega))
      go_wp2_with fail
      (with_reducible refine F.out.mono ?_)
      rintro e w1 ⟨rfl, hb⟩
      have HT1 := hide (HT.out.later hBw.out hb)
      have hB1 := hide (Nat.le_trans hBw.out hb.size)
      clear hb F HT hBw
      have F := hide (marked_some HT1.out.dev n hlt)
      go_wp2_with fail
      (with_reducible refine F.out.mono ?_)
      rintro e w2 ⟨rfl, rfl⟩
      clear F
      have Hcond : Hid ((D.bad n == m) = decide (D.bad n = m)) := hide (by cases D.bad n <;> cases m <;> rfl)
      by_cases hm : D.bad n = m
      · have HH : Hid (2 ≤ n ∧ D.bad n = m) := hide ⟨hn2, hm⟩
        have HA5 := hide ((Below.refl w1.heap.size w1).alloc (Nat.le_refl _) (.cells #[.int .i64 (n : Int)] 3))
        rw [hm]
        clear hm
        go_wp2_with (at_builtin; refine wpl_app _ rfl intEl (.tmp 21) (.tmp 23) rfl w.heap.size _ (blocksF D m n).length (i64s (blocksF D m n)) rfl (own_keepT HT1.out.own HA5.out) (w1.heap.size + 1) (some ⟨w1.heap.size, 0, none⟩) 1 1 [.int .i64 (n : Int)] rfl (by rfl) (Lies.new w1 #[.int .i64 (n : Int)] 3 (0, 0) _ (Nat.lt_succ_self _)) (by simp [Value.oneCell']) (by have := Hlen.out; unfold maxLen; omega) (by have := Hlen.out; omega) (Nat.le_trans HT1.out.below.size HA5.out.size) ?_; intro A2 c2 w5 hown hg hat; have HT5 := hide (HT1.out.more HBB.out HA5.out HH.out hown hg); have Hq := hide (show (blocksF D m n).length + 1 = (blocksF D m (n + 1)).length by (show _ = (blocksF D m n ++ _).length); rw [if_pos HH.out, List.length_append]; rfl); clear hown hg hat)
        go_wp2
        go_roundw
        case rel => exact ⟨n + 1, A2, c2, Nat.le_succ_of_le hn2, hlt, congrArg (fun q : Nat => Value.slice A2 q c2) Hq.out, congrArg (Value.int .i64) e7, HT5⟩
        case measure => first | exact measT hlt | exact measT2 e7 hlt
      · have HT4 := hide (HT1.out.skip (fun h => hm h.2))
        have Hq := hide (show (blocksF D m n).length = (blocksF D m (n + 1)).length by (show _ = (blocksF D m n ++ _).length); rw [if_neg (fun h => hm h.2), List.append_nil])
        have hb0 : (D.bad n == m) = false := by rw [Hcond.out, decide_eq_false hm]
        clear hm
        go_wp2
        go_roundw
        case rel => exact ⟨n + 1, A, c, Nat.le_succ_of_le hn2, hlt, congrArg (fun q : Nat => Value.slice A q c) Hq.out, congrArg (Value.int .i64) e7, hide (by rw [← Hq.out]; exact HT4.out)⟩
        case measure => first | exact measT hlt | exact measT2 e7 hlt
    · obtain rfl : n = D.nb := by omega
      go_wp2_with fail
      (with_reducible refine F.out.mono ?_)
      rintro e w1 ⟨rfl, hb⟩
      have HT1 := hide (HT.out.later (Nat.le_trans HBB.out HT.out.below.size) hb)
      clear hb F HT
      go_wp2
      go_ret
      exact ⟨A, c, rfl, HT1.out.own, HT1.out.below⟩
theorem sBlocks_any (h : DevAt w B0 B D k kb kp km) (hB : B ≤ w.heap.size) :
    Calls Try.prog 16 #[.pointer (some ⟨k, 0, none⟩)] w fun e w' => ∃ A c, e = .returned (.slice A (D.blocks false).length c) ∧ w'.ownsRow w.heap.size 3 1 (.slice A (D.blocks false).length c) (D.blocks false).length (i64s (D.blocks false)) ∧ Below w.heap.size w w' := by
  have F := hide (sblocks_any h hB false)
  clear h hB
  go_enter Try.func16, Try.ntmps16
  go_wp2_with fail
  (with_reducible refine F.out.mono ?_)
  rintro e w1 ⟨A, c, rfl, ho, hb⟩
  have HO := hide ho
  have HB := hide hb
  clear ho hb F
  go_wp2
  go_ret
  exact ⟨A, c, rfl, HO.out, HB.out⟩
theorem sMarked_any (h : DevAt w B0 B D k kb kp km) (hB : B ≤ w.heap.size) :
    Calls Try.prog 17 #[.pointer (some ⟨k, 0, none⟩)] w fun e w' => ∃ A c, e = .returned (.slice A (D.blocks true).length c) ∧ w'.ownsRow w.heap.size 3 1 (.slice A (D.blocks true).length c) (D.blocks true).length (i64s (D.blocks true)) ∧ Below w.heap.size w w' := by
  have F := hide (sblocks_any h hB true)
  clear h hB
  go_enter Try.func17, Try.ntmps17
  go_wp2_with fail
  (with_reducible refine F.out.mono ?_)
  rintro e w1 ⟨A, c, rfl, ho, hb⟩
  have HO := hide ho
  have HB := hide hb
  clear ho hb F
  go_wp2
  go_ret
  exact ⟨A, c, rfl, HO.out, HB.out⟩
end
theorem sblocks_nil (m : Bool) (w : World) : Calls Try.prog 40 #[.pointer none, .bool m] w fun e w' => e = .returned (.slice none 0 0) ∧ w = w' := by
  go_enter Try.func40, Try.ntmps40
  go_wp2
  go_ret
  exact ⟨rfl, rfl⟩
theorem sBlocks_nil (w : World) : Calls Try.prog 16 #[.pointer none] w fun e w' => e = .returned (.slice none 0 0) ∧ w = w' := by
  go_enter Try.func16, Try.ntmps16
  go_wp2_with fail
  (with_reducible refine (sblocks_nil false w).mono ?_)
  rintro e w1 ⟨rfl, rfl⟩
  go_wp2
  go_ret
  exact ⟨rfl, rfl⟩

/-! ### Blank -/
/-- The first n pages of a block are blank. -/
def blankF (D : Dv) (b : Nat) : Nat → Bool
  | 0 => true
  | n + 1 => blankF D b n && decide (classN (D.pg (b * D.np + n)) = 0)
def Dv.blank (D : Dv) (z : Int) : Bool := !D.dn && decide (0 ≤ z ∧ z < (D.nb : Int)) && blankF D z.toNat D.np
theorem blankF_no (D : Dv) (b : Nat) {n : Nat} (h : blankF D b n = false) : ∀ j, blankF D b (n + j) = false
  | 0 => h
  | j + 1 => by
    show (blankF D b (n + j) && _) = false
    rw [blankF_no D b h j, Bool.false_and]
section
variable {w : World} {B0 B : Nat} {D : Dv} {k kb kp km : Nat}
/-- Blank: the first read says that it can't be. -/
theorem sblank_err (h : DevAt w B0 B D k kb kp km) (z er : Int) (he : er ≠ 0) (hr : ∀ W, Below w.heap.size w W → Calls Try.prog 36 #[.pointer (some ⟨k, 0, none⟩), .agg #[.int .i64 z, .int .i64 0]] W fun e w' => e = .returned (.tuple #[.slice none 0 0, .int .i64 er]) ∧ Below W.heap.size W w') :
    Calls Try.prog 18 #[.pointer (some ⟨k, 0, none⟩), .int .i64 z] w fun e w' => e = .returned (.bool false) ∧ Below w.heap.size w w' := by
  have hs := h.sides
  have hg : D.g.val = .agg #[.int .i64 D.g.b, .int .i64 (D.np : Int), .int .i64 D.g.r] := by unfold Gm.val; rw [hs.2.2.2.2.2]
  have F := hide (sides_any h)
  rw [hg] at F
  have hfd := fun W => field_pagesS D.g.b (D.np : Int) D.g.r W
  have HR := hide hr
  have h1 : (er != 0) = true := bne_iff_ne.2 he
  have hlt : (0 : Int) < (D.np : Int) := by omega
  clear h hg hs hr he
  go_enter Try.func18, Try.ntmps18
  go_wp2_with fail
  (with_reducible refine F.out.mono ?_)
  rintro e w1 ⟨rfl, hb⟩
  have HB1 := hide hb
  clear hb F
  go_wp2
  go_loopw [5, 6, 7, 13] (fun _ _ _ i wr => i = .int .i64 0 ∧ wr = w1) (fun _ _ _ _ _ => 0)
  case atStart => exact ⟨rfl, rfl⟩
  case round =>
    obtain ⟨rfl, rfl⟩ := hrel
    go_wp2_with fail
    (with_reducible refine (HR.out _ HB1.out).mono ?_)
    rintro e w3 ⟨rfl, hb⟩
    have HB3 := hide (HB1.out.trans (hb.mono HB1.out.size))
    clear hb HR HB1
    go_wp2
    go_ret
    exact ⟨rfl, HB3.out⟩
end
theorem sblank_nil (z : Int) (w : World) : Calls Try.prog 18 #[.pointer none, .int .i64 z] w fun e w' => e = .returned (.bool false) ∧ w = w' := by
  go_enter Try.func18, Try.ntmps18
  go_wp2
  go_ret
  exact ⟨rfl, rfl⟩
theorem blankF_all (D : Dv) (b : Nat) {n : Nat} (h : blankF D b (n + 1) = false) (hn : n + 1 ≤ D.np) : blankF D b D.np = false := by
  obtain ⟨j, hj⟩ := Nat.exists_eq_add_of_le hn
  rw [hj]
  exact blankF_no D b h j
section
variable {w : World} {B0 B : Nat} {D : Dv} {k kb kp km : Nat}
set_option maxHeartbeats 4000000 in
theorem sblank_on (h : DevAt w B0 B D k kb kp km) (hB : B ≤ w.heap.size) (hd : D.dn = false) (b : Nat) (hb : b < D.nb) :
    Calls Try.prog 18 #[.pointer (some ⟨k, 0, none⟩), .int .i64 (b : Int)] w fun e w' => e = .returned (.bool (blankF D b D.np)) ∧ Below w.heap.size w w' := by
  have hs := h.sides
  have hg : D.g.val = .agg #[.int .i64 D.g.b, .int .i64 (D.np : Int), .int .i64 D.g.r] := by unfold Gm.val; rw [hs.2.2.2.2.2]
  have F := hide (sides_any h)
  rw [hg] at F
  have hfd := fun W => field_pagesS D.g.b (D.np : Int) D.g.r W
  have HS := hide hs
  have HD := hide h
  have HBB := hide hB
  have Hd := hide hd
  have Hb := hide hb
  have HPL := hide (fun n (hn : n < D.np) => h.plen _ (lt_mul hb hn))
  obtain ⟨R, hR⟩ : ∃ R, R = blankF D b D.np := ⟨_, rfl⟩
  rw [← hR]
  have HR := hide hR
  clear h hB hd hb hg hs hR
  go_enter Try.func18, Try.ntmps18
  go_wp2_with fail
  (with_reducible refine F.out.mono ?_)
  rintro e w1 ⟨rfl, hb⟩
  have HB1 := hide hb
  clear hb F
  go_wp2
  go_loopw [5, 6, 7, 13] (fun _ _ _ i wr => ∃ n, n ≤ D.np ∧ i = .int .i64 (n : Int) ∧ Hid (blankF D b n = true) ∧ Hid (Below w.heap.size w wr)) (fun _ _ _ i _ => D.np - (intOf i).toNat)
  case atStart => exact ⟨0, Nat.zero_le _, rfl, hide rfl, HB1⟩
  case round =>
    obtain ⟨n, hn, rfl, HF, HW⟩ := hrel
    clear HB1
    by_cases hlt : n < D.np
    · have hlt' : (n : Int) < (D.np : Int) := by omega
      have e7 : wrap64 ((n : Int) + 1) = ((n + 1 : Nat) : Int) := by have := HS.out.2.2.2.1; unfold wrap64; omega
      have F := hide (read_ok (HD.out.below (HW.out.mono HBB.out)) (Nat.le_trans HBB.out HW.out.size) b n Hd.out Hb.out hlt)
      go_wp2_with fail
      (with_reducible refine F.out.mono ?_)
      rintro e w3 ⟨A, c, rfl, ho, hb⟩
      have HB3 := hide (HW.out.trans (hb.mono HW.out.size))
      have Fc := hide (pclass_any A 256 c w3.heap.size _ w3 (Lies.of_own ho) (HPL.out n hlt).symm (by obtain ⟨_, _, h1, h2, _⟩ := own_form ho; injection h1 with _ _ h3; omega) (Nat.le_refl _))
      have Hnx : Hid (blankF D b (n + 1) = decide (classN (D.pg (b * D.np + n)) = 0)) := hide (by show (blankF D b n && _) = _; rw [HF.out, Bool.true_and])
      clear ho hb F HW
      generalize classN (D.pg (b * D.np + n)) = cl at *
      by_cases h0 : cl = 0
      · subst h0
        have HF2 := hide (show blankF D b (n + 1) = true by rw [Hnx.out]; rfl)
        clear Hnx HF
        go_wp2_with fail
        (with_reducible refine Fc.out.mono ?_)
        rintro e w4 ⟨rfl, hb⟩
        have HB4 := hide (HB3.out.trans (hb.mono HB3.out.size))
        clear hb Fc HB3
        go_wp2
        go_roundw
        case rel => exact ⟨n + 1, hlt, congrArg (Value.int .i64) e7, HF2, HB4⟩
        case measure => first | exact measT hlt | exact measT2 e7 hlt
      · have hR2 : R = false := by rw [HR.out]; exact blankF_all D b (by rw [Hnx.out]; exact decide_eq_false h0) hlt
        have hc : ((cl : Int) != 0) = true := bne_iff_ne.2 (by omega)
        have HR2 := hide hR2
        clear Hnx HF h0 hR2
        go_wp2_with fail
        (with_reducible refine Fc.out.mono ?_)
        rintro e w4 ⟨rfl, hb⟩
        have HB4 := hide (HB3.out.trans (hb.mono HB3.out.size))
        clear hb Fc HB3
        go_wp2
        go_ret
        exact ⟨ret_bool HR2.out.symm, HB4.out⟩
    · obtain rfl : n = D.np := by omega
      have HR2 := hide (show R = true by rw [HR.out]; exact HF.out)
      clear HR HF
      go_wp2
      go_ret
      exact ⟨ret_bool HR2.out.symm, HW.out⟩
theorem sblank_any (h : DevAt w B0 B D k kb kp km) (hB : B ≤ w.heap.size) (z : Int) :
    Calls Try.prog 18 #[.pointer (some ⟨k, 0, none⟩), .int .i64 z] w fun e w' => e = .returned (.bool (D.blank z)) ∧ Below w.heap.size w w' := by
  unfold Dv.blank
  by_cases hd : D.dn = true
  · rw [hd, Bool.not_true, Bool.false_and, Bool.false_and]
    exact sblank_err h z 9 (by decide) fun W hW => read_down (h.below (hW.mono hB)) (Nat.le_trans hB hW.size) z 0 hd
  have hd2 : D.dn = false := by simpa using hd
  rw [hd2, Bool.not_false, Bool.true_and]
  by_cases hz : 0 ≤ z ∧ z < (D.nb : Int)
  · rw [decide_eq_true hz, Bool.true_and]
    obtain ⟨b, rfl⟩ := Int.eq_ofNat_of_zero_le hz.1
    rw [Int.toNat_natCast]
    exact sblank_on h hB hd2 b (by omega)
  · rw [decide_eq_false hz, Bool.false_and]
    refine sblank_err h z 3 (by decide) fun W hW => read_out (h.below (hW.mono hB)) (Nat.le_trans hB hW.size) z 0 hd2 ?_
    have hs := h.sides
    unfold Gm.Has
    rw [hs.2.2.2.2.1, hs.2.2.2.2.2]
    omega
end

/-! ### Of -/
theorem felems : Elems Try.prog 34 48 9 72 := by
  obtain ⟨i0, hi, hz0, hz1, hz2⟩ := info_parts (show (Try.prog.info? 48).map (fun i => (i.zero, i.size, i.bytes)) = some (some (.agg #[.int .i64 0, .int .i64 0, .int .i64 0, .int .i64 0, .int .i64 0, .int .u64 0, .int .u64 0, .int .i64 0, .int .i64 0]), 9, 72) by kernel_rfl)
  exact ⟨Try.underlying34, ⟨i0, _, hi, hz0, hz1, hz2, rfl⟩, by decide⟩
theorem BoxF.range {f : Fd} {k : Nat} {w : World} (hx : BoxF f k w) : w.rangeAt k 0 f.cells := by
  intro j v hv
  rw [Nat.zero_add]
  exact hx.c j v hv
def ofBlock (l : List Fd) (z : Int) : List Fd := l.filter fun f => decide ((f.x : Int) = z)
/-- What Of keeps behind n of the finds. -/
structure OfS (w : World) (A : Option Addr) (l : List Fd) (z : Int) (n : Nat) (v : Value) (W : World) : Prop where
  own : W.ownsRow w.heap.size 48 9 v (ofBlock (l.take n) z).length (rowD (ofBlock (l.take n) z))
  below : Below w.heap.size w W
section
variable {w W W' w5 w6 : World} {A : Option Addr} {l : List Fd} {z : Int} {n : Nat} {v : Value}
theorem ofBlock_next (hn : n < l.length) : ofBlock (l.take (n + 1)) z = ofBlock (l.take n) z ++ (if (l[n].x : Int) = z then [l[n]] else []) := by
  unfold ofBlock
  rw [← List.take_append_getElem hn, List.filter_append]
  congr 1
  by_cases h : (l[n].x : Int) = z
  · rw [if_pos h, List.filter_cons_of_pos (by rw [decide_eq_true h])]; rfl
  · rw [if_neg h, List.filter_cons_of_neg (by rw [decide_eq_false h]; decide)]; rfl
theorem OfS.later (h : OfS w A l z n v W) (hb : Below W.heap.size W W') : OfS w A l z n v W' :=
  ⟨own_keepT h.own hb, h.below.trans (hb.mono h.below.size)⟩
theorem OfS.more (h : OfS w A l z n v W) (hb : Below W.heap.size W w5) (hn : n < l.length) (hz : (l[n].x : Int) = z) {A2 : Option Addr} {c : Nat} (hown : w6.ownsRow w.heap.size 48 9 (.slice A2 ((ofBlock (l.take n) z).length + 1) c) ((ofBlock (l.take n) z).length + 1) (rowD (ofBlock (l.take n) z) ++ l[n].cells)) (hg : w5.grownBy w6 v.ownBlock) :
    OfS w A l z (n + 1) (.slice A2 (ofBlock (l.take (n + 1)) z).length c) w6 := by
  have h2 := h.later hb
  have hlow := own_lowS h.own
  have e : ofBlock (l.take (n + 1)) z = ofBlock (l.take n) z ++ [l[n]] := by rw [ofBlock_next hn, if_pos hz]
  refine ⟨?_, h2.below.grown hg h2.below.size (fun q e => (hlow q e).1)⟩
  rw [e, rowD_app, List.length_append]
  exact hown
end
set_option maxHeartbeats 4000000 in
theorem sof_any (A : Option Addr) (n0 c0 : Nat) (l : List Fd) (z : Int) (w : World) (hl : Lies w w.heap.size A (rowD l)) (hn0 : n0 = l.length) (hbig : n0 ≤ 2000) :
    Calls Try.prog 19 #[.slice A n0 c0, .int .i64 z] w fun e w' => ∃ A' c', e = .returned (.slice A' (ofBlock l z).length c') ∧ w'.ownsRow w.heap.size 48 9 (.slice A' (ofBlock l z).length c') (ofBlock l z).length (rowD (ofBlock l z)) ∧ Below w.heap.size w w' := by
  have HL := hide hl
  have Hn0 := hide hn0
  have Hbig := hide hbig
  have S0 : Hid (OfS w A l z 0 (.slice none 0 0) w) := hide ⟨World.ownsRow_nil _ _ _ _, Below.refl _ _⟩
  clear hl hn0 hbig
  go_enter Try.func19, Try.ntmps19
  go_wp2
  go_loopw [5, 7, 10] (fun v _ i wr => ∃ (n : Nat) (A2 : Option Addr) (c : Nat), n ≤ n0 ∧ v = .slice A2 (ofBlock (l.take n) z).length c ∧ i = .int .i64 (n : Int) ∧ Hid (OfS w A l z n (.slice A2 (ofBlock (l.take n) z).length c) wr)) (fun _ _ i _ => n0 - (intOf i).toNat)
  case atStart => exact ⟨0, none, 0, Nat.zero_le _, rfl, rfl, S0⟩
  case round =>
    obtain ⟨n, A2, c, hn, rfl, rfl, HT⟩ := hrel
    clear S0
    by_cases hlt : n < n0
    · have hlt' : (n : Int) < (n0 : Int) := by omega
      have e7 : wrap64 ((n : Int) + 1) = ((n + 1 : Nat) : Int) := by have := Hbig.out; unfold wrap64; omega
      have hnl : n < l.length := by rw [← Hn0.out]; exact hlt
      have Hnl := hide hnl
      have Hlen := hide (show (ofBlock (l.take n) z).length ≤ 2000 from Nat.le_trans (List.length_filter_le _ _) (by rw [List.length_take]; have := Hbig.out; omega))
      obtain ⟨ad, rfl, hab, hca⟩ := (HL.out.below HT.out.below).elem Fd.cells_len hnl (by decide)
      have Hnx := hide (ofBlock_next (z := z) hnl)
      have Hm := hide (fun (hz : (l[n].x : Int) = z) w5 (hb : Below wr.heap.size wr w5) A3 c3 w6 => HT.out.more hb hnl hz (w6 := w6) (A2 := A3) (c := c3))
      generalize l[n] = f at *
      clear hnl
      rcases f with ⟨fx, fy, ⟨kd, ix, ct, bt, op, lp, ln⟩⟩
      have HA4 := hide ((Below.refl wr.heap.size wr).alloc (Nat.le_refl _) (.cells (Fd.cells ⟨fx, fy, ⟨kd, ix, ct, bt, op, lp, ln⟩⟩).toArray 48))
      have HX4 := hide (BoxF.new ⟨fx, fy, ⟨kd, ix, ct, bt, op, lp, ln⟩⟩ wr)
      have Hca := hide hca
      clear hca
      unfold Fd.cells at *
      dsimp only at *
      go_upto_region 5 with (with_reducible refine wpl_load_addr rfl 48 (.tmp 12) rfl (ad.add (n * 9)) _ Hca.out rfl _ Try.underlying48 rfl 9 infoFd rfl ?_)
      generalize wr.alloc (.cells #[.int .i64 (fx : Int), .int .i64 (fy : Int), .int .i64 kd, .int .i64 ix, .int .i64 ct, .int .u64 (bt : Int), .int .u64 (op : Int), .int .i64 lp, .int .i64 ln] 48) = w4 at *
      have x0 := HX4.out.c 0 _ rfl
      by_cases hz : (fx : Int) = z
      · subst hz
        have HR : Hid (w4.rangeAt wr.heap.size 0 [.int .i64 (fx : Int), .int .i64 (fy : Int), .int .i64 kd, .int .i64 ix, .int .i64 ct, .int .u64 (bt : Int), .int .u64 (op : Int), .int .i64 lp, .int .i64 ln]) := hide HX4.out.range
        have HA5 := hide (HA4.out.trans (((Below.refl w4.heap.size w4).alloc (Nat.le_refl _) (.cells #[.int .i64 (fx : Int), .int .i64 (fy : Int), .int .i64 kd, .int .i64 ix, .int .i64 ct, .int .u64 (bt : Int), .int .u64 (op : Int), .int .i64 lp, .int .i64 ln] 48)).mono HA4.out.size))
        have Hsz := hide HA4.out.size
        have Hq := hide (show (ofBlock (l.take n) (fx : Int)).length + 1 = (ofBlock (l.take (n + 1)) (fx : Int)).length by rw [Hnx.out, if_pos rfl, List.length_append]; rfl)
        have Hm2 := hide (Hm.out rfl)
        clear Hm Hnx
        go_wp2_with (first
          | (with_reducible refine wpl_load_mid rfl 48 (.tmp 7) rfl wr.heap.size 0 _ HR.out rfl _ Try.underlying48 rfl 9 infoFd (by with_unfolding_all rfl) ?_)
          | (at_builtin; refine wpl_app _ rfl felems (.tmp 19) (.tmp 21) rfl w.heap.size _ (ofBlock (l.take n) (fx : Int)).length (rowD (ofBlock (l.take n) (fx : Int))) rfl (own_keepT HT.out.own (HA5.out)) (w4.heap.size + 1) (some ⟨w4.heap.size, 0, none⟩) 1 1 _ rfl (by rfl) (Lies.new w4 _ _ _ _ (Nat.lt_succ_self _)) (by simp [Value.oneCell']) (by have := Hlen.out; unfold maxLen; omega) (by have := Hlen.out; omega) (Nat.le_trans HT.out.below.size HA5.out.size) ?_; intro A3 c3 w5 hown hg hat; have HT5 := hide (Hm2.out _ HA5.out A3 c3 w5 hown hg); clear hown hg hat))
        go_wp2
        go_roundw
        case rel => exact ⟨n + 1, A3, c3, hlt, congrArg (fun q : Nat => Value.slice A3 q c3) Hq.out, congrArg (Value.int .i64) e7, HT5⟩
        case measure => first | exact measT hlt | exact measT2 e7 hlt
      · have HT4 := hide (show OfS w (some ad) l z (n + 1) (.slice A2 (ofBlock (l.take n) z).length c) w4 from by
          have h2 := HT.out.later HA4.out
          refine ⟨?_, h2.below⟩
          rw [Hnx.out, if_neg hz, List.append_nil]
          exact h2.own)
        have Hq := hide (show (ofBlock (l.take n) z).length = (ofBlock (l.take (n + 1)) z).length by rw [Hnx.out, if_neg hz, List.append_nil])
        have hb0 : ((fx : Int) == z) = false := beq_eq_false_iff_ne.2 hz
        clear hz Hnx Hm HT
        go_wp2
        go_roundw
        case rel => exact ⟨n + 1, A2, c, hlt, congrArg (fun q : Nat => Value.slice A2 q c) Hq.out, congrArg (Value.int .i64) e7, hide (by rw [← Hq.out]; exact HT4.out)⟩
        case measure => first | exact measT hlt | exact measT2 e7 hlt
    · obtain rfl : n = n0 := by omega
      have e : l.take n = l := List.take_of_length_le (by rw [← Hn0.out]; exact Nat.le_refl _)
      have ho := HT.out.own
      have hb := HT.out.below
      rw [e] at ho
      rw [e]
      have HO := hide ho
      have HB := hide hb
      clear HT e ho hb
      go_wp2
      go_ret
      exact ⟨A2, c, rfl, HO.out, HB.out⟩
end Go.Proofs.Ytahipfmokbiklaa
