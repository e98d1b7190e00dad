/-
  LAYER 21, CONTRACTS: Play.
-/
import Derived.Test.YtpepifbdndcbjaaWrU
import Derived.Test.YtpepifbdndcbjaaWrH
namespace Go.Proofs.Ytpepifbdndcbjaa
open Go.RowKit
set_option maxRecDepth 8000

/-- A world with a row of n noughts more. -/
def mkW (n : Nat) (w : World) : World := w.alloc (.cells (madeCells (Value.int .i64 0).cells (n * 1)) 3)
theorem mkW_run (n : Nat) (hn : n ≤ 2000) (w : World) : (Instr.makeSlice 22 (.int .i64 (n : Int)) (.int .i64 (n : Int))).run Try.prog w = .ok (.slice (some ⟨w.heap.size, 0, none⟩) n n) (mkW n w) := by
  obtain ⟨i0, hi, hz0, hz1, hz2⟩ := info_parts info21
  have hr := run_make (P := Try.prog) w 22 3 i0 _ Try.underlying22 hi hz0 .i64 .i64 (n : Int) (n : Int) (by omega) (Int.le_refl _) (by rw [hz2]; omega) (by omega)
  rw [hz1] at hr
  simp only [Int.toNat_natCast] at hr
  exact hr
theorem mkW_own (n : Nat) (hn : n ≤ 2000) (w : World) {base : Nat} (hb : base ≤ w.heap.size) : (mkW n w).ownsRow base 3 1 (.slice (some ⟨w.heap.size, 0, none⟩) n n) n (nums .i64 (List.replicate n 0)) := by
  have := World.ownsRow_lit (base := base) (size := 1) (e := 3) w (madeCells #[Value.int .i64 0] (n * 1)) n hb (by simp [maxLen]; omega) (size_madeCells #[Value.int .i64 0] (n * 1))
  rw [made21] at this
  exact this
theorem mkW_below (n : Nat) (w : World) : Below w.heap.size w (mkW n w) := (Below.refl _ _).alloc (Nat.le_refl _) _
theorem mkW_size (n : Nat) (w : World) : (mkW n w).heap.size = w.heap.size + 1 := by simp [mkW]
theorem own_lt21 {W : World} {B n : Nat} {e1 : TypeId} {v : Value} {xs : List Value} (h1 : W.ownsRow B e1 1 v n xs) : ∀ q, v.ownBlock = some q → q < W.heap.size := by
  intro q hq
  rcases h1.2 with ⟨rfl, _⟩ | ⟨g, cap, cur, rfl, hB, hg, _⟩
  · simp [Value.ownBlock] at hq
  · simp only [Value.ownBlock, Option.some.injEq] at hq
    subst hq
    exact (Array.getElem?_eq_some_iff.1 hg).1
/-- Where Play stands: the blocks, the counts, two rows of its own. -/
structure PlS (w : World) (m : Nat) (A : Option Addr) (c g : Nat) (C : List Int) (W : World) : Prop where
  bl : W.ownsRow w.heap.size 3 1 (.slice A m c) m (nums .i64 (upZ m))
  cn : W.ownsRow w.heap.size 3 1 (.slice (some ⟨g, 0, none⟩) m m) m (nums .i64 C)
  ne : (Value.slice A m c).ownBlock ≠ some g
  low : w.heap.size ≤ g
  below : Below w.heap.size w W
section
variable {w W W' : World} {m : Nat} {A : Option Addr} {c g : Nat} {C C' : List Int}
theorem PlS.later (h : PlS w m A c g C W) (hb : Below W.heap.size W W') : PlS w m A c g C W' := ⟨own_keepT h.bl hb, own_keepT h.cn hb, h.ne, h.low, h.below.trans (hb.mono h.below.size)⟩
theorem PlS.erased (h : PlS w m A c g C W) (ho : W'.ownsRow w.heap.size 3 1 (.slice (some ⟨g, 0, none⟩) m m) m (nums .i64 C')) (hg : W.grownBy W' (some g)) : PlS w m A c g C' W' :=
  ⟨h.bl.kept hg (.inr h.ne), ho, h.ne, h.low, h.below.grown hg h.below.size (fun q hq => by injection hq with hq; rw [← hq]; exact h.low)⟩
theorem PlS.ahead {W0 W1 : World} (hm : m ≤ 2000) (hb : Below w.heap.size w W0) (ho : W1.ownsRow W0.heap.size 3 1 (.slice A m c) m (nums .i64 (upZ m))) (h1 : Below W0.heap.size W0 W1) : PlS w m A c W1.heap.size (List.replicate m 0) (mkW m W1) :=
  ⟨own_keepT (own_up ho hb.size) (mkW_below m W1), mkW_own m hm W1 (Nat.le_trans hb.size h1.size), fun e => absurd (own_lt21 ho _ e) (Nat.lt_irrefl _), Nat.le_trans hb.size h1.size, (hb.trans (h1.mono hb.size)).trans ((mkW_below m W1).mono (Nat.le_trans hb.size h1.size))⟩
theorem PlS.behind {W0 W1 : World} (hm : m ≤ 2000) (hb : Below w.heap.size w W0) (ho : W1.ownsRow (mkW m W0).heap.size 3 1 (.slice A m c) m (nums .i64 (upZ m))) (h1 : Below (mkW m W0).heap.size (mkW m W0) W1) : PlS w m A c W0.heap.size (List.replicate m 0) W1 :=
  ⟨own_up ho (Nat.le_trans hb.size (mkW_below m W0).size), own_keepT (mkW_own m hm W0 hb.size) h1, fun e => by have := own_at21 ho _ e; rw [mkW_size] at this; omega, hb.size, (hb.trans ((mkW_below m W0).mono hb.size)).trans (h1.mono (Nat.le_trans hb.size (mkW_below m W0).size))⟩
end
theorem up_least {C : List Int} {m : Nat} (hm : 1 ≤ m) (hc : C.length = m) (h0 : ∀ i, i < m → 0 ≤ C.getD i 0) : bstZ (ahL C) (upZ m) = ((lowZ C m : Nat) : Int) := by
  unfold bstZ
  rw [upZ_len, pick_low hc h0 (m - 1) (by omega), show m - 1 + 1 = m by omega]
theorem up_may {C : List Int} {m b : Nat} {g : Int} (hm : 1 ≤ m) (hb : b < m) (hc : C.length = m) (h0 : ∀ i, i < m → 0 ≤ C.getD i 0) : mayZ C (upZ m) (b : Int) g = decide (C.getD b 0 - C.getD (lowZ C m) 0 < max g 1) := by
  have hl : lowZ C m < m := by
    obtain ⟨k, rfl⟩ : ∃ k, m = k + 1 := ⟨m - 1, by omega⟩
    have := lowZ_lt C k
    omega
  unfold mayZ
  rw [up_least hm hc h0, decide_eq_true (upZ_mem (by omega) (by omega)), Bool.true_and, ofZ_at (by omega) (h0 _ hb), ofZ_at (by omega) (h0 _ hl)]
set_option maxHeartbeats 8000000 in
theorem play21 (m : Nat) (g : Int) (A : Option Addr) (n c : Nat) (l : List Int) (w : World) (hl : Lies w w.heap.size A (nums .i64 l)) (hn : n = l.length) (hm : 1 ≤ m) (hm2 : m ≤ 64) (hbig : n ≤ 60000) :
    Calls Try.prog 17 #[.int .i64 (m : Int), .int .i64 g, .slice A n c] w fun e w' => ∃ gb, e = .returned (.slice (some ⟨gb, 0, none⟩) m m) ∧ w'.ownsRow w.heap.size 3 1 (.slice (some ⟨gb, 0, none⟩) m m) m (nums .i64 (playZ (max g 1) m (List.replicate m 0) l)) ∧ Below w.heap.size w w' := by
  have hmk := mkW_run m (by omega)
  have F0 := hide (fun W => upTo21 m W (by omega))
  have HL := hide hl
  have Hn := hide hn
  have Hm := hide hm
  have Hm2 := hide hm2
  have Hbig := hide hbig
  have g1 : decide ((m : Int) < 1) = false := decide_eq_false (by omega)
  have g2 : decide (64 < (m : Int)) = false := decide_eq_false (by omega)
  obtain ⟨G, hG⟩ : ∃ G, max g 1 = G := ⟨_, rfl⟩
  have HG1 := hide (show 1 ≤ G by omega)
  have HG := hide hG
  rw [hG]
  clear hG
  clear hl hn hm hm2 hbig
  go_enter Try.func17, Try.ntmps17
  go_upto_region 3 with fail
  go_cut [7, 8] from 18 to 21 (fun a b wx => ∃ (A2 : Option Addr) (c2 gb : Nat), a = .slice A2 m c2 ∧ b = .slice (some ⟨gb, 0, none⟩) m m ∧ Hid (PlS w m A2 c2 gb (List.replicate m 0) wx))
  case first =>
    have Hd := hide ((Below.refl w.heap.size w).drew)
    go_region_with (go_at_call 25; refine (F0.out _).mono ?_; rintro e w4 ⟨A2, c2, rfl, ho, hb⟩; have HO := hide ho; have HB := hide hb; clear ho hb)
    all_goals
      go_wp2_with fail
      go_meet
      first
        | exact ⟨A2, c2, _, rfl, rfl, hide (PlS.ahead (Nat.le_trans Hm2.out (by decide)) Hd.out HO.out HB.out)⟩
        | exact ⟨A2, c2, _, rfl, rfl, hide (PlS.behind (W0 := w.drew) (Nat.le_trans Hm2.out (by decide)) Hd.out HO.out HB.out)⟩
  case rest =>
    obtain ⟨A2, c2, gb, rfl, rfl, HS⟩ := hcut
    clear F0 hmk
    go_wp2
    go_loopw [10, 11, 24] (fun _ _ i wr => ∃ j : Nat, j ≤ n ∧ i = .int .i64 (j : Int) ∧ Hid (PlS w m A2 c2 gb (playZ G m (List.replicate m 0) (l.take j)) wr)) (fun _ _ i _ => n - (intOf i).toNat)
    case atStart => exact ⟨0, Nat.zero_le _, rfl, HS⟩
    case round =>
      clear HS
      obtain ⟨j, hj, rfl, HS⟩ := hrel
      by_cases hlt : j < n
      · have hlt' : (j : Int) < (n : Int) := by omega
        have hjl : j < l.length := by rw [← Hn.out]; exact hlt
        have e7 : wrap64 ((j : Int) + 1) = ((j + 1 : Nat) : Int) := by have := Hbig.out; unfold wrap64; omega
        have HE := hide (playZ_ev HG1.out Hm.out (l.take j) _ 0 (Ev.start HG1.out))
        have Hnx := hide (playZ_take (g := G) (n := m) (c := List.replicate m 0) hjl)
        obtain ⟨a, rfl, hab, hca⟩ := (HL.out.below HS.out.below).num (i := j) hjl
        rw [List.length_take, Nat.min_eq_left (Nat.le_of_lt hjl), Nat.zero_add] at HE
        generalize playZ G m (List.replicate m 0) (l.take j) = C at *
        generalize l.getD j 0 = z at *
        have hmod := mod_code z m Hm.out
        have hb0 : 0 ≤ z % (m : Int) := Int.emod_nonneg z (by have := Hm.out; omega)
        have hb1 : z % (m : Int) < (m : Int) := Int.emod_lt_of_pos z (by have := Hm.out; omega)
        have ht1 : -(m : Int) < z.tmod (m : Int) := Int.lt_tmod_of_pos z (by have := Hm.out; omega)
        have ht2 : z.tmod (m : Int) < (m : Int) := Int.tmod_lt_of_pos z (by have := Hm.out; omega)
        obtain ⟨bn, hbn⟩ : ∃ bn : Nat, z % (m : Int) = (bn : Int) := ⟨(z % (m : Int)).toNat, by omega⟩
        rw [hbn] at hmod Hnx hb1
        rw [Int.toNat_natCast] at Hnx
        have hbm : bn < m := by omega
        have FM := hide (may21 A2 (some ⟨gb, 0, none⟩) m c2 m m (upZ m) C wr (bn : Int) g (Lies.of_own HS.out.bl) (Lies.of_own HS.out.cn) (upZ_len m).symm HE.out.len.symm (by have := Hm2.out; omega) (by have := Hm2.out; omega) (fun x hx => by
          obtain ⟨i, hi, rfl⟩ := List.getElem_of_mem hx
          have := HE.out.top i (by rw [← HE.out.len]; exact hi)
          rw [List.getD, List.getElem?_eq_getElem hi] at this
          have h2 := Hbig.out
          simp at this
          omega))
        have Hask : Hid (askZ G C m bn = if C.getD bn 0 - C.getD (lowZ C m) 0 < G then bn else lowZ C m) := hide rfl
        have Hlt := hide (askZ_lt (g := G) (c := C) hbm)
        rw [up_may Hm.out hbm HE.out.len HE.out.pos, HG.out] at FM
        have wt : wrap64 (z.tmod (m : Int) + (m : Int)) = z.tmod (m : Int) + (m : Int) := by have := Hm2.out; unfold wrap64; omega
        have Htop := hide (show C.getD (askZ G C m bn) 0 < 65535 by have := HE.out.top _ Hlt.out; have := Hbig.out; omega)
        have Hend := hide (show nums .i64 (incZ C (askZ G C m bn)) = nums .i64 (playZ G m (List.replicate m 0) (l.take (j + 1))) by rw [incZ_era Htop.out, Hnx.out])
        have FL := hide (fun W (hW : Below wr.heap.size wr W) => least21 A2 (some ⟨gb, 0, none⟩) m c2 m m (upZ m) C W (Lies.of_own (HS.out.later hW).bl) (Lies.of_own (HS.out.later hW).cn) (upZ_len m).symm HE.out.len.symm (by have := Hm2.out; omega) (by have := Hm2.out; omega))
        rw [up_least Hm.out HE.out.len HE.out.pos] at FL
        have FE := hide (fun W (hW : PlS w m A2 c2 gb C W) => erase21 gb m m (askZ G C m bn) w.heap.size C W hW.cn HE.out.len.symm Hlt.out (by have := Hm2.out; omega) (HE.out.pos _ Hlt.out))
        rw [Hend.out] at FE
        clear hab hjl hb0 hb1 hbn Hnx Htop Hend Hlt
        by_cases hask : C.getD bn 0 - C.getD (lowZ C m) 0 < G
        · have hq : askZ G C m bn = bn := by rw [Hask.out, if_pos hask]
          rw [hq] at FE
          rw [decide_eq_true hask] at FM
          clear hask Hask hq FL
          go_wp2_with fail
          (with_reducible refine FM.out.mono ?_); rintro e w2 ⟨rfl, hb⟩
          have HS2 := hide (HS.out.later hb)
          clear hb FM
          go_wp2_with fail
          (with_reducible refine (FE.out w2 HS2.out).mono ?_); rintro e w3 ⟨rfl, ho, hg⟩
          have HS3 := hide (HS2.out.erased ho hg)
          clear ho hg FE HS2 HS
          go_wp2
          go_roundw
          case rel => exact ⟨j + 1, hlt, congrArg (Value.int .i64) e7, HS3⟩
          case measure => first | exact measT hlt | exact measT2 e7 hlt
        · have hq : askZ G C m bn = lowZ C m := by rw [Hask.out, if_neg hask]
          rw [hq] at FE
          rw [decide_eq_false hask] at FM
          clear hask Hask hq
          go_wp2_with fail
          (with_reducible refine FM.out.mono ?_); rintro e w2 ⟨rfl, hb⟩
          have HS2 := hide (HS.out.later hb)
          have FL2 := hide (FL.out w2 hb)
          clear hb FM FL
          go_wp2_with fail
          (with_reducible refine FL2.out.mono ?_); rintro e w3 ⟨rfl, hb⟩
          have HS3 := hide (HS2.out.later hb)
          clear hb FL2 HS2
          go_wp2_with fail
          (with_reducible refine (FE.out w3 HS3.out).mono ?_); rintro e w4 ⟨rfl, ho, hg⟩
          have HS4 := hide (HS3.out.erased ho hg)
          clear ho hg FE HS3 HS
          go_wp2
          go_roundw
          case rel => exact ⟨j + 1, hlt, congrArg (Value.int .i64) e7, HS4⟩
          case measure => first | exact measT hlt | exact measT2 e7 hlt
      · obtain rfl : j = n := by omega
        have he : l.take j = l := List.take_of_length_le (by rw [← Hn.out]; exact Nat.le_refl _)
        rw [he] at HS
        clear he HL Hn
        go_wp2
        go_ret
        exact ⟨gb, rfl, HS.out.cn, HS.out.below⟩
theorem playNone21 (z g : Int) (v : Value) (w : World) (h : z < 1 ∨ 64 < z) :
    Calls Try.prog 17 #[.int .i64 z, .int .i64 g, v] w fun e w' => e = .returned (.slice none 0 0) ∧ w = w' := by
  by_cases h1 : z < 1
  · have g1 : decide (z < 1) = true := decide_eq_true h1
    clear h
    go_enter Try.func17, Try.ntmps17
    go_wp2
    go_ret
    exact ⟨rfl, rfl⟩
  · have g1 : decide (z < 1) = false := decide_eq_false h1
    have g2 : decide (64 < z) = true := decide_eq_true (by omega)
    clear h
    go_enter Try.func17, Try.ntmps17
    go_wp2
    go_ret
    exact ⟨rfl, rfl⟩
end Go.Proofs.Ytpepifbdndcbjaa
