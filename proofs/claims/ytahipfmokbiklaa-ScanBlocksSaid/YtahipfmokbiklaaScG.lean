/-
  LAYER 18, CONTRACTS of package scan: All.
-/
import Derived.Test.YtahipfmokbiklaaScF
import Derived.WalkMore
import Derived.Deep.LoopGhost
namespace Go.Proofs.Ytahipfmokbiklaa
open Go.RowKit
set_option maxRecDepth 8000

theorem getR_ok {b : List UInt8} (h : (getR b).2.2 = 0) : rightB b = true ∧ (getR b).1 = headOf b := by
  unfold getR at h ⊢
  by_cases h0 : classN b = 0
  · rw [if_pos h0] at h; cases h
  by_cases h1 : classN b = 1
  · rw [if_neg h0, if_pos h1]; exact ⟨(class_one b).1 h1, rfl⟩
  · rw [if_neg h0, if_neg h1] at h; cases h
theorem getR_no {b : List UInt8} (h : (getR b).2.2 ≠ 0) : rightB b = false := by
  cases hr : rightB b with
  | false => rfl
  | true =>
    have h1 := (class_one b).2 hr
    unfold getR at h
    rw [h1] at h
    exact absurd rfl h
theorem findR_cases (D : Dv) (a n : Nat) (hn : n < D.np) :
    (D.bad (a + 2) = true ∧ D.findR (a + 2) n = (zeroFd, 12)) ∨ (∃ f, D.findR (a + 2) n = (f, 0) ∧ findsF D (a * D.np + (n + 1)) = findsF D (a * D.np + n) ++ [f]) ∨
      (∃ er, (er = 6 ∨ er = 8) ∧ D.findR (a + 2) n = (zeroFd, er) ∧ findsF D (a * D.np + (n + 1)) = findsF D (a * D.np + n)) := by
  have hnx := findsF_next D (a := a) hn
  unfold Dv.findR
  generalize D.pg ((a + 2) * D.np + n) = p at *
  by_cases hb : D.bad (a + 2) = true
  · exact .inl ⟨hb, by rw [if_pos hb]⟩
  rw [if_neg hb]
  have hb2 : D.bad (a + 2) = false := by simpa using hb
  rw [hb2] at hnx
  by_cases he : (getR p).2.2 = 0
  · obtain ⟨h1, h2⟩ := getR_ok he
    rw [if_neg (not_not_intro he), h2]
    rw [h1] at hnx
    by_cases hk : (headOf p).kind = 1
    · rw [if_pos hk]
      refine .inr (.inr ⟨8, .inr rfl, rfl, ?_⟩)
      rw [hnx, if_neg, List.append_nil]
      rw [hk]
      decide
    · rw [if_neg hk]
      refine .inr (.inl ⟨_, rfl, ?_⟩)
      rw [hnx, if_pos]
      rw [decide_eq_true hk]
      rfl
  · rw [if_pos he]
    rw [getR_no he] at hnx
    refine .inr (.inr ⟨(getR p).2.2, ?_, rfl, ?_⟩)
    · rcases getR_err p with h | h | h
      · exact absurd h he
      · exact .inr h
      · exact .inl h
    · rw [hnx, Bool.false_and, Bool.false_and, if_neg (show ¬ false = true from Bool.false_ne_true), List.append_nil]

theorem all_nil (w : World) : Calls Try.prog 8 #[.pointer none] w fun e w' => e = .returned (.tuple #[.slice none 0 0, .int .i64 1]) ∧ w = w' := by
  go_enter Try.func8, Try.ntmps8
  go_wp2
  go_step3
  go_wp2
  try rw [Exit.noGoto_ret]
  go_ret2
  exact ⟨rfl, rfl⟩
/-- What All keeps behind n pages. -/
structure AllS (w : World) (D : Dv) (Z g ks N k B0 B kb kp km : Nat) (v : Value) (W : World) : Prop where
  dev : DevAt W B0 B D k kb kp km
  box : W.heap[g]? = some (.cells #[.pointer (some ⟨k, 0, none⟩)] 30 (0, 0))
  geo : Boxed D.g ks W
  lt : g < Z ∧ ks < Z ∧ B ≤ Z ∧ Z ≤ W.heap.size ∧ w.heap.size ≤ Z
  own : W.ownsRow Z 48 9 v (findsF D N).length (rowD (findsF D N))
  below : Below w.heap.size w W
section
variable {w W W' w5 w6 : World} {D : Dv} {Z g ks N N' k B0 B kb kp km : Nat} {v : Value}
theorem AllS.bigB (h : AllS w D Z g ks N k B0 B kb kp km v W) : B ≤ W.heap.size := Nat.le_trans h.lt.2.2.1 h.lt.2.2.2.1
theorem AllS.later (h : AllS w D Z g ks N k B0 B kb kp km v W) (hb : Below W.heap.size W W') : AllS w D Z g ks N k B0 B kb kp km v W' := by
  have hl := h.lt
  exact ⟨h.dev.below (hb.mono h.bigB), (hb.block g (by omega)).trans h.box, h.geo.below hb (by omega), ⟨hl.1, hl.2.1, hl.2.2.1, Nat.le_trans hl.2.2.2.1 hb.size, hl.2.2.2.2⟩, own_keepT h.own hb, h.below.trans (hb.mono h.below.size)⟩
theorem AllS.skip (h : AllS w D Z g ks N k B0 B kb kp km v W) (e : findsF D N' = findsF D N) : AllS w D Z g ks N' k B0 B kb kp km v W :=
  ⟨h.dev, h.box, h.geo, h.lt, by rw [e]; exact h.own, h.below⟩
theorem AllS.more (h : AllS w D Z g ks N k B0 B kb kp km v W) {f : Fd} (e : findsF D N' = findsF D N ++ [f]) {A : Option Addr} {c : Nat} (hown : w6.ownsRow Z 48 9 (.slice A ((findsF D N).length + 1) c) ((findsF D N).length + 1) (rowD (findsF D N) ++ f.cells)) (hb : Below W.heap.size W w5) (hg : w5.grownBy w6 v.ownBlock) :
    AllS w D Z g ks N' k B0 B kb kp km (.slice A (findsF D N').length c) w6 := by
  have h2 := h.later hb
  have hl := h2.lt
  have hlow := own_lowS h.own
  have hb6 : Below Z w5 w6 := (Below.refl Z w5).grown hg hl.2.2.2.1 (fun q e => (hlow q e).1)
  refine ⟨h2.dev.below (hb6.mono hl.2.2.1), (hb6.block g hl.1).trans h2.box, h2.geo.below hb6 hl.2.1, ⟨hl.1, hl.2.1, hl.2.2.1, Nat.le_trans hl.2.2.2.1 hb6.size, hl.2.2.2.2⟩, ?_, h2.below.trans (hb6.mono hl.2.2.2.2)⟩
  rw [e, rowD_app, List.length_append]
  exact hown
end
section
variable {w : World} {B0 B : Nat} {D : Dv} {k kb kp km : Nat}
theorem all_down (h : DevAt w B0 B D k kb kp km) (hd : D.dn = true) :
    Calls Try.prog 8 #[.pointer (some ⟨k, 0, none⟩)] w fun e w' => e = .returned (.tuple #[.slice none 0 0, .int .i64 9]) ∧ w = w' := by
  have F := hide (down_any h)
  rw [hd] at F
  clear h hd
  go_enter Try.func8, Try.ntmps8
  go_wp2
  go_step3
  go_wp2_with fail
  (with_reducible refine F.out.mono ?_)
  rintro e w1 ⟨rfl, rfl⟩
  go_wp2
  try rw [Exit.noGoto_ret]
  go_ret2
  exact ⟨rfl, rfl⟩
set_option maxHeartbeats 4000000 in
theorem all_any (h : DevAt w B0 B D k kb kp km) (hB : B ≤ w.heap.size) (hd : D.dn = false) :
    Calls Try.prog 8 #[.pointer (some ⟨k, 0, none⟩)] w fun e w' => ∃ A c, e = .returned (.tuple #[.slice A D.finds.length c, .int .i64 0]) ∧ w'.ownsRow w.heap.size 48 9 (.slice A D.finds.length c) D.finds.length (rowD D.finds) ∧ Below w.heap.size w w' := by
  have hs := h.sides
  have HS := hide hs
  have HBB := hide hB
  have Hd := hide hd
  have HD := hide h
  have hg : D.g.val = .agg #[.int .i64 D.g.b, .int .i64 D.g.p, .int .i64 D.g.r] := rfl
  have F := hide (down_any h)
  rw [hd] at F
  unfold Dv.finds
  clear h hB hd hs
  go_enter Try.func8, Try.ntmps8
  go_wp2
  go_step3
  go_wp2_with fail
  (with_reducible refine F.out.mono ?_)
  rintro e w1 ⟨rfl, rfl⟩
  clear F
  have F := hide (sides_any HD.out)
  rw [hg] at F
  go_wp2_with fail
  (with_reducible refine F.out.mono ?_)
  rintro e w1 ⟨rfl, hb⟩
  have HB1 := hide hb
  clear hb F hg
  go_wp2_with fail
  (with_reducible refine (finder_any _ _).mono ?_)
  rintro e w2 ⟨rfl, hw2⟩
  have HB2 := hide (show Below w1.heap.size w1 w2 by rw [hw2]; exact (Below.refl _ _).alloc (Nat.le_refl _) _)
  have HX2 := hide (show w2.heap[w1.heap.size]? = some (.cells #[.pointer (some ⟨k, 0, none⟩)] 30 (0, 0)) by rw [hw2]; exact heap_alloc_new w1 _)
  have HB3 := hide ((Below.refl w2.heap.size w2).alloc (Nat.le_refl _) (.cells #[.int .i64 D.g.b, .int .i64 D.g.p, .int .i64 D.g.r] 23))
  have HG3 : Hid (Boxed D.g w2.heap.size (w2.alloc (.cells #[.int .i64 D.g.b, .int .i64 D.g.p, .int .i64 D.g.r] 23))) := hide (Boxed.new D.g w2)
  have Hg2 := hide (show w1.heap.size < w2.heap.size by rw [hw2]; simp)
  clear hw2
  go_upto_region 6 with fail
  have S0 : Hid (AllS w D (w2.heap.size + 1) w1.heap.size w2.heap.size (0 * D.np) k B0 B kb kp km (.slice none 0 0) (w2.alloc (.cells #[.int .i64 D.g.b, .int .i64 D.g.p, .int .i64 D.g.r] 23))) := hide (by
    have h1 := HB1.out
    have h2 := HB2.out
    have h3 := HB3.out
    have s1 := h1.size
    have s2 := h2.size
    have hB := HBB.out
    refine ⟨((HD.out.below (h1.mono hB)).below (h2.mono (by omega))).below (h3.mono (by omega)), (h3.block _ Hg2.out).trans HX2.out, HG3.out, ⟨by have := Hg2.out; omega, by omega, by omega, by simp, by omega⟩, ?_, (h1.trans (h2.mono s1)).trans (h3.mono (by omega))⟩
    rw [show findsF D (0 * D.np) = [] by rw [Nat.zero_mul]; rfl]
    exact World.ownsRow_nil _ _ _ _)
  generalize w2.alloc (.cells #[.int .i64 D.g.b, .int .i64 D.g.p, .int .i64 D.g.r] 23) = w3 at *
  generalize w1.heap.size = g at *
  generalize w2.heap.size = ks at *
  clear HB1 HB2 HX2 HB3 HG3 Hg2 HD HBB
  go_wp2
  go_step3
  go_wp2
  obtain ⟨Z, hZ⟩ : ∃ Z, Z = ks + 1 := ⟨_, rfl⟩
  rw [← hZ] at S0
  clear hZ
  have e0 : findsF D (0 * D.np) = [] := by rw [Nat.zero_mul]; rfl
  have E0 := hide e0
  clear e0
  go_loopg [6, 7] (D.nb - 2) (fun g1 v bl wr => ∃ (a b : Nat) (A : Option Addr) (c : Nat), b = a + 2 ∧ b + g1 = D.nb ∧ v = .slice A (findsF D (a * D.np)).length c ∧ bl = .int .i64 (b : Int) ∧ Hid (AllS w D Z g ks (a * D.np) k B0 B kb kp km (.slice A (findsF D (a * D.np)).length c) wr))
  case atStart => exact ⟨0, 2, none, 0, rfl, by have := HS.out; omega, by rw [E0.out]; rfl, rfl, by rw [E0.out]; exact S0⟩
  case round =>
    obtain ⟨a, b, A, c, hab, hbg, rfl, rfl, HT⟩ := hrel
    clear S0 E0
    have k0 : wr.cell? ⟨ks, 0, none⟩ = some (.int .i64 (D.nb : Int)) := by rw [← HS.out.2.2.2.2.1]; exact HT.out.geo.b
    have k1 : wr.cell? ⟨ks, 1, none⟩ = some (.int .i64 (D.np : Int)) := by rw [← HS.out.2.2.2.2.2]; exact HT.out.geo.p
    have Hab := hide hab
    have Hbg := hide hbg
    cases gk with
    | zero =>
      obtain rfl : b = D.nb := by omega
      have HF := hide (show a = D.nb - 2 by omega)
      clear hab hbg
      go_wp2
      try rw [Exit.noGoto_ret]
      go_ret2
      have hT := HT.out
      rw [HF.out] at hT
      rw [HF.out]
      exact ⟨A, c, rfl, own_up hT.own hT.lt.2.2.2.2, hT.below⟩
    | succ g1 =>
      have hlt : (b : Int) < (D.nb : Int) := by omega
      have e7b : wrap64 ((b : Int) + 1) = ((b + 1 : Nat) : Int) := by have := HS.out.2.1; unfold wrap64; omega
      clear hab hbg
      go_wp2
      clear k0 k1
      go_loopg [6, 29] D.np (fun g2 v i wy => ∃ (n : Nat) (A : Option Addr) (c : Nat), n + g2 = D.np ∧ v = .slice A (findsF D (a * D.np + n)).length c ∧ i = .int .i64 (n : Int) ∧ Hid (AllS w D Z g ks (a * D.np + n) k B0 B kb kp km (.slice A (findsF D (a * D.np + n)).length c) wy))
      case atStart => exact ⟨0, A, c, Nat.zero_add _, rfl, rfl, HT⟩
      case round =>
        obtain ⟨n, A2, c2, hng, rfl, rfl, HU⟩ := hrel
        have Hng := hide hng
        cases gk with
        | zero =>
          obtain rfl : n = D.np := by omega
          have Hrw := hide (show (a + 1) * D.np = a * D.np + D.np by rw [Nat.add_mul, Nat.one_mul])
          clear hng
          go_wp2
          go_roundg g1
          case measure => omega
          case rel => exact ⟨a + 1, b + 1, A2, c2, by rw [Hab.out], by have := Hbg.out; omega, by rw [Hrw.out], congrArg (Value.int .i64) e7b, by rw [Hrw.out]; exact HU⟩
        | succ g2 =>
          have hn : n < D.np := by omega
          have hn' : (n : Int) < (D.np : Int) := by omega
          have e7 : wrap64 ((n : Int) + 1) = ((n + 1 : Nat) : Int) := by have := HS.out.2.2.2.1; unfold wrap64; omega
          have F := hide (find_any HU.out.dev HU.out.bigB Hd.out b n g (by have := HS.out; omega) hn HU.out.box)
          rw [show D.findR b n = D.findR (a + 2) n by rw [Hab.out]] at F
          rcases findR_cases D a n hn with ⟨hb, e⟩ | ⟨f, e, efs⟩ | ⟨er, her, e, efs⟩
          · rw [e] at F
            have F := hide (show Calls Try.prog 60 #[.agg #[.int .i64 (b : Int), .int .i64 (n : Int)], .pointer (some ⟨g, 0, none⟩)] wr fun e w' => e = .returned (.tuple #[.agg #[.int .i64 0, .int .i64 0, .int .i64 0, .int .i64 0, .int .i64 0, .int .u64 0, .int .u64 0, .int .i64 0, .int .i64 0], .int .i64 12]) ∧ Below wr.heap.size wr w' from F.out)
            have Hfs := hide (show findsF D ((a + 1) * D.np) = findsF D (a * D.np + n) by
              rw [findsF_bad D hb n (Nat.le_of_lt hn), Nat.add_mul, Nat.one_mul, findsF_bad D hb _ (Nat.le_refl _)])
            clear e hb hng
            go_wp2_with fail
            (with_reducible refine F.out.mono ?_)
            rintro e w4 ⟨rfl, hb⟩
            have HU4 := hide ((HU.out.later (hb.alloc hb.size (.cells #[.int .i64 0, .int .i64 0, .int .i64 0, .int .i64 0, .int .i64 0, .int .u64 0, .int .u64 0, .int .i64 0, .int .i64 0] 48))).skip (N' := (a + 1) * D.np) Hfs.out)
            clear hb F
            go_wp2
            go_roundg g1
            case measure => omega
            case rel => exact ⟨a + 1, b + 1, A2, c2, by rw [Hab.out], by have := Hbg.out; omega, by rw [Hfs.out], congrArg (Value.int .i64) e7b, by rw [Hfs.out]; exact HU4⟩
          · rw [e] at F
            rcases f with ⟨fx, fy, ⟨kd, ix, ct, bt, op, lp, ln⟩⟩
            have F := hide (show Calls Try.prog 60 #[.agg #[.int .i64 (b : Int), .int .i64 (n : Int)], .pointer (some ⟨g, 0, none⟩)] wr fun e w' => e = .returned (.tuple #[.agg #[.int .i64 (fx : Int), .int .i64 (fy : Int), .int .i64 kd, .int .i64 ix, .int .i64 ct, .int .u64 (bt : Int), .int .u64 (op : Int), .int .i64 lp, .int .i64 ln], .int .i64 0]) ∧ Below wr.heap.size wr w' from F.out)
            have Hlen := hide (show (findsF D (a * D.np + n)).length ≤ 2000 from Nat.le_trans (findsF_few _ _) (by
              have h1 := HS.out.2.1
              have h2 := HS.out.2.2.2.1
              have h3 := Nat.mul_le_mul (show a ≤ 32 by have := Hab.out; have := Hbg.out; omega) h2
              omega))
            have Hefs := hide efs
            clear e efs hng
            go_wp2_with fail
            (with_reducible refine F.out.mono ?_)
            rintro e w4 ⟨rfl, hb⟩
            have HA4 := hide (hb.alloc hb.size (.cells #[.int .i64 (fx : Int), .int .i64 (fy : Int), .int .i64 kd, .int .i64 ix, .int .i64 ct, .int .u64 (bt : Int), .int .u64 (op : Int), .int .i64 lp, .int .i64 ln] 48))
            have HR : Hid ((w4.alloc (.cells #[.int .i64 (fx : Int), .int .i64 (fy : Int), .int .i64 kd, .int .i64 ix, .int .i64 ct, .int .u64 (bt : Int), .int .u64 (op : Int), .int .i64 lp, .int .i64 ln] 48)).rangeAt w4.heap.size 0 [.int .i64 (fx : Int), .int .i64 (fy : Int), .int .i64 kd, .int .i64 ix, .int .i64 ct, .int .u64 (bt : Int), .int .u64 (op : Int), .int .i64 lp, .int .i64 ln]) := hide (BoxF.range (f := ⟨fx, fy, ⟨kd, ix, ct, bt, op, lp, ln⟩⟩) (heap_alloc_new w4 _))
            clear hb F
            go_upto_region 14 with fail
            generalize w4.alloc (.cells #[.int .i64 (fx : Int), .int .i64 (fy : Int), .int .i64 kd, .int .i64 ix, .int .i64 ct, .int .u64 (bt : Int), .int .u64 (op : Int), .int .i64 lp, .int .i64 ln] 48) = w5 at *
            generalize w4.heap.size = kx at *
            have HA5 := hide (HA4.out.trans (((Below.refl w5.heap.size w5).alloc (Nat.le_refl _) (.cells #[.int .i64 (fx : Int), .int .i64 (fy : Int), .int .i64 kd, .int .i64 ix, .int .i64 ct, .int .u64 (bt : Int), .int .u64 (op : Int), .int .i64 lp, .int .i64 ln] 48)).mono HA4.out.size))
            have Hsz := hide (show Z ≤ (w5.alloc (.cells #[.int .i64 (fx : Int), .int .i64 (fy : Int), .int .i64 kd, .int .i64 ix, .int .i64 ct, .int .u64 (bt : Int), .int .u64 (op : Int), .int .i64 lp, .int .i64 ln] 48)).heap.size from Nat.le_trans HU.out.lt.2.2.2.1 HA5.out.size)
            go_wp2_with (first
              | (with_reducible refine wpl_load_mid rfl 48 (.tmp 9) rfl kx 0 _ HR.out rfl _ Try.underlying48 rfl 9 infoFd (by with_unfolding_all rfl) ?_)
              | (at_builtin; refine wpl_app _ rfl felems (.tmp 43) (.tmp 45) rfl Z _ (findsF D (a * D.np + n)).length (rowD (findsF D (a * D.np + n))) rfl (own_keepT HU.out.own HA5.out) (w5.heap.size + 1) (some ⟨w5.heap.size, 0, none⟩) 1 1 _ rfl (by rfl) (Lies.new w5 _ _ _ _ (Nat.lt_succ_self _)) (by simp [Value.oneCell']) (by have := Hlen.out; unfold maxLen; omega) (by have := Hlen.out; omega) Hsz.out ?_; intro A3 c3 w6 hown hg hat; have HU6 := hide (HU.out.more (f := ⟨fx, fy, ⟨kd, ix, ct, bt, op, lp, ln⟩⟩) Hefs.out hown HA5.out hg); clear hown hg hat))
            go_wp2
            go_roundg g2
            case measure => omega
            case rel => exact ⟨n + 1, A3, c3, by have := Hng.out; omega, congrArg (fun q : Nat => Value.slice A3 q c3) (by rw [Hefs.out, List.length_append]; rfl), congrArg (Value.int .i64) e7, HU6⟩
          · rw [e] at F
            have Hefs := hide efs
            clear e efs hng
            rcases her with rfl | rfl
            all_goals
              have F : Hid (Calls Try.prog 60 #[.agg #[.int .i64 (b : Int), .int .i64 (n : Int)], .pointer (some ⟨g, 0, none⟩)] wr fun e w' => e = .returned (.tuple #[.agg #[.int .i64 0, .int .i64 0, .int .i64 0, .int .i64 0, .int .i64 0, .int .u64 0, .int .u64 0, .int .i64 0, .int .i64 0], .int .i64 _]) ∧ Below wr.heap.size wr w') := F
              go_wp2_with fail
              (with_reducible refine F.out.mono ?_)
              rintro e w4 ⟨rfl, hb⟩
              have HU4 := hide ((HU.out.later (hb.alloc hb.size (.cells #[.int .i64 0, .int .i64 0, .int .i64 0, .int .i64 0, .int .i64 0, .int .u64 0, .int .u64 0, .int .i64 0, .int .i64 0] 48))).skip Hefs.out)
              clear hb F
              go_wp2
              go_roundg g2
              case measure => omega
              case rel => exact ⟨n + 1, A2, c2, by have := Hng.out; omega, by rw [Hefs.out], congrArg (Value.int .i64) e7, by rw [Hefs.out]; exact HU4⟩
end
end Go.Proofs.Ytahipfmokbiklaa
