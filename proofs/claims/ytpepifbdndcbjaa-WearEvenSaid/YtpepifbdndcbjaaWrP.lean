/-
  LAYER 21, THE REFERENCE: Play.
-/
import Derived.Test.YtpepifbdndcbjaaWrV
import Derived.Test.YtpepifbdndcbjaaLow
namespace Go.Proofs.Ytpepifbdndcbjaa
open Go.RowKit
set_option maxRecDepth 8000

theorem own_some21 {W : World} {B n c : Nat} {A : Option Addr} {e1 : TypeId} {xs : List Value} (h1 : W.ownsRow B e1 1 (.slice A n c) n xs) (h0 : 0 < n) : ∃ g, A = some ⟨g, 0, none⟩ ∧ B ≤ g := by
  rcases h1.2 with ⟨_, hn⟩ | ⟨g, cap, cur, hv, hB, _⟩
  · omega
  · injection hv with hA
    exact ⟨g, hA, hB⟩
set_option maxHeartbeats 8000000 in
theorem playR21 (m : Nat) (g : Int) (A : Option Addr) (n c : Nat) (l : List Int) (w : World) (hl : Lies w w.heap.size A (nums .i64 l)) (hn : n = l.length) (hm : 1 ≤ m) (hm2 : m ≤ 64) (hbig : n ≤ 60000) :
    Calls Try.prog 19 #[.int .i64 (m : Int), .int .i64 g, .slice A n c] w fun e w' => ∃ A2 c2, e = .returned (.slice A2 m c2) ∧ w'.ownsRow w.heap.size 3 1 (.slice A2 m c2) m (nums .i64 (playZ (max g 1) m (List.replicate m 0) l)) ∧ Below w.heap.size w w' := by
  have hmk := mkW_run m (by omega)
  have HL := hide hl
  have Hn := hide hn
  have Hm := hide hm
  have Hm2 := hide hm2
  have Hbig := hide hbig
  have FH := hide (fun W => high_any g 1 W)
  obtain ⟨G, hG⟩ : ∃ G, max g 1 = G := ⟨_, rfl⟩
  have HG1 := hide (show 1 ≤ G by omega)
  rw [hG] at FH ⊢
  have S0 := hide (mkW_own m (by omega) w (Nat.le_refl _))
  have B0 := hide (mkW_below m w)
  clear hG hl hn hm hm2 hbig
  go_enter Try.func19, Try.ntmps19
  go_wp2
  go_loopw [7, 8, 9, 10, 11, 12] (fun v i _ _ _ _ wr => ∃ (j : Nat) (A2 : Option Addr) (c2 : Nat), j ≤ n ∧ v = .slice A2 m c2 ∧ i = .int .i64 (j : Int) ∧ Hid (wr.ownsRow w.heap.size 3 1 (.slice A2 m c2) m (nums .i64 (playZ G m (List.replicate m 0) (l.take j)))) ∧ Hid (Below w.heap.size w wr)) (fun _ i _ _ _ _ _ => n - (intOf i).toNat)
  case atStart => exact ⟨0, _, _, Nat.zero_le _, rfl, rfl, S0, B0⟩
  case round =>
    clear S0 B0 hmk
    obtain ⟨j, A2, c2, hj, rfl, rfl, HO, HB⟩ := hrel
    by_cases hlt : j < n
    · have hlt' : (j : Int) < (n : Int) := by omega
      have hjl : j < l.length := by rw [← Hn.out]; exact hlt
      have e7 : wrap64 ((j : Int) + 1) = ((j + 1 : Nat) : Int) := by have := Hbig.out; unfold wrap64; omega
      have HE := hide (playZ_ev HG1.out Hm.out (l.take j) _ 0 (Ev.start HG1.out))
      have Hnx := hide (playZ_take (g := G) (n := m) (c := List.replicate m 0) hjl)
      obtain ⟨a, rfl, hab, hca⟩ := (HL.out.below HB.out).num (i := j) hjl
      rw [List.length_take, Nat.min_eq_left (Nat.le_of_lt hjl), Nat.zero_add] at HE
      generalize playZ G m (List.replicate m 0) (l.take j) = C at *
      generalize l.getD j 0 = z at *
      have hmod := mod_ref z m Hm.out
      have hb0 : 0 ≤ z % (m : Int) := Int.emod_nonneg z (by have := Hm.out; omega)
      have hb1 : z % (m : Int) < (m : Int) := Int.emod_lt_of_pos z (by have := Hm.out; omega)
      have ht1 : -(m : Int) < z.tmod (m : Int) := Int.lt_tmod_of_pos z (by have := Hm.out; omega)
      have ht2 : z.tmod (m : Int) < (m : Int) := Int.tmod_lt_of_pos z (by have := Hm.out; omega)
      obtain ⟨bn, hbn⟩ : ∃ bn : Nat, z % (m : Int) = (bn : Int) := ⟨(z % (m : Int)).toNat, by omega⟩
      rw [hbn] at hmod Hnx hb1
      rw [Int.toNat_natCast] at Hnx
      have hbm : bn < m := by omega
      have wt : wrap64 (z.tmod (m : Int) + (m : Int)) = z.tmod (m : Int) + (m : Int) := by have := Hm2.out; unfold wrap64; omega
      have Hask : Hid (askZ G C m bn = if C.getD bn 0 - C.getD (lowZ C m) 0 < G then bn else lowZ C m) := hide rfl
      have Hlt := hide (askZ_lt (g := G) (c := C) hbm)
      have HMod := hide hmod
      have Hbm := hide hbm
      have Hlt0 := hide hlt
      clear hab hjl hb0 hb1 hbn hmod hbm
      go_upto_if 28 with fail
      go_cut [9] from 28 to 31 (fun s wx => s = .int .i64 (bn : Int) ∧ wr = wx)
      case first =>
        have Hr1 := hide (fun h : z.tmod (m : Int) < 0 => show z.tmod (m : Int) + (m : Int) = (bn : Int) by have := HMod.out; rwa [if_pos h] at this)
        have Hr2 := hide (fun h : ¬ z.tmod (m : Int) < 0 => show z.tmod (m : Int) = (bn : Int) by have := HMod.out; rwa [if_neg h] at this)
        have Wt := hide wt
        clear wt
        go_wp2_with fail
        all_goals
          go_meet
          first
            | exact ⟨congrArg (Value.int .i64) (Wt.out.trans (Hr1.out (by omega))), rfl⟩
            | exact ⟨congrArg (Value.int .i64) (Hr2.out (by omega)), rfl⟩
      case rest =>
        obtain ⟨rfl, rfl⟩ := hcut
        clear wt ht1 ht2 HMod
        obtain ⟨W0, rfl⟩ : ∃ W0, W0 = wr := ⟨wr, rfl⟩
        have HX := hide (Lies.of_own HO.out)
        obtain ⟨aC, rfl, _, _⟩ := HX.out.num (i := 0) (by rw [HE.out.len]; exact Hm.out)
        go_wp2
        go_loopw [10, 11] (fun le k wx => ∃ q : Nat, q ≤ m ∧ le = .int .i64 (lowZ C q : Nat) ∧ k = .int .i64 (q : Int) ∧ Hid (Below W0.heap.size W0 wx)) (fun _ k _ => m - (intOf k).toNat)
        case atStart => exact ⟨0, Nat.zero_le _, rfl, rfl, hide (Below.refl _ _)⟩
        case round =>
          obtain ⟨q, hq, rfl, rfl, HBq⟩ := hrel
          have HX2 := hide (HX.out.below HBq.out)
          by_cases hqm : q < m
          · have hqm' : (q : Int) < (m : Int) := by omega
            have e8 : wrap64 ((q : Int) + 1) = ((q + 1 : Nat) : Int) := by have := Hm2.out; unfold wrap64; omega
            have hlow : lowZ C q < m := by
              cases q with
              | zero => exact Hm.out
              | succ q => have := lowZ_lt C q; omega
            obtain ⟨a2, ha2, _, hc1⟩ := HX2.out.num (i := q) (by rw [HE.out.len]; exact hqm)
            obtain rfl : aC = a2 := by injection ha2
            obtain ⟨a3, ha3, _, hc2⟩ := HX2.out.num (i := lowZ C q) (by rw [HE.out.len]; exact hlow)
            obtain rfl : aC = a3 := by injection ha3
            have Hlw : Hid (lowZ C (q + 1) = if C.getD q 0 < C.getD (lowZ C q) 0 then q else lowZ C q) := hide rfl
            have hlow' : ((lowZ C q : Nat) : Int) < (m : Int) := by omega
            have hlow0 : (0 : Int) ≤ ((lowZ C q : Nat) : Int) := by omega
            clear hlow ha2 ha3 hq
            generalize C.getD q 0 = u at *
            generalize C.getD (lowZ C q) 0 = v at *
            generalize lowZ C q = le at *
            have Hqm := hide hqm
            by_cases hc : u < v
            · have gu : decide (u < v) = true := decide_eq_true hc
              have Hl2 := hide (show lowZ C (q + 1) = q by rw [Hlw.out, if_pos hc])
              clear hc Hlw hqm
              go_upto_region 12 with fail
              go_quiet (fail)
              go_wp2
              go_roundw
              case rel => exact ⟨q + 1, Hqm.out, congrArg (fun i : Nat => Value.int .i64 (i : Int)) Hl2.out.symm, congrArg (Value.int .i64) e8, hide (bel_drewN HBq.out _)⟩
              case measure => first | exact measT Hqm.out | exact measT2 e8 Hqm.out
            · have gu : decide (u < v) = false := decide_eq_false hc
              have Hl2 := hide (show lowZ C (q + 1) = le by rw [Hlw.out, if_neg hc])
              clear hc Hlw hqm
              go_upto_region 12 with fail
              go_quiet (fail)
              go_wp2
              go_roundw
              case rel => exact ⟨q + 1, Hqm.out, congrArg (fun i : Nat => Value.int .i64 (i : Int)) Hl2.out.symm, congrArg (Value.int .i64) e8, hide (bel_drewN HBq.out _)⟩
              case measure => first | exact measT Hqm.out | exact measT2 e8 Hqm.out
          · obtain rfl : q = m := by omega
            have hlow : lowZ C q < q := by
              have := Hm.out
              obtain ⟨k, rfl⟩ : ∃ k, q = k + 1 := ⟨q - 1, by omega⟩
              have := lowZ_lt C k
              omega
            obtain ⟨a2, ha2, _, hc1⟩ := HX2.out.num (i := bn) (by rw [HE.out.len]; exact Hbm.out)
            obtain rfl : aC = a2 := by injection ha2
            obtain ⟨a3, ha3, _, hc2⟩ := HX2.out.num (i := lowZ C q) (by rw [HE.out.len]; exact hlow)
            obtain rfl : aC = a3 := by injection ha3
            have FH5 : ∀ k, Calls Try.prog 16 #[.int .i64 g, .int .i64 1] (wr.drewN k) fun e w' => e = .returned (.int .i64 G) ∧ w' = wr.drewN k := fun k => (FH.out (wr.drewN k)).mono fun e w' ⟨h1, h2⟩ => ⟨h1, h2.symm⟩
            have HXd := hide (show ∀ k, Lies (wr.drewN k) (wr.drewN k).heap.size (some aC) (nums .i64 C) from fun k => HX2.out.up HBq.out.size)
            have hBd := fun k => bel_drewN (HB.out.trans (HBq.out.mono HB.out.size)) k
            have HBd := hide hBd
            have wd : wrap64 (C.getD bn 0 - C.getD (lowZ C q) 0) = C.getD bn 0 - C.getD (lowZ C q) 0 := by
              have h1 := HE.out.top bn Hbm.out
              have h2 := HE.out.pos bn Hbm.out
              have h3 := HE.out.top _ hlow
              have h4 := HE.out.pos _ hlow
              have h5 := Hbig.out
              unfold wrap64
              omega
            have hlow' : ((lowZ C q : Nat) : Int) < (q : Int) := by omega
            have hbm' : (bn : Int) < (q : Int) := by have := Hbm.out; omega
            have hlow0 : (0 : Int) ≤ ((lowZ C q : Nat) : Int) := by omega
            have hbn0 : (0 : Int) ≤ (bn : Int) := by omega
            have Hyes := hide (fun h : G ≤ C.getD bn 0 - C.getD (lowZ C q) 0 => show lowZ C q = askZ G C q bn by rw [Hask.out, if_neg (by omega)])
            have Hno := hide (fun h : ¬ G ≤ C.getD bn 0 - C.getD (lowZ C q) 0 => show bn = askZ G C q bn by rw [Hask.out, if_pos (by omega)])
            clear hlow ha2 ha3 hq hqm hBd
            generalize C.getD bn 0 = u at *
            generalize C.getD (lowZ C q) 0 = v at *
            generalize lowZ C q = le at *
            go_upto_region 14 with fail
            go_quiet (first | (go_at_call 16; exact Calls.quiet_of_same (FH5 _)))
            have HX3 := hide (HXd.out nq)
            have HB3 := hide (HBd.out nq)
            clear HXd HBd FH5 hc1 hc2 HX2 HX HB HBq HO
            generalize wr.drewN nq = w5 at *
            go_upto_if 58 with fail
            go_cut [9] from 47 to 59 (fun s wx => s = .int .i64 ((askZ G C q bn : Nat) : Int) ∧ w5 = wx)
            case first =>
              go_wp2_with fail
              all_goals
                go_meet
                first
                  | exact ⟨congrArg (fun i : Nat => Value.int .i64 (i : Int)) (Hyes.out (by omega)), rfl⟩
                  | exact ⟨congrArg (fun i : Nat => Value.int .i64 (i : Int)) (Hno.out (by omega)), rfl⟩
            case rest =>
              obtain ⟨rfl, rfl⟩ := hcut
              have Hjn := hide (HE.out.pos _ Hlt.out)
              have Hjt := hide (HE.out.top _ Hlt.out)
              have HEr : Hid (eraZ C (askZ G C q bn) = C.set (askZ G C q bn) (C.getD (askZ G C q bn) 0 + 1)) := hide rfl
              rw [HEr.out] at Hnx
              clear Hyes Hno Hask wd hlow' hbm' hlow0 hbn0 HEr Hbm
              generalize askZ G C q bn = jj at *
              have hjj' : (jj : Int) < (q : Int) := by have := Hlt.out; omega
              have hjj0 : (0 : Int) ≤ (jj : Int) := by omega
              have HA5 := hide ((Below.refl w5.heap.size w5).alloc (Nat.le_refl _) (.cells #[] 3))
              have HO5 := hide (World.ownsRow_lit (base := w.heap.size) (size := 1) (e := 3) w5 #[] 0 HB3.out.size (by simp [maxLen]) rfl)
              go_wp2_with (at_builtin; refine wpl_app _ rfl elems21 (.tmp 60) (.tmp 61) rfl w.heap.size (.slice (some ⟨w5.heap.size, 0, none⟩) 0 0) 0 [] rfl HO5.out w5.heap.size (some aC) q c2 (nums .i64 C) rfl (by rw [nums_len, Nat.mul_one]; exact HE.out.len) (HX3.out.below HA5.out) (nums_one _ _) (by have := Hm2.out; unfold maxLen; omega) (by have := Hm2.out; omega) (Nat.le_trans HB3.out.size HA5.out.size) ?_; intro A3 c3 w6 hown hg hat; clear hat; rw [Nat.zero_add, List.nil_append] at hown; have HB6 := hide ((HB3.out.trans (HA5.out.mono HB3.out.size)).grown hg (Nat.le_trans HB3.out.size HA5.out.size) (own_at21 HO5.out)); clear hg; obtain ⟨gd, hgd, hgB⟩ := own_some21 hown Hm.out; subst hgd; have hcell := hown.cellAt jj (by have := Hlt.out; omega); rw [nums_at .i64 C jj (by rw [HE.out.len]; exact Hlt.out)] at hcell; have hfr := hown.frozenAt jj; have HST := hide (hown.stored jj (.int .i64 (C.getD jj 0 + 1))); rw [nums_set, ← Hnx.out] at HST; have hwi : wrap64 (C.getD jj 0 + 1) = C.getD jj 0 + 1 := (by have := Hjn.out; have := Hjt.out; have := Hbig.out; unfold wrap64; omega); have HGB := hide hgB; clear hown hgB Hnx; generalize C.getD jj 0 = x at *)
              go_wp2
              go_roundw
              case rel => exact ⟨j + 1, some ⟨gd, 0, none⟩, c3, Hlt0.out, rfl, congrArg (Value.int .i64) e7, hide HST.out.1, hide (HB6.out.grown HST.out.2 HB6.out.size (fun r hr => by injection hr with hr; rw [← hr]; exact HGB.out))⟩
              case measure => first | exact measT Hlt0.out | exact measT2 e7 Hlt0.out
    · obtain rfl : j = n := by omega
      have he : l.take j = l := List.take_of_length_le (by rw [← Hn.out]; exact Nat.le_refl _)
      rw [he] at HO
      clear he HL Hn
      go_wp2
      go_ret
      exact ⟨_, _, rfl, HO.out, HB.out⟩
end Go.Proofs.Ytpepifbdndcbjaa
