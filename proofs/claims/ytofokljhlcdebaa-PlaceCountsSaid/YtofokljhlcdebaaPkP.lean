/-
  LAYER 20, THE REFERENCE: Blocks. (By gen/PkP.gen.py.)
-/
import Derived.Test.YtofokljhlcdebaaPkC
import Derived.Test.YtofokljhlcdebaaSliL
namespace Go.Proofs.Ytofokljhlcdebaa
open Go.RowKit
set_option maxRecDepth 8000

theorem bo_sum {j m N : Nat} (h : j ≤ m) (hN : N = m) : j + 1 + (m - j) = N + 1 := by omega
theorem bo_nums {j m : Nat} (h : j ≤ m) (hm : m ≤ 2000) : j ≤ 2000 ∧ j + 1 ≤ 2001 ∧ j + 1 + (m - j) ≤ 2001 := by omega
theorem bo_gt {o x : Int} (h1 : ¬ o < x) (h2 : ¬ o = x) : x < o := by omega
theorem bo_bytes {n : Nat} (h : n ≤ 2001) : n * 8 ≤ 140737488355328 := by omega
theorem nums_takeP (l : List Int) (j : Nat) : nums .i64 (l.take j) = (nums .i64 l).take j := by unfold nums; rw [List.map_take]
theorem nums_dropP (l : List Int) (j : Nat) : nums .i64 (l.drop j) = (nums .i64 l).drop j := by unfold nums; rw [List.map_drop]
/-- What Blocks has found behind k of the places. -/
structure Bo (w0 : World) (L : List Pl2) (k : Nat) (O : List Int) (v : Value) (W : World) : Prop where
  own : W.ownsRow w0.heap.size 3 1 v O.length (nums .i64 O)
  bl : IsBl O (L.take k)
  len : O.length ≤ k
  below : Below w0.heap.size w0 W
theorem take_mem {L : List Pl2} {k : Nat} {x y : Int} (hx : L[k]? = some (x, y)) (z : Int) : z ∈ (L.take (k + 1)).map Prod.fst ↔ z ∈ (L.take k).map Prod.fst ∨ z = x := by
  obtain ⟨h, e⟩ := List.getElem?_eq_some_iff.1 hx
  rw [← List.take_append_getElem h, e, List.map_append, List.mem_append]
  simp
section
variable {w0 W W' : World} {L : List Pl2} {k : Nat} {O : List Int} {v : Value}
theorem Bo.later (h : Bo w0 L k O v W) (hb : Below W.heap.size W W') : Bo w0 L k O v W' := ⟨own_keepT h.own hb, h.bl, h.len, h.below.trans (hb.mono h.below.size)⟩
theorem Bo.skip {x y : Int} (h : Bo w0 L k O v W) (hx : L[k]? = some (x, y)) (hm : x ∈ O) : Bo w0 L (k + 1) O v W := by
  refine ⟨h.own, ⟨h.bl.1, fun z => ?_⟩, Nat.le_succ_of_le h.len, h.below⟩
  rw [take_mem hx, ← h.bl.2 z]
  constructor
  · exact .inl
  · rintro (h1 | rfl)
    · exact h1
    · exact hm
theorem Bo.more {W1 W2 W3 W4 W5 : World} {u1 u2 : Value} {A : Option Addr} {c j : Nat} {x y : Int} (h : Bo w0 L k O v W) (hx : L[k]? = some (x, y)) (hlo : ∀ t (ht : t < O.length), t < j → O[t] < x) (hhi : ∀ t (ht : t < O.length), j ≤ t → x < O[t]) (hj : j ≤ O.length)
    (hb1 : Below W.heap.size W W1) (hg2 : W1.grownBy W2 (some W.heap.size)) (hb3 : Below W2.heap.size W2 W3) (hu1 : ∀ g, u1.ownBlock = some g → W.heap.size ≤ g) (hg4 : W3.grownBy W4 u1.ownBlock)
    (hu2 : ∀ g, u2.ownBlock = some g → W.heap.size ≤ g) (hg5 : W4.grownBy W5 u2.ownBlock)
    (hown : W5.ownsRow W.heap.size 3 1 (.slice A (O.length + 1) c) (O.length + 1) (nums .i64 (O.take j) ++ [.int .i64 x] ++ nums .i64 (O.drop j))) :
    Bo w0 L (k + 1) (O.take j ++ [x] ++ O.drop j) (.slice A (O.length + 1) c) W5 := by
  have hs := h.below.size
  have b2 : Below W.heap.size W W2 := hb1.grown hg2 hb1.size (fun g e => by injection e with e; omega)
  have b4 : Below W.heap.size W W4 := (b2.trans (hb3.mono b2.size)).grown hg4 (Nat.le_trans b2.size hb3.size) hu1
  have b5 : Below W.heap.size W W5 := b4.grown hg5 b4.size hu2
  have hl : (O.take j ++ [x] ++ O.drop j).length = O.length + 1 := by simp; omega
  refine ⟨?_, ⟨?_, fun z => ?_⟩, by rw [hl]; exact Nat.succ_le_succ h.len, h.below.trans (b5.mono hs)⟩
  · rw [hl, show nums .i64 (O.take j ++ [x] ++ O.drop j) = nums .i64 (O.take j) ++ [.int .i64 x] ++ nums .i64 (O.drop j) by rw [nums_app, nums_app]; rfl]
    refine ⟨hown.1, ?_⟩
    rcases hown.2 with h0 | ⟨g, cap, cur, hv, hb, hr⟩
    · exact .inl h0
    · exact .inr ⟨g, cap, cur, hv, Nat.le_trans hs hb, hr⟩
  · have hp := h.bl.1
    rw [← List.take_append_drop j O, List.pairwise_append] at hp
    rw [List.append_assoc, List.pairwise_append]
    have hd : ∀ z ∈ O.drop j, x < z := fun z hz => by
      obtain ⟨t, ht, rfl⟩ := List.getElem_of_mem hz
      rw [List.getElem_drop]
      exact hhi _ _ (Nat.le_add_right _ _)
    have htk : ∀ z ∈ O.take j, z < x := fun z hz => by
      obtain ⟨t, ht, rfl⟩ := List.getElem_of_mem hz
      rw [List.getElem_take]
      rw [List.length_take] at ht
      exact hlo _ _ (by omega)
    refine ⟨hp.1, ?_, fun z hz z' hz' => ?_⟩
    · rw [List.singleton_append, List.pairwise_cons]
      exact ⟨hd, hp.2.1⟩
    · rcases List.mem_append.1 hz' with h1 | h1
      · rw [List.mem_singleton] at h1; exact h1 ▸ htk z hz
      · exact hp.2.2 z hz z' h1
  · rw [take_mem hx, ← h.bl.2 z]
    have e : z ∈ O ↔ z ∈ O.take j ∨ z ∈ O.drop j := by rw [← List.mem_append, List.take_append_drop]
    rw [e, List.mem_append, List.mem_append, List.mem_singleton]
    constructor
    · rintro ((h1 | h1) | h1)
      · exact .inl (.inl h1)
      · exact .inr h1
      · exact .inl (.inr h1)
    · rintro ((h1 | h1) | h1)
      · exact .inl (.inl h1)
      · exact .inr h1
      · exact .inl (.inr h1)
end
set_option maxHeartbeats 8000000 in
theorem blocks20_any (A : Option Addr) (n c : Nat) (L : List Pl2) (w : World) (hl : Lies w w.heap.size A (rowQ L)) (hn : n = L.length) (hbig : n ≤ 1000) :
    Calls Try.prog 24 #[.slice A n c] w fun e w' => ∃ (A3 : Option Addr) (c3 : Nat) (Bl : List Int), e = .returned (.slice A3 Bl.length c3) ∧ IsBl Bl L ∧ Bl.length ≤ n ∧ Lies w' w'.heap.size A3 (nums .i64 Bl) ∧ Below w.heap.size w w' := by
  have HL := hide hl
  have Hn := hide hn
  have Hbig := hide hbig
  clear hl hn hbig
  go_enter Try.func24, Try.ntmps24
  go_wp2
  go_loopw [3, 4] (fun v i wr => ∃ k : Nat, k ≤ n ∧ i = .int .i64 (k : Int) ∧ ∃ O, Hid (Bo w L k O v wr)) (fun _ i _ => n - (intOf i).toNat)
  case atStart => exact ⟨0, Nat.zero_le _, rfl, [], hide ⟨World.ownsRow_nil _ _ _ _, ⟨List.Pairwise.nil, fun z => by simp⟩, Nat.le_refl _, Below.refl _ _⟩⟩
  case round =>
    obtain ⟨k, hk, rfl, O, HC⟩ := hrel
    by_cases hlt : k < n
    · have hlt' : (k : Int) < (n : Int) := by omega
      have e7 : wrap64 ((k : Int) + 1) = ((k + 1 : Nat) : Int) := by have := Hbig.out; unfold wrap64; omega
      have hnl : k < L.length := by rw [← Hn.out]; exact hlt
      obtain ⟨ad, rfl, hab, hca⟩ := HL.out.elem plc_len hnl (by decide)
      have Hx0 : Hid (L[k]? = some L[k]) := hide (List.getElem?_eq_getElem hnl)
      generalize L[k] = f at *
      rcases f with ⟨x, y⟩
      have Hx : Hid (L[k]? = some (x, y)) := Hx0
      have hc00 : w.cell? (ad.add (k * 2)) = some (.int .i64 x) := hca 0 _ rfl
      have Hc0 := hide (fun W (h : Below w.heap.size w W) => show W.cell? (ad.add (k * 2)) = some (.int .i64 x) from (h.cell (p := ad.add (k * 2)) (by rw [show (ad.add (k * 2)).block = ad.block by unfold Addr.add; split <;> rfl]; exact hab)).trans hc00)
      have Hab := hide hab
      obtain ⟨Ax, cx, hv, hcx, _⟩ := own_form HC.out.own
      subst hv
      obtain ⟨m, hm⟩ : ∃ m, O.length = m := ⟨_, rfl⟩
      have Hm := hide hm
      rw [hm] at HC hcx ⊢
      have Hcx := hide hcx
      have Hml := hide (show m ≤ 2000 by rw [← hm]; have := HC.out.len; have := Hbig.out; omega)
      have Hlt := hide hlt
      have E7 := hide e7
      clear hca hnl hc00 hab hm hcx hlt e7 hk Hx0
      go_wp2
      go_loopw [5] (fun i W => ∃ j : Nat, j ≤ m ∧ i = .int .i64 (j : Int) ∧ Hid (Bo w L k O (.slice Ax m cx) W) ∧ Hid (∀ t (ht : t < O.length), t < j → O[t] < x)) (fun i _ => m - (intOf i).toNat)
      case atStart => exact ⟨0, Nat.zero_le _, rfl, HC, hide (fun t _ h => absurd h (Nat.not_lt_zero _))⟩
      case round =>
        clear HC
        obtain ⟨j, hj, rfl, HO, HJ0⟩ := hrel
        have HJ := hide (And.intro hj HJ0.out)
        have c0 := Hc0.out wr HO.out.below
        by_cases hjm : j < m
        · have hjm' : (j : Int) < (m : Int) := Int.ofNat_lt.2 hjm
          have g3 : decide (j < m) = true := decide_eq_true hjm
          have g4 : decide ((j : Int) < (m : Int)) = true := decide_eq_true hjm'
          have hjl : j < O.length := by rw [Hm.out]; exact hjm
          obtain ⟨ao, rfl, _, hco⟩ := (Lies.of_own HO.out.own).num hjl
          have hgd : O.getD j 0 = O[j]'hjl := by simp [List.getD, List.getElem?_eq_getElem hjl]
          obtain ⟨o, ho0⟩ : ∃ o, O.getD j 0 = o := ⟨_, rfl⟩
          rw [ho0] at hco
          have ho : O[j]'hjl = o := hgd.symm.trans ho0
          have e8 : wrap64 ((j : Int) + 1) = ((j + 1 : Nat) : Int) := by have := Hml.out; unfold wrap64; omega
          have Hjl := hide hjl
          have Ho := hide (show O[j]'Hjl.out = o from ho)
          by_cases hox : o < x
          · have g5 : decide (o < x) = true := decide_eq_true hox
            have HJ2 := hide (show ∀ t (ht : t < O.length), t < j + 1 → O[t] < x from fun t ht h => by
              by_cases e : t = j
              · subst e; rw [ho]; exact hox
              · exact HJ0.out t ht (Nat.lt_of_le_of_ne (Nat.le_of_lt_succ h) e))
            clear hox hgd ho0 ho hjl hj
            go_upto_region 6 with fail
            go_quiet (fail)
            have HO2 := hide (HO.out.later (W' := wr.drewN nq) ⟨rfl, rfl, rfl, Nat.le_refl _, fun _ _ => rfl⟩)
            go_wp2
            go_roundw
            case rel => exact ⟨j + 1, hjm, congrArg (Value.int .i64) e8, HO2, HJ2⟩
            case measure => first | exact measT hjm | exact measT2 e8 hjm
          · have g5 : decide (o < x) = false := decide_eq_false hox
            have hgt := hide (show ∀ t (ht : t < O.length), j ≤ t → o ≤ O[t] from fun t ht h => by
              by_cases e : t = j
              · subst e; rw [ho]; exact Int.le_refl _
              · have := List.pairwise_iff_getElem.1 HO.out.bl.1 j t hjl ht (Nat.lt_of_le_of_ne h (fun e2 => e e2.symm))
                rw [ho] at this
                exact Int.le_of_lt this)
            have Hox := hide hox
            clear hox hgd ho0 ho hjl hj
            go_upto_region 6 with fail
            go_quiet (fail)
            have HO2 := hide (HO.out.later (W' := wr.drewN nq) ⟨rfl, rfl, rfl, Nat.le_refl _, fun _ _ => rfl⟩)
            have c1 : (wr.drewN nq).cell? (ad.add (k * 2)) = some (.int .i64 x) := c0
            have c2 : (wr.drewN nq).cell? (ao.add j) = some (.int .i64 o) := hco
            clear HO c0 hco g5
            generalize wr.drewN nq = wz at *
            by_cases hex : o = x
            · have g6 : (o == x) = true := beq_iff_eq.2 hex
              have Hmem := hide (show x ∈ O by rw [← hex, ← Ho.out]; exact List.getElem_mem _)
              clear hex
              go_upto_region 8 with fail
              go_quiet (fail)
              have HN := hide ((HO2.out.later (W' := wz.drewN nq) ⟨rfl, rfl, rfl, Nat.le_refl _, fun _ _ => rfl⟩).skip Hx.out Hmem.out)
              go_wp2
              go_roundw
              case rel => exact ⟨k + 1, Hlt.out, congrArg (Value.int .i64) E7.out, O, HN⟩
              case measure => first | exact measT Hlt.out | exact measT2 E7.out Hlt.out
            · have g6 : (o == x) = false := beq_eq_false_iff_ne.2 hex
              have HGT := hide (show ∀ t (ht : t < O.length), j ≤ t → x < O[t] from fun t ht h => by
                exact Int.lt_of_lt_of_le (bo_gt Hox.out hex) (hgt.out t ht h))
              clear hex
              go_upto_region 8 with fail
              go_quiet (fail)
              have HO3 := hide (HO2.out.later (W' := wz.drewN nq) ⟨rfl, rfl, rfl, Nat.le_refl _, fun _ _ => rfl⟩)
              have c0 : (wz.drewN nq).cell? (ad.add (k * 2)) = some (.int .i64 x) := c1
              have Hadw := hide (show ad.block < (wz.drewN nq).heap.size from Nat.lt_of_lt_of_le Hab.out HO3.out.below.size)
              clear HO2 c1 c2 g3 g4 g6 hjm hjm' e8 hgt Hox Ho Hjl
              generalize wz.drewN nq = wa at *
              have HO2 := hide HO3.out
              have HLo := hide (Lies.of_own HO2.out.own)
              have HA1 := hide ((Below.refl wa.heap.size wa).alloc (Nat.le_refl _) (.cells #[] 3))
              have Hsum := hide (bo_sum HJ.out.1 Hm.out)
              have Hb1 := hide (bo_nums HJ.out.1 Hml.out)
              have HA5s := hide (fun (W : World) => (Below.refl W.heap.size W).alloc (Nat.le_refl _) (.cells #[.int .i64 x] 3))
              go_wp2_with (first
                | (refine wpl_slice_h rfl 44 3 (.tmp 48) (.tmp 49) rfl (some ao) m cx j 1 rfl (by rfl) HJ.out.1 Hcx.out (by kernel_rfl) (by kernel_rfl) (by kernel_rfl) ?_)
                | (at_builtin; refine wpl_app _ rfl ielems (.tmp 47) (.tmp 50) rfl wa.heap.size (.slice (some ⟨wa.heap.size, 0, none⟩) 0 0) 0 [] rfl (World.ownsRow_made wa #[] 0 (Nat.le_refl _) (Nat.zero_le _) rfl) wa.heap.size (some ao) j cx (nums .i64 (O.take j)) rfl (by rw [nums_len, Nat.mul_one, List.length_take, Nat.min_eq_left (by rw [Hm.out]; exact HJ.out.1)]) (by rw [nums_takeP]; exact (HLo.out.below HA1.out).take j) (nums_one _ _) (Nat.le_trans (Nat.le_of_eq (Nat.zero_add _)) (Nat.le_trans Hb1.out.1 (by decide))) (bo_bytes (Nat.le_trans (Nat.le_of_eq (Nat.zero_add _)) (Nat.le_trans Hb1.out.1 (by decide)))) HA1.out.size ?_; intro A4 c4 wb hown hg hat; have Ho4 := hide (show wb.ownsRow wa.heap.size 3 1 (.slice A4 j c4) j (nums .i64 (O.take j)) by simpa using hown); have Hg4 := hide hg; have Hb4 := hide (HA1.out.grown hg HA1.out.size (fun x e => by injection e with e; exact Nat.le_of_eq e)); have c0 : wb.cell? (ad.add (k * 2)) = some (.int .i64 x) := (Hb4.out.cell (p := ad.add (k * 2)) (by rw [show (ad.add (k * 2)).block = ad.block by unfold Addr.add; split <;> rfl]; exact Hadw.out)).trans c0; have HA5 := hide (HA5s.out wb); have Hsz5 := hide (Nat.le_trans Hb4.out.size HA5.out.size); clear hown hg hat)
                | (at_builtin; refine wpl_app _ rfl ielems (.tmp 52) (.tmp 58) rfl wa.heap.size (.slice A4 j c4) j (nums .i64 (O.take j)) rfl (own_keepT Ho4.out HA5.out) (wb.heap.size + 1) (some ⟨wb.heap.size, 0, none⟩) 1 1 [.int .i64 x] rfl (by rfl) (Lies.new wb #[.int .i64 x] 3 (0, 0) _ (Nat.lt_succ_self _)) (by simp [Value.oneCell']) (Nat.le_trans Hb1.out.2.1 (by decide)) (bo_bytes Hb1.out.2.1) Hsz5.out ?_; intro A5 c5 wc hown hg hat; have Ho5 := hide hown; have Hg5 := hide hg; have Hlc := hide (HLo.out.below ((Hb4.out.trans (HA5.out.mono Hb4.out.size)).grown hg Hsz5.out (fun x e => (own_lowS Ho4.out x e).1))); have Hszc := hide (Nat.le_trans Hsz5.out hg.size); clear hown hg hat)
                | (refine wpl_slice_l rfl 44 3 (.tmp 61) (.tmp 62) rfl (some ao) m cx j 1 rfl (by rfl) HJ.out.1 Hcx.out (by kernel_rfl) (by kernel_rfl) (by kernel_rfl) ?_; intro A6 hl6; have Hl6 := hide (hl6 _ _ _ Hlc.out (by rw [nums_len, Hm.out, Nat.mul_one])); rw [show (nums .i64 O).drop (j * 1) = nums .i64 (O.drop j) by rw [Nat.mul_one, ← nums_dropP]] at Hl6; clear hl6)
                | (at_builtin; refine wpl_app _ rfl ielems (.tmp 60) (.tmp 63) rfl wa.heap.size (.slice A5 (j + 1) c5) (j + 1) (nums .i64 (O.take j) ++ [.int .i64 x]) rfl Ho5.out wa.heap.size A6 (m - j) (cx - j) (nums .i64 (O.drop j)) rfl (by rw [nums_len, List.length_drop, Hm.out, Nat.mul_one]) Hl6.out (nums_one _ _) (Nat.le_trans Hb1.out.2.2 (by decide)) (bo_bytes Hb1.out.2.2) Hszc.out ?_; intro A7 c7 wd hown hg hat; have Ho7 : Hid (wd.ownsRow wa.heap.size 3 1 (.slice A7 (O.length + 1) c7) (O.length + 1) (nums .i64 (O.take j) ++ [.int .i64 x] ++ nums .i64 (O.drop j))) := hide (by rw [← Hsum.out]; exact hown); have Hg7 := hide hg; have HN := hide (HO2.out.more Hx.out HJ.out.2 HGT.out (by rw [Hm.out]; exact HJ.out.1) HA1.out Hg4.out HA5.out (fun g e => (own_lowS Ho4.out g e).1) Hg5.out (fun g e => (own_lowS Ho5.out g e).1) Hg7.out Ho7.out); clear hown hg hat))
              go_roundw
              case rel => exact ⟨k + 1, Hlt.out, congrArg (Value.int .i64) E7.out, O.take j ++ [x] ++ O.drop j, by rw [Hsum.out]; exact HN⟩
              case measure => first | exact measT Hlt.out | exact measT2 E7.out Hlt.out
        · have g3 : decide (j < m) = false := decide_eq_false hjm
          have g4 : decide ((j : Int) < (m : Int)) = false := decide_eq_false (fun h => hjm (Int.ofNat_lt.1 h))
          have HGT := hide (show ∀ t (ht : t < O.length), j ≤ t → x < O[t] from fun t ht h => by
            exact absurd (Nat.lt_of_le_of_lt h (Hm.out ▸ ht)) hjm)
          clear hj
          go_upto_region 6 with fail
          go_quiet (fail)
          have HO1 := hide (HO.out.later (W' := wr.drewN nq) ⟨rfl, rfl, rfl, Nat.le_refl _, fun _ _ => rfl⟩)
          have c1 : (wr.drewN nq).cell? (ad.add (k * 2)) = some (.int .i64 x) := c0
          clear HO c0
          generalize wr.drewN nq = wz at *
          go_upto_region 8 with fail
          go_quiet (fail)
          have HO2 := hide (HO1.out.later (W' := wz.drewN nq) ⟨rfl, rfl, rfl, Nat.le_refl _, fun _ _ => rfl⟩)
          have c0 : (wz.drewN nq).cell? (ad.add (k * 2)) = some (.int .i64 x) := c1
          have Hadw := hide (show ad.block < (wz.drewN nq).heap.size from Nat.lt_of_lt_of_le Hab.out HO2.out.below.size)
          clear HO1 c1 g3 g4 hjm
          generalize wz.drewN nq = wa at *
          have HLo := hide (Lies.of_own HO2.out.own)
          have HA1 := hide ((Below.refl wa.heap.size wa).alloc (Nat.le_refl _) (.cells #[] 3))
          have Hsum := hide (bo_sum HJ.out.1 Hm.out)
          have Hb1 := hide (bo_nums HJ.out.1 Hml.out)
          have HA5s := hide (fun (W : World) => (Below.refl W.heap.size W).alloc (Nat.le_refl _) (.cells #[.int .i64 x] 3))
          go_wp2_with (first
            | (refine wpl_slice_h rfl 44 3 (.tmp 48) (.tmp 49) rfl Ax m cx j 1 rfl (by rfl) HJ.out.1 Hcx.out (by kernel_rfl) (by kernel_rfl) (by kernel_rfl) ?_)
            | (at_builtin; refine wpl_app _ rfl ielems (.tmp 47) (.tmp 50) rfl wa.heap.size (.slice (some ⟨wa.heap.size, 0, none⟩) 0 0) 0 [] rfl (World.ownsRow_made wa #[] 0 (Nat.le_refl _) (Nat.zero_le _) rfl) wa.heap.size Ax j cx (nums .i64 (O.take j)) rfl (by rw [nums_len, Nat.mul_one, List.length_take, Nat.min_eq_left (by rw [Hm.out]; exact HJ.out.1)]) (by rw [nums_takeP]; exact (HLo.out.below HA1.out).take j) (nums_one _ _) (Nat.le_trans (Nat.le_of_eq (Nat.zero_add _)) (Nat.le_trans Hb1.out.1 (by decide))) (bo_bytes (Nat.le_trans (Nat.le_of_eq (Nat.zero_add _)) (Nat.le_trans Hb1.out.1 (by decide)))) HA1.out.size ?_; intro A4 c4 wb hown hg hat; have Ho4 := hide (show wb.ownsRow wa.heap.size 3 1 (.slice A4 j c4) j (nums .i64 (O.take j)) by simpa using hown); have Hg4 := hide hg; have Hb4 := hide (HA1.out.grown hg HA1.out.size (fun x e => by injection e with e; exact Nat.le_of_eq e)); have c0 : wb.cell? (ad.add (k * 2)) = some (.int .i64 x) := (Hb4.out.cell (p := ad.add (k * 2)) (by rw [show (ad.add (k * 2)).block = ad.block by unfold Addr.add; split <;> rfl]; exact Hadw.out)).trans c0; have HA5 := hide (HA5s.out wb); have Hsz5 := hide (Nat.le_trans Hb4.out.size HA5.out.size); clear hown hg hat)
            | (at_builtin; refine wpl_app _ rfl ielems (.tmp 52) (.tmp 58) rfl wa.heap.size (.slice A4 j c4) j (nums .i64 (O.take j)) rfl (own_keepT Ho4.out HA5.out) (wb.heap.size + 1) (some ⟨wb.heap.size, 0, none⟩) 1 1 [.int .i64 x] rfl (by rfl) (Lies.new wb #[.int .i64 x] 3 (0, 0) _ (Nat.lt_succ_self _)) (by simp [Value.oneCell']) (Nat.le_trans Hb1.out.2.1 (by decide)) (bo_bytes Hb1.out.2.1) Hsz5.out ?_; intro A5 c5 wc hown hg hat; have Ho5 := hide hown; have Hg5 := hide hg; have Hlc := hide (HLo.out.below ((Hb4.out.trans (HA5.out.mono Hb4.out.size)).grown hg Hsz5.out (fun x e => (own_lowS Ho4.out x e).1))); have Hszc := hide (Nat.le_trans Hsz5.out hg.size); clear hown hg hat)
            | (refine wpl_slice_l rfl 44 3 (.tmp 61) (.tmp 62) rfl Ax m cx j 1 rfl (by rfl) HJ.out.1 Hcx.out (by kernel_rfl) (by kernel_rfl) (by kernel_rfl) ?_; intro A6 hl6; have Hl6 := hide (hl6 _ _ _ Hlc.out (by rw [nums_len, Hm.out, Nat.mul_one])); rw [show (nums .i64 O).drop (j * 1) = nums .i64 (O.drop j) by rw [Nat.mul_one, ← nums_dropP]] at Hl6; clear hl6)
            | (at_builtin; refine wpl_app _ rfl ielems (.tmp 60) (.tmp 63) rfl wa.heap.size (.slice A5 (j + 1) c5) (j + 1) (nums .i64 (O.take j) ++ [.int .i64 x]) rfl Ho5.out wa.heap.size A6 (m - j) (cx - j) (nums .i64 (O.drop j)) rfl (by rw [nums_len, List.length_drop, Hm.out, Nat.mul_one]) Hl6.out (nums_one _ _) (Nat.le_trans Hb1.out.2.2 (by decide)) (bo_bytes Hb1.out.2.2) Hszc.out ?_; intro A7 c7 wd hown hg hat; have Ho7 : Hid (wd.ownsRow wa.heap.size 3 1 (.slice A7 (O.length + 1) c7) (O.length + 1) (nums .i64 (O.take j) ++ [.int .i64 x] ++ nums .i64 (O.drop j))) := hide (by rw [← Hsum.out]; exact hown); have Hg7 := hide hg; have HN := hide (HO2.out.more Hx.out HJ.out.2 HGT.out (by rw [Hm.out]; exact HJ.out.1) HA1.out Hg4.out HA5.out (fun g e => (own_lowS Ho4.out g e).1) Hg5.out (fun g e => (own_lowS Ho5.out g e).1) Hg7.out Ho7.out); clear hown hg hat))
          go_roundw
          case rel => exact ⟨k + 1, Hlt.out, congrArg (Value.int .i64) E7.out, O.take j ++ [x] ++ O.drop j, by rw [Hsum.out]; exact HN⟩
          case measure => first | exact measT Hlt.out | exact measT2 E7.out Hlt.out
    · obtain rfl : k = n := by omega
      obtain ⟨v3, c3, hv3, _, _⟩ := own_form HC.out.own
      subst hv3
      have hbl := HC.out.bl
      rw [show L.take k = L from List.take_of_length_le (by rw [Hn.out]; exact Nat.le_refl _)] at hbl
      have HZ := hide (And.intro hbl (And.intro HC.out.len (And.intro (Lies.of_own HC.out.own) HC.out.below)))
      clear HC hbl
      go_wp2
      go_ret
      exact ⟨v3, c3, O, rfl, HZ.out⟩
end Go.Proofs.Ytofokljhlcdebaa
