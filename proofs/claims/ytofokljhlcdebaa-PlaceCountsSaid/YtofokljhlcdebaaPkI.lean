/-
  LAYER 20, CONTRACT: free.
-/
import Derived.Test.YtofokljhlcdebaaPkH
namespace Go.Proofs.Ytofokljhlcdebaa
open Go.RowKit
set_option maxRecDepth 8000

/-- Which blocks freeing may touch: the choice's, the map's, and the map's rows. -/
def Tm (g bm : Nat) (V : Int → Value) (j : Nat) : Prop := j = g ∨ j = bm ∨ ∃ x, (V x).ownBlock = some j
structure Fw (w0 : World) (vs : List (List Pl2)) (bad : List Int) (L : List Pl2) (F : Int → List Int) (b : Int) (V0 : Int → Value) (base g n c bm n0 : Nat) (k : Nat) (Lk : List Pl2) (D : DataW Value) (V : Int → Value) (Fk : Int → List Int) (W : World) : Prop where
  own : W.ownsRow base 30 2 (.slice (some ⟨g, 0, none⟩) n c) n (rowQ Lk)
  us : Us W bm (n0 + k) D V Fk
  vb : V b = V0 b
  tq : Tq (Tm g bm V0) w0 W
  vt : ∀ x g', (V x).ownBlock = some g' → (∃ y, (V0 y).ownBlock = some g') ∨ w0.heap.size ≤ g'
  fr : Fr vs bad L F b k Lk Fk
section
variable {w0 W W5 W6 W7 : World} {vs : List (List Pl2)} {bad : List Int} {L Lk : List Pl2} {F Fk : Int → List Int} {b : Int} {V0 V : Int → Value} {base g n c bm n0 k : Nat} {D : DataW Value}
theorem rowP_ne (h : W.ownsRow base 30 2 (.slice (some ⟨g, 0, none⟩) n c) n (rowQ Lk)) (hu : Us W bm n0 D V Fk) : g ≠ bm ∧ ∀ x, (V x).ownBlock ≠ some g := by
  rcases h.2 with ⟨hv, _⟩ | ⟨g2, cap, cur, hv, _, hg, _⟩
  · cases hv
  · injection hv with e1 _ _
    injection e1 with e1
    injection e1 with e1
    subst e1
    constructor
    · rintro rfl
      obtain ⟨es, clock, hm, _⟩ := hu.map_
      rw [hg] at hm
      cases hm
    · intro x hx
      rcases (hu.own x).2 with ⟨hv2, _⟩ | ⟨g3, cap3, cur3, hv2, _, hg3, _⟩
      · rw [hv2] at hx; cases hx
      · rw [hv2] at hx
        have e : g3 = g := by injection hx
        subst e
        rw [hg] at hg3
        injection hg3 with hg3
        injection hg3 with _ e2 _
        exact absurd e2 (by decide)
theorem Fw.later (h : Fw w0 vs bad L F b V0 base g n c bm n0 k Lk D V Fk W) (hb : Below W.heap.size W W5) : Fw w0 vs bad L F b V0 base g n c bm n0 k Lk D V Fk W5 :=
  ⟨own_keepT h.own hb, h.us.later hb, h.vb, h.tq.below hb, h.vt, h.fr⟩
/-- The place stored. -/
theorem Fw.put {i : Nat} {x y : Int} (h : Fw w0 vs bad L F b V0 base g n c bm n0 k Lk D V Fk W) :
    (W.setCells g (i * 2) [.int .i64 x, .int .i64 y]).ownsRow base 30 2 (.slice (some ⟨g, 0, none⟩) n c) n (rowQ (Lk.set i (x, y))) ∧ Us (W.setCells g (i * 2) [.int .i64 x, .int .i64 y]) bm (n0 + k) D V Fk ∧ Tq (Tm g bm V0) w0 (W.setCells g (i * 2) [.int .i64 x, .int .i64 y]) ∧ W.grownBy (W.setCells g (i * 2) [.int .i64 x, .int .i64 y]) (some g) := by
  obtain ⟨h1, h2⟩ := row_set (i := i) (x := x) (y := y) h.own
  obtain ⟨n1, n2⟩ := rowP_ne h.own h.us
  exact ⟨h1, h.us.kept h2 n1 n2, h.tq.grown h2 (fun r e => by injection e with e; exact .inl (.inl e.symm)), h2⟩
end
structure Fp (w0 : World) (V0 : Int → Value) (base g n c bm n1 : Nat) (Lk : List Pl2) (D : DataW Value) (V : Int → Value) (Fk : Int → List Int) (W : World) : Prop where
  own : W.ownsRow base 30 2 (.slice (some ⟨g, 0, none⟩) n c) n (rowQ Lk)
  us : Us W bm n1 D V Fk
  tq : Tq (Tm g bm V0) w0 W
  vt : ∀ x g', (V x).ownBlock = some g' → (∃ y, (V0 y).ownBlock = some g') ∨ w0.heap.size ≤ g'
section
variable {w0 W W5 W6 W7 : World} {L Lk : List Pl2} {Fk : Int → List Int} {b : Int} {V0 V : Int → Value} {base g n c bm n1 : Nat} {D : DataW Value}
theorem Fp.later (h : Fp w0 V0 base g n c bm n1 Lk D V Fk W) (hb : Below W.heap.size W W5) : Fp w0 V0 base g n c bm n1 Lk D V Fk W5 :=
  ⟨own_keepT h.own hb, h.us.later hb, h.tq.below hb, h.vt⟩
theorem Fp.map6 (h : Fp w0 V0 base g n c bm n1 Lk D V Fk W) (hb : Below W.heap.size W W5) {x : Int} (hg : W5.grownBy W6 (V x).ownBlock) : W6.ownsMap Try.prog 3 rawP bm n1 D := by
  have h5 := h.later hb
  refine h5.us.map_.kept hg ?_
  intro e
  have := (own_lowS (h5.us.own x) bm e.symm).1
  omega
theorem Fp.more {A : Option Addr} {c3 : Nat} {t z : Int} (h : Fp w0 V0 base g n c bm n1 Lk D V Fk W) (hb : Below W.heap.size W W5)
    (hown : W6.ownsRow (bm + 1) 3 1 (.slice A ((Fk t).length + 1) c3) ((Fk t).length + 1) (nums .i64 (Fk t) ++ [.int .i64 z])) (hg : W5.grownBy W6 (V t).ownBlock)
    (hat : (Value.slice A ((Fk t).length + 1) c3).ownBlock = (V t).ownBlock ∨ (Value.slice A ((Fk t).length + 1) c3).ownBlock = some W5.heap.size)
    (hm : W7.ownsMap Try.prog 3 rawP bm (n1 + 1) (D.put (.int .i64 t) (.held (.slice A ((Fk t).length + 1) c3)))) (hg7 : W6.grownBy W7 (some bm)) :
    Fp w0 V0 base g n c bm (n1 + 1) Lk (D.put (.int .i64 t) (.held (.slice A ((Fk t).length + 1) c3))) (fun x => if x = t then .slice A ((Fk t).length + 1) c3 else V x) (fun x => if x = t then Fk t ++ [z] else Fk x) W7 := by
  have hus := h.us.more hb hown hg hat hm hg7
  have h5 := h.later hb
  have hne := rowP_ne h5.own h5.us
  refine ⟨?_, hus, ?_, fun x g' hx => ?_⟩
  · refine (h5.own.kept hg ?_).kept hg7 (.inr (fun e => hne.1 (by injection e)))
    exact .inr (fun e => hne.2 t e.symm)
  · refine (h5.tq.grown hg (fun r e => ?_)).grown hg7 (fun r e => by injection e with e; exact .inl (.inr (.inl e.symm)))
    rcases h5.vt t r e with ⟨y, hy⟩ | h1
    · exact .inl (.inr (.inr ⟨y, hy⟩))
    · exact .inr h1
  · by_cases hxt : x = t
    · rw [if_pos hxt] at hx
      rcases hat with e | e
      · rw [e] at hx; exact h.vt t g' hx
      · rw [e] at hx
        injection hx with hx
        exact .inr (by rw [← hx]; exact h5.tq.size)
    · rw [if_neg hxt] at hx
      exact h.vt x g' hx
end
theorem tgt_in {vs : List (List Pl2)} {bad : List Int} {L : List Pl2} {F : Int → List Int} {b : Int} (hu : UsesB F L) (hl : L.length = vs.length) (hc : canP vs bad L b = true) {i : Int} (hi : i ∈ F b) : ∃ (j : Nat) (_ : j < L.length), i = (j : Int) ∧ (∃ ps ∈ vs, tgtP vs bad L b i ∈ ps) ∧ okP bad L b (tgtP vs bad L b i) = true := by
  obtain ⟨j, hj, e, hjb, h1, h2⟩ := tgt_same hu hl hc hi
  refine ⟨j, hj, e, ⟨vs[j]'(by rw [← hl]; exact hj), List.getElem_mem _, ?_⟩, h2⟩
  rw [h1]
  exact (newP_same (q := (L[j], vs[j]'(by rw [← hl]; exact hj))) hjb (canP_at hc hl j hj hjb)).1
set_option maxHeartbeats 8000000 in
theorem free_any {vs : List (List Pl2)} {bad : List Int} {L : List Pl2} {F : Int → List Int} {b : Int} {D : DataW Value} {V0 : Int → Value} {base g n c bm n0 lo m c2 : Nat} {A2 : Option Addr} {w : World}
    (hown : w.ownsRow base 30 2 (.slice (some ⟨g, 0, none⟩) n c) n (rowQ L)) (hus : Us w bm n0 D V0 F) (hu : UsesB F L) (hL : L.length = n) (hl : L.length = vs.length) (hc : canP vs bad L b = true) (hm : m = (F b).length)
    (hto : LiesB w lo w.heap.size A2 (rowQ ((F b).map (tgtP vs bad L b)))) (hg : g < lo) (hbm : bm < lo) (hV : ∀ x g', (V0 x).ownBlock = some g' → g' < lo) (hbig : n ≤ 1000) (hn0 : n0 ≤ 10000000) (hb : Ok64 b) (hok : ∀ ps ∈ vs, ∀ p ∈ ps, Ok64 p.1) :
    Calls Try.prog 45 #[.slice (some ⟨g, 0, none⟩) n c, .map (some bm), .int .i64 b, .slice A2 m c2] w fun e w' => e = .returned (.tuple #[]) ∧ ∃ (D' : DataW Value) (V' : Int → Value) (F' : Int → List Int), Fp w V0 base g n c bm (n0 + m) (freeP vs bad L b) D' V' F' w' ∧ UsesB F' (freeP vs bad L b) := by
  have HC0 : Hid (Fw w vs bad L F b V0 base g n c bm n0 0 L D V0 F w) := hide ⟨hown, hus, rfl, Tq.refl _ _, (fun x g' e => .inl ⟨x, e⟩), Fr.start hu⟩
  obtain ⟨AV, cV, hVb⟩ := hus.form b
  have HFl := hide (show m ≤ 1000 from by rw [hm]; exact Nat.le_trans (hu.le b) (by omega))
  rw [← hm] at hVb
  have HVb := hide hVb
  have lk := hus.look hb
  rw [hVb] at lk
  have HU := hide hu
  have HLn := hide hL
  have Hl := hide hl
  have Hc := hide hc
  have Hm := hide hm
  have Hto := hide hto
  have Hg := hide hg
  have Hbm := hide hbm
  have HV := hide hV
  have Hn0 := hide hn0
  have Hbig := hide hbig
  have Hb := hide hb
  have Hok := hide hok
  have Htg := hide (fun i hi => tgt_in (vs := vs) hu hl hc (i := i) hi)
  clear hown hus hu hL hl hc hm hto hg hbm hV hn0 hbig hb hok hVb
  go_enter Try.func45, Try.ntmps45
  go_wp2
  clear lk
  go_loopw [14] (fun i wr => ∃ k : Nat, k ≤ m ∧ i = .int .i64 (k : Int) ∧ ∃ Lk D V Fk, Hid (Fw w vs bad L F b V0 base g n c bm n0 k Lk D V Fk wr)) (fun i _ => m - (intOf i).toNat)
  case atStart => exact ⟨0, Nat.zero_le _, rfl, _, _, _, _, HC0⟩
  case round =>
    clear HC0
    obtain ⟨k, hk, rfl, Lk, D, V, Fk, HC⟩ := hrel
    by_cases hlt : k < m
    · have hlt' : (k : Int) < (m : Int) := by omega
      have e7 : wrap64 ((k : Int) + 1) = ((k + 1 : Nat) : Int) := by have := HFl.out; unfold wrap64; omega
      have hkl : k < (F b).length := by rw [← Hm.out]; exact hlt
      have hrow : Lies wr wr.heap.size AV (nums .i64 (F b)) := by
        have h1 := HC.out.us.own b
        rw [HC.out.vb, HVb.out, HC.out.fr.same] at h1
        exact Lies.of_own h1
      obtain ⟨av, rfl, hav, hca⟩ := hrow.num hkl
      have hgd : (F b).getD k 0 = (F b)[k] := by simp [List.getD, List.getElem?_eq_getElem hkl]
      obtain ⟨j, hj, hji, htn, hto9⟩ := Htg.out _ (List.getElem_mem hkl)
      have Hi : Hid ((F b)[k]? = some (j : Int)) := hide (by rw [List.getElem?_eq_getElem hkl, hji])
      rw [hgd, hji] at hca
      rw [hji] at hto9
      have hjn : j < n := by rw [← HLn.out]; exact hj
      have hjn' : (j : Int) < (n : Int) := by omega
      have hmap : k < ((F b).map (tgtP vs bad L b)).length := by rw [List.length_map]; exact hkl
      obtain ⟨a2, ea2, hlo2, hhi2, hct⟩ : ∃ a, A2 = some a ∧ lo ≤ a.block ∧ a.block < w.heap.size ∧ ∀ jj vv, (plc (((F b).map (tgtP vs bad L b))[k]))[jj]? = some vv → w.cell? ((a.add (k * 2)).add jj) = some vv := by
        obtain ⟨a, e, _, h4⟩ := Hto.out.lies.elem (f := plc) (m := 2) plc_len hmap (by decide)
        rcases Hto.out with h0 | ⟨a9, e9, h1, h2, _⟩
        · have h5 : (F b).length * 2 = 0 := by have h6 := congrArg List.length h0; rwa [rowQ_len, List.length_map] at h6
          omega
        · rw [e] at e9
          injection e9 with e9
          subst e9
          exact ⟨a, e, h1, h2, h4⟩
      have Htk : Hid (((F b).map (tgtP vs bad L b))[k] = tgtP vs bad L b (j : Int)) := hide (by rw [List.getElem_map, hji])
      rw [Htk.out] at hct
      have Htne := hide ((okP_iff.1 hto9).1)
      have Htok : Hid (Ok64 (tgtP vs bad L b (j : Int)).1) := hide (by
        rw [hji] at htn
        obtain ⟨ps, h1, h2⟩ := htn
        exact Hok.out ps h1 _ h2)
      obtain ⟨tg, htg⟩ : ∃ tg, tgtP vs bad L b (j : Int) = tg := ⟨_, rfl⟩
      have Hnext := hide (HC.out.fr.next HU.out Hi.out Htne.out)
      rw [htg] at hct Htne Htok Hnext
      rcases tg with ⟨tx, ty⟩
      unfold plc at hct
      dsimp only at *
      cases ea2
      -- what is read of 'to' stays where it is
      have hkeep : ∀ (jj : Nat) (W : World), W.heap[a2.block]? = w.heap[a2.block]? → ∀ vv, [Value.int .i64 tx, .int .i64 ty][jj]? = some vv → W.cell? ((a2.add (k * 2)).add jj) = some vv := fun jj W hW vv hv => by
        have h1 := hct jj vv hv
        have e2 : ((a2.add (k * 2)).add jj).block = a2.block := by unfold Addr.add; split <;> split <;> rfl
        exact (World.cell?_of_block (a := (a2.add (k * 2)).add jj) (by rw [e2]; exact hW)).trans h1
      have hnT : ¬ Tm g bm V0 a2.block := by
        rintro (h1 | h1 | ⟨x, h1⟩)
        · have := Hg.out; omega
        · have := Hbm.out; omega
        · have := HV.out x _ h1; omega
      have HK := hide hkeep
      have Hblk := hide (HC.out.tq.block a2.block hhi2 hnT)
      have Hct := hide (fun jj vv h => HK.out jj wr Hblk.out vv h)
      have hthere := row_there HC.out.own hjn
      have Hput := hide (HC.out.put (i := j) (x := tx) (y := ty))
      have Ha2 := hide (And.intro hhi2 hnT)
      have HA := HC.out.us
      have Hsz0 := hide HC.out.tq.size
      have Hvb := hide HC.out.vb
      have Hvt := hide HC.out.vt
      have Hlt := hide hlt
      have E7 := hide e7
      clear Htk
      clear hct hkeep hlo2 hhi2 hnT htn hj hji hto9 hmap hgd hrow hkl hav hjn hlt e7 hk htg HC HA
      go_upto_region 4 with (first
        | (with_reducible refine wpl_load_addr rfl 30 (.tmp 23) rfl (a2.add (k * 2)) _ Hct.out rfl _ Try.underlying30 rfl 2 infoPl2 rfl ?_)
        | (refine wpList_store_mid rfl 30 (.tmp 25) (.tmp 24) rfl g (j * 2) #[.int .i64 tx, .int .i64 ty] rfl rfl hthere infoPl2 (by simp [Value.oneCell']) ?_))
      clear hthere Hct hca
      obtain ⟨hown1, hus1, htq1, _⟩ := Hput.out
      have HP0 := hide (Fp.mk hown1 hus1 htq1 Hvt.out)
      have hblk1 := htq1.block a2.block Ha2.out.1 Ha2.out.2
      clear Hput hown1 hus1 htq1
      generalize wr.setCells g (j * 2) [.int .i64 tx, .int .i64 ty] = w5 at *
      have x0 : w5.cell? (a2.add (k * 2)) = _ := HK.out 0 w5 hblk1 _ rfl
      have HA6 := hide (show Below w5.heap.size w5 (w5.alloc (.cells #[.int .i64 (j : Int)] 3)).drew from ((Below.refl _ _).alloc (Nat.le_refl _) _).drew)
      have hlt5 : a2.block < w5.heap.size := Nat.lt_of_lt_of_le Ha2.out.1 HP0.out.tq.size
      have hblk2 := (HA6.out.block a2.block hlt5).trans hblk1
      have y0 : (w5.alloc (.cells #[.int .i64 (j : Int)] 3)).drew.cell? (a2.add (k * 2)) = _ := HK.out 0 _ hblk2 _ rfl
      have L1 := (HP0.out.later (Below.refl w5.heap.size w5).drew).us.look Htok.out
      have L2 := (HP0.out.later HA6.out).us.look Htok.out
      have Hkey := hide (key_pl Htok.out)
      have Hkm : Hid (n0 + k < maxLen) := hide (by have := HFl.out; have := Hn0.out; have := Hlt.out; unfold maxLen; omega)
      have Hgl : Hid ((Fk tx).length ≤ 1000) := hide (by
        have hu9 := Hnext.out.uses tx Htne.out
        have h9 := nodup_le L.length _ hu9.1 (fun z hz => by
          obtain ⟨i, hi, e, _⟩ := (hu9.2 z).1 hz
          exact ⟨i, by rw [Hnext.out.len] at hi; exact hi, e⟩)
        rw [if_pos rfl, List.length_append] at h9
        have := HLn.out
        have := Hbig.out
        omega)
      have Hsz : Hid (bm + 1 ≤ (w5.alloc (.cells #[.int .i64 (j : Int)] 3)).drew.heap.size) := hide (Nat.le_trans HP0.out.us.hi HA6.out.size)
      have Hb2 := hide hblk2
      have Hl5 := hide (Nat.lt_of_lt_of_le hlt5 HA6.out.size)
      have HVne := hide (show (V tx).ownBlock ≠ some a2.block from fun e => by
        rcases Hvt.out tx _ e with ⟨y, hy⟩ | h1
        · exact Ha2.out.2 (.inr (.inr ⟨y, hy⟩))
        · have := Ha2.out.1; omega)
      clear hblk1 hblk2 hlt5 Hblk
      have hkm : k < m := Hlt.out
      go_region_law (first
        | (refine step_app _ rfl ielems (.tmp 38) (.tmp 40) rfl (bm + 1) (V tx) (Fk tx).length (nums .i64 (Fk tx)) (by simp [Act.eval]) (own_keepT (HP0.out.us.own tx) HA6.out) (w5.heap.size + 1) (some ⟨w5.heap.size, 0, none⟩) 1 1 _ (by simp [Act.eval]) (by rfl) (Lies.new w5 _ _ _ _ (Nat.lt_succ_self _)).drew (by simp [Value.oneCell']) (by have := Hgl.out; unfold maxLen; omega) (by have := Hgl.out; omega) Hsz.out ?_; intro A3 c3 w6 hown hg hat; have z0 : w6.cell? (a2.add (k * 2)) = _ := HK.out 0 w6 ((hg.block a2.block Hl5.out (fun e => HVne.out e.symm)).trans Hb2.out) _ rfl; obtain ⟨w7, hrun, hm, hg7⟩ := (HP0.out.map6 HA6.out hg).update (t := 73) (e := 44) (val := .slice A3 ((Fk tx).length + 1) c3) keyP Try.underlying73 Hkm.out Hkey.out rfl; have HN := hide (HP0.out.more HA6.out hown hg hat hm hg7); clear hown hg hat hm hg7))
      all_goals
        have HZ := hide (Fw.mk (k := k + 1) HN.out.own HN.out.us (by show (if b = tx then _ else V b) = V0 b; rw [if_neg (fun e => Htne.out e.symm)]; exact Hvb.out) HN.out.tq HN.out.vt Hnext.out)
        clear HN
        go_wp2
        go_roundw
        case rel => exact ⟨k + 1, Hlt.out, congrArg (Value.int .i64) E7.out, _, _, _, _, HZ⟩
        case measure => first | exact measT Hlt.out | exact measT2 E7.out Hlt.out
    · obtain rfl : k = m := by omega
      have hfr := HC.out.fr
      rw [Hm.out] at hfr
      obtain ⟨hE, hU9⟩ := hfr.done HU.out Hl.out Hc.out
      have HE := hide hE
      have HU9 := hide hU9
      have hown9 := HC.out.us.map_
      have hk9 := key_pl Hb.out
      clear hfr hE hU9
      go_wp2_with (at_delete; refine wpList_delete_own _ rfl _ _ 73 3 rfl 44 keyP Try.underlying73 rawP bm (n0 + k) D rfl hown9 _ _ rfl hk9 ?_; intro w1 hown1 hturn1; have HT := hide (And.intro hown1 hturn1.grown); clear hown1 hturn1)
      clear hown9 hk9
      go_end0
      obtain ⟨hown1, hg1⟩ := HT.out
      have hne := rowP_ne HC.out.own HC.out.us
      refine ⟨rfl, _, _, _, ⟨?_, HC.out.us.less hown1 hg1, HC.out.tq.grown hg1 (fun r e => by injection e with e; exact .inl (.inr (.inl e.symm))), fun x g' hx => ?_⟩, by rw [← HE.out]; exact HU9.out⟩
      · rw [← HE.out]
        exact HC.out.own.kept hg1 (.inr (fun e => hne.1 (by injection e)))
      · by_cases hxb : x = b
        · rw [if_pos hxb] at hx; cases hx
        · rw [if_neg hxb] at hx; exact HC.out.vt x g' hx
end Go.Proofs.Ytofokljhlcdebaa
