/-
  CONTRACT of wagtailref17.Tables.
  CONTRACT of wagtailref17.Newest.
-/
import Derived.Test.YtigpplckddnghaaGreatMrU
import Derived.Test.YtigpplckddnghaaGreatOLs
import Derived.Test.YtigpplckddnghaaGreatMrX
namespace Go.Proofs.YtigpplckddnghaaGreat
section
open Go.RowKit
set_option maxRecDepth 8000

/-- What the reference's Tables keeps behind n pages. -/
structure TabR (w : World) (D : Dv) (q : Pn) (rg n : Nat) (r B0 B rp rn rw cp cn cw : Nat) (l : List Tl) (v : Value) (W : World) : Prop where
  dev : RefAt W B0 B q D r rp rn rw cp cn cw
  tls : Tls l (tabsF D.pg (rg * D.np) n) W
  own : W.ownsRow w.heap.size 26 4 v l.length (rowT l)
  off : ∀ x ∈ l, ∀ g, v.ownBlock = some g → x.Off g
  hi : ∀ x ∈ l, x.Hi w.heap.size
  below : Below w.heap.size w W
section
variable {w W W' w5 w6 : World} {D : Dv} {q : Pn} {rg n r B0 B rp rn rw cp cn cw : Nat} {l : List Tl} {v : Value}
theorem TabR.later (h : TabR w D q rg n r B0 B rp rn rw cp cn cw l v W) (hB : B ≤ W.heap.size) (hb : Below W.heap.size W W') : TabR w D q rg n r B0 B rp rn rw cp cn cw l v W' :=
  ⟨h.dev.below (hb.mono hB), h.tls.below hb, own_keepT h.own hb, h.off, h.hi, h.below.trans (hb.mono h.below.size)⟩
/-- A page without a table. -/
theorem TabR.skip (h : TabR w D q rg n r B0 B rp rn rw cp cn cw l v W) (hB : B ≤ W.heap.size) (hb : Below W.heap.size W w5) (hq : ¬ RefTab (D.pg (rg * D.np + n))) : TabR w D q rg (n + 1) r B0 B rp rn rw cp cn cw l v w5 := by
  have h2 := h.later hB hb
  refine ⟨h2.dev, ⟨?_, h2.tls.ok, h2.tls.few⟩, h2.own, h2.off, h2.hi, h2.below⟩
  show _ = tabsF D.pg (rg * D.np) n ++ (tabOf (D.pg (rg * D.np + n))).toList
  rw [tab_ref_no hq]
  simpa using h2.tls.same
/-- A page with one, behind its append. -/
theorem TabR.more (h : TabR w D q rg n r B0 B rp rn rw cp cn cw l v W) (hB : B ≤ w.heap.size) (hb : Below W.heap.size W w5) (hq : RefTab (D.pg (rg * D.np + n))) {x : Tl} (hx : x.t = readR (headOf (D.pg (rg * D.np + n))) (dataOf (D.pg (rg * D.np + n)))) (ho : x.Ok w5 w5.heap.size) (hf : x.Few) (hh : x.Hi W.heap.size)
    {A : Option Addr} {c : Nat} (hown : w6.ownsRow w.heap.size 26 4 (.slice A (l.length + 1) c) (l.length + 1) (rowT l ++ x.cells)) (hg : w5.grownBy w6 v.ownBlock) (hat : (Value.slice A (l.length + 1) c).ownBlock = v.ownBlock ∨ (Value.slice A (l.length + 1) c).ownBlock = some w5.heap.size) : TabR w D q rg (n + 1) r B0 B rp rn rw cp cn cw (l ++ [x]) (.slice A (l ++ [x]).length c) w6 := by
  have hBW : B ≤ W.heap.size := Nat.le_trans hB h.below.size
  have h2 := h.later hBW hb
  have hlow : ∀ q, v.ownBlock = some q → w.heap.size ≤ q ∧ q < W.heap.size := by
    intro q e
    rcases h.own.2 with ⟨hv, _⟩ | ⟨g2, cap, cur, hv, h3, h4, _⟩
    · rw [hv] at e; cases e
    · rw [hv] at e
      have e' : some g2 = some q := e
      injection e' with e'
      have := (Array.getElem?_eq_some_iff.1 h4).1
      omega
  have hw6 : Below w.heap.size w w6 := h2.below.grown hg h2.below.size (fun q e => (hlow q e).1)
  have hb6 : Below w.heap.size w5 w6 := (Below.refl w.heap.size w5).grown hg h2.below.size (fun q e => (hlow q e).1)
  have offx : ∀ q, v.ownBlock = some q → x.Off q := fun q e => hh.off (hlow q e).2
  have len : (l ++ [x]).length = l.length + 1 := by simp
  rw [len]
  refine ⟨h2.dev.below (hb6.mono hB), ⟨?_, ?_, ?_⟩, ?_, ?_, ?_, hw6⟩
  · show _ = tabsF D.pg (rg * D.np) n ++ (tabOf (D.pg (rg * D.np + n))).toList
    rw [tab_ref_yes hq, List.map_append, h2.tls.same, ← hx]
    rfl
  · intro y hy
    rcases List.mem_append.1 hy with hy | hy
    · exact ((h2.tls.ok y hy).grown hg (Nat.le_refl _) (fun q e => h.off y hy q e)).up hg.size
    · rw [List.mem_singleton.1 hy]
      exact (ho.grown hg (Nat.le_refl _) offx).up hg.size
  · intro y hy
    rcases List.mem_append.1 hy with hy | hy
    · exact h.tls.few y hy
    · rw [List.mem_singleton.1 hy]; exact hf
  · rw [rowT_app, len]; exact hown
  · intro y hy q e
    rcases hat with e2 | e2
    · rw [e2] at e
      rcases List.mem_append.1 hy with hy | hy
      · exact h.off y hy q e
      · rw [List.mem_singleton.1 hy]; exact offx q e
    · rw [e2] at e
      injection e with e
      rcases List.mem_append.1 hy with hy | hy
      · exact (h2.tls.ok y hy).off (by omega)
      · rw [List.mem_singleton.1 hy]; exact ho.off (by omega)
  · intro y hy
    rcases List.mem_append.1 hy with hy | hy
    · exact h.hi y hy
    · rw [List.mem_singleton.1 hy]; exact hh.mono h.below.size
theorem hi_rowR {w W : World} {l : List Tl} {A : Option Addr} {c : Nat} (h : W.ownsRow w.heap.size 26 4 (.slice A l.length c) l.length (rowT l)) : rowT l = [] ∨ ∃ a, A = some a ∧ w.heap.size ≤ a.block := by
  rcases h.2 with ⟨_, hn⟩ | ⟨g, cap, cur, hv, hb, _⟩
  · left
    exact List.eq_nil_of_length_eq_zero (by rw [rowT_len, hn])
  · injection hv with hA _ _
    exact .inr ⟨_, hA, hb⟩
end
/-- What the reference's region of a page leaves behind. -/
def TabE (w : World) (b : List UInt8) (g : Nat) (x : Tl) (W : World) : Prop := BoxT x g W ∧ x.Ok W W.heap.size ∧ (x.t = if RefTab b then readR (headOf b) (dataOf b) else zeroT) ∧ x.Few ∧ x.Hi w.heap.size ∧ Below w.heap.size w W
theorem TabE.after {w w4 : World} {b : List UInt8} {x : Tl} (ho : x.Ok w4 w4.heap.size) (ht : x.t = if RefTab b then readR (headOf b) (dataOf b) else zeroT) (hf : x.Few) (hh : x.Hi w.heap.size) (hb : Below w.heap.size w w4) : TabE w b w4.heap.size x (w4.alloc (.cells #[.int .u64 (x.t.seq : Int), .slice x.A1 x.t.bad.length x.c1, .slice x.A2 x.t.wear.length x.c2, .slice x.A3 x.t.void.length x.c3] 26)) :=
  ⟨BoxT.new x w4, (ho.below ((Below.refl _ _).alloc (Nat.le_refl _) _)).up (by simp), ht, hf, hh, hb.alloc hb.size _⟩
theorem TabE.ahead {w w4 : World} {b : List UInt8} {x : Tl} (hz : BoxT zeroTl w.heap.size w4) (ho : x.Ok w4 w4.heap.size) (ht : x.t = if RefTab b then readR (headOf b) (dataOf b) else zeroT) (hf : x.Few) (hh : x.Hi (w.heap.size + 1)) (hb : Below w.heap.size w w4) : TabE w b w.heap.size x ((((w4.setCell ⟨w.heap.size, 0, none⟩ (.int .u64 (x.t.seq : Int))).setCell ⟨w.heap.size, 1, none⟩ (.slice x.A1 x.t.bad.length x.c1)).setCell ⟨w.heap.size, 2, none⟩ (.slice x.A2 x.t.wear.length x.c2)).setCell ⟨w.heap.size, 3, none⟩ (.slice x.A3 x.t.void.length x.c3)) :=
  ⟨boxT4 hz, ho.putS (y := x) (hh.off (Nat.lt_succ_self _)), ht, hf, hh.mono (Nat.le_succ _), putT_below hb (Nat.le_refl _) x⟩
section
variable {w : World} {B0 B : Nat} {q : Pn} {D : Dv} {r rp rn rw cp cn cw : Nat}
set_option maxHeartbeats 4000000 in
theorem rtabs_any (h : RefAt w B0 B q D r rp rn rw cp cn cw) (hB : B ≤ w.heap.size) (hpl : ∀ i, i < D.nb * D.np → (D.pg i).length = 256) (rg : Nat) (hr : rg < 2) :
    Calls Tryz.prog 55 #[.pointer (some ⟨r, 0, none⟩), .int .i64 (rg : Int)] w fun e w' => ∃ (l : List Tl) (A : Option Addr) (c : Nat), e = .returned (.slice A l.length c) ∧ Tls l (D.tabs rg) w' ∧ Lies w' w'.heap.size A (rowT l) ∧ (rowT l = [] ∨ ∃ a, A = some a ∧ w.heap.size ≤ a.block) ∧ (∀ x ∈ l, x.Hi w.heap.size) ∧ Below w.heap.size w w' := by
  obtain ⟨s1, s2, s3, s4, s5, s6⟩ := h.sides
  have HS := hide (And.intro s1 (And.intro s2 (And.intro s3 s4)))
  have HPL := hide hpl
  have Hr := hide hr
  have HBB := hide hB
  have Hp := hide s6
  have S0 : Hid (TabR w D q rg 0 r B0 B rp rn rw cp cn cw [] (.slice none 0 0) w) := hide
    ⟨h, ⟨rfl, by simp, by simp⟩, ⟨rfl, .inl ⟨rfl, rfl⟩⟩, (fun x hx => absurd hx (by simp)), (fun x hx => absurd hx (by simp)), Below.refl _ _⟩
  clear h hB hpl hr s1 s2 s3 s4 s5 s6
  go_enter Tryz.func55, Tryz.ntmps55
  go_wp2
  go_loopw [5, 6, 7, 8] (fun v i _ _ wr => ∃ (n : Nat) (l : List Tl) (A : Option Addr) (c : Nat), n ≤ D.np ∧ v = .slice A l.length c ∧ i = .int .i64 (n : Int) ∧ Hid (TabR w D q rg n r B0 B rp rn rw cp cn cw l (.slice A l.length c) wr)) (fun _ i _ _ _ => D.np - (intOf i).toNat)
  case atStart => exact ⟨0, [], none, 0, Nat.zero_le _, rfl, rfl, S0⟩
  case round =>
    obtain ⟨n, l, A, c, hn, rfl, rfl, HT⟩ := hrel
    clear S0
    have c1 := HT.out.dev.c 1 (.int .i64 (D.np : Int)) (by rw [← Hp.out]; rfl)
    by_cases hlt : n < D.np
    · have hlt' : (n : Int) < (D.np : Int) := by omega
      have e7 : wrap64 ((n : Int) + 1) = ((n + 1 : Nat) : Int) := by have := HS.out.2.2.2; unfold wrap64; omega
      obtain ⟨Z, I, N, hN, hZ, hI, hIN, hIN2, hNb, k1, k2, k3, k4⟩ := pg_nums (x := rg) (y := n) (nb := D.nb) (np := D.np) (by have := HS.out.1; have := Hr.out; omega) HS.out.2.1 HS.out.2.2.2 hlt
      have hBw := hide (Nat.le_trans HBB.out HT.out.below.size)
      have Hn := hide (show n + 1 ≤ D.np from hlt)
      have Hlen := hide (show l.length ≤ 1000 by rw [HT.out.tls.len]; exact Nat.le_trans (tabsF_few _ _ _) (Nat.le_trans hn (Nat.le_trans HS.out.2.2.2 (by decide))))
      have HTd := hide (HT.out.later hBw.out ((Below.refl _ _).drew))
      have d1 := HTd.out.dev.c 1 (.int .i64 (D.np : Int)) (by rw [← Hp.out]; rfl)
      have d2 := HTd.out.dev.c 4 (.slice (some ⟨rp, 0, none⟩) N cp) (by rw [hN]; rfl)
      have d3 := HTd.out.dev.pages.cell (j := I) (by rw [← hN]; exact hIN)
      have F := hide (fun W => rread17_any (D.pg I) W (by rw [HPL.out I (by rw [← hN]; exact hIN)]; decide))
      have HI := hide hI
      clear hZ hI hNb hlt
      go_upto_region 5 with fail
      go_cut [7, 8] from 9 to 41 (fun a b wx => ∃ (x : Tl) (g : Nat), a = .pointer (some ⟨g, 0, none⟩) ∧ b = .bool (decide (RefTab (D.pg I))) ∧ Hid (TabE wr (D.pg I) g x wx))
      case first =>
        have Hd := hide ((Below.refl wr.heap.size wr).drew)
        have Ha := hide ((Below.refl wr.heap.size wr).alloc (Nat.le_refl _) (.cells zeroTl.cells.toArray 26))
        have Had := hide (Ha.out.drew)
        have HZ : Hid (BoxT zeroTl wr.heap.size (wr.alloc (.cells zeroTl.cells.toArray 26)).drew) := hide (BoxT.new zeroTl wr)
        have F2 := hide (F.out (wr.alloc (.cells zeroTl.cells.toArray 26)).drew)
        rw [show zeroTl.cells.toArray = #[.int .u64 0, .slice none 0 0, .slice none 0 0, .slice none 0 0] from rfl] at Ha Had HZ F2
        have F1 := hide (F.out wr.drew)
        have HTa := hide (HT.out.later hBw.out Ha.out)
        have g1 := HTa.out.dev.c 1 (.int .i64 (D.np : Int)) (by rw [← Hp.out]; rfl)
        have g2 := HTa.out.dev.c 4 (.slice (some ⟨rp, 0, none⟩) N cp) (by rw [hN]; rfl)
        have g3 := HTa.out.dev.pages.cell (j := I) (by rw [← hN]; exact hIN)
        clear HT HTd HTa hN hIN
        go_region_law (first
          | (refine step_callP (f := 85) (args := #[.string (str (D.pg I))]) rfl (by simp [Act.eval, go_sem]) (F1.out.mono ?_); rintro e w4 ⟨x, rfl, hxt, hxo, hxf, hxh, hxb⟩; refine ⟨_, rfl, ?_⟩; rw [show x.val = .agg #[.int .u64 (x.t.seq : Int), .slice x.A1 x.t.bad.length x.c1, .slice x.A2 x.t.wear.length x.c2, .slice x.A3 x.t.void.length x.c3] from rfl]; have HE := hide (TabE.after (w := wr) hxo hxt hxf hxh (Hd.out.trans hxb)); clear hxt hxo hxf hxh hxb)
          | (refine step_callP (f := 85) (args := #[.string (str (D.pg I))]) rfl (by simp [Act.eval, go_sem]) (F2.out.mono ?_); rintro e w4 ⟨x, rfl, hxt, hxo, hxf, hxh, hxb⟩; refine ⟨_, rfl, ?_⟩; rw [show x.val = .agg #[.int .u64 (x.t.seq : Int), .slice x.A1 x.t.bad.length x.c1, .slice x.A2 x.t.wear.length x.c2, .slice x.A3 x.t.void.length x.c3] from rfl]; have HK4 := hide (show BoxT zeroTl wr.heap.size w4 from HZ.out.below hxb (by simp [World.drew])); have z0 := HK4.out.c 0 _ rfl; have z1 := HK4.out.c 1 _ rfl; have z2 := HK4.out.c 2 _ rfl; have z3 := HK4.out.c 3 _ rfl; have y0 := HK4.out.free 0; have y1 := HK4.out.free 1; have y2 := HK4.out.free 2; have y3 := HK4.out.free 3; have HE := hide (TabE.ahead (w := wr) HK4.out hxo hxt hxf (hxh.mono (by simp [World.drew])) (Had.out.trans (hxb.mono (by simp [World.drew])))); clear hxt hxo hxf hxh hxb))
        all_goals
          go_wp2_with fail
          go_meet
          exact ⟨x, _, rfl, rfl, HE⟩
      case rest =>
        obtain ⟨x, g, rfl, rfl, HE⟩ := hcut
        have HX := hide HE.out.1
        have HO := hide HE.out.2.1
        have HXt := hide HE.out.2.2.1
        have HF4 := hide HE.out.2.2.2.1
        have HH4 := hide HE.out.2.2.2.2.1
        have HB4 := hide HE.out.2.2.2.2.2
        clear HE
        have e1 : x.cells.toArray = #[.int .u64 (x.t.seq : Int), .slice x.A1 x.t.bad.length x.c1, .slice x.A2 x.t.wear.length x.c2, .slice x.A3 x.t.void.length x.c3] := rfl
        clear F HTd c1 d1 d2 d3
        by_cases hR : RefTab (D.pg I)
        · rw [decide_eq_true hR]
          rw [if_pos hR] at HXt
          rw [HI.out] at hR HXt
          have HA5 := hide (HB4.out.alloc HB4.out.size (.cells x.cells.toArray 26))
          have HO5 := hide ((HO.out.below ((Below.refl wc.heap.size wc).alloc (Nat.le_refl _) (.cells x.cells.toArray 26))).up (show wc.heap.size ≤ (wc.alloc (.cells x.cells.toArray 26)).heap.size by simp))
          rw [e1] at HA5 HO5
          have c0 := HX.out.c 0 _ rfl
          have c1 := HX.out.c 1 _ rfl
          have c2 := HX.out.c 2 _ rfl
          have c3 := HX.out.c 3 _ rfl
          have HR := hide hR
          clear hR e1 hlt' hn
          go_wp2_with (at_builtin; refine wpl_app _ rfl telems (.tmp 38) (.tmp 40) rfl w.heap.size _ l.length (rowT l) rfl (own_keepT HT.out.own HA5.out) (wc.heap.size + 1) (some ⟨wc.heap.size, 0, none⟩) 1 1 _ rfl (by rfl) (Lies.new wc _ _ _ _ (Nat.lt_succ_self _)) (by simp [Value.oneCell']) (by have := Hlen.out; unfold maxLen; omega) (by have := Hlen.out; omega) (Nat.le_trans HT.out.below.size HA5.out.size) ?_; intro A2 c2 w5 hown hg hat; have HT5 := hide (HT.out.more HBB.out HA5.out HR.out HXt.out HO5.out HF4.out HH4.out hown hg hat); clear hown hg hat)
          go_wp2
          go_roundw
          case rel => exact ⟨n + 1, l ++ [x], A2, c2, Hn.out, congrArg (fun q : Nat => Value.slice A2 q c2) (by simp), by first | rfl | exact congrArg (Value.int .i64) e7, HT5⟩
          case measure => first | exact measT Hn.out | exact measT2 e7 Hn.out
        · rw [decide_eq_false hR]
          rw [HI.out] at hR
          have HT4 := hide (HT.out.skip hBw.out HB4.out hR)
          clear hR e1 hlt' hn
          go_wp2
          go_roundw
          case rel => exact ⟨n + 1, l, A, c, Hn.out, rfl, by first | rfl | exact congrArg (Value.int .i64) e7, HT4⟩
          case measure => first | exact measT Hn.out | exact measT2 e7 Hn.out
    · obtain rfl : n = D.np := by omega
      have HT4 := HT
      clear hlt hn
      go_wp2
      go_ret
      exact ⟨l, A, c, rfl, HT4.out.tls, Lies.of_own HT4.out.own, hi_rowR HT4.out.own, HT4.out.hi, HT4.out.below⟩
end
end
section
open Go.RowKit
set_option maxRecDepth 8000

/-- The region that the reference's Newest tells. -/
def newP : Option (Tb × Nat) → Int
  | none => -1
  | some (_, r) => (r : Int)
/-- What the reference's Newest takes. -/
def takR : Option (Tb × Nat) → Tb → Bool
  | none, _ => true
  | some (u, _), t => decide (u.seq ≤ t.seq)
theorem stepR_yes {r : Nat} {acc : Option (Tb × Nat)} {t : Tb} (h : takR acc t = true) : stepR r acc t = some (t, r) := by
  rcases acc with _ | ⟨u, b⟩
  · rfl
  · exact if_pos (of_decide_eq_true h)
theorem stepR_no {r : Nat} {acc : Option (Tb × Nat)} {t : Tb} (h : takR acc t = false) : stepR r acc t = acc := by
  rcases acc with _ | ⟨u, b⟩
  · exact absurd (show true = false from h) (by decide)
  · exact if_neg (of_decide_eq_false h)
/-- What the outer loop has behind s regions. -/
def accR (D : Dv) : Nat → Option (Tb × Nat)
  | 0 => none
  | 1 => (D.tabs 1).foldl (stepR 1) none
  | _ => D.newest
theorem accR_step (D : Dv) {s r : Nat} (hr : (r : Int) = 1 - (s : Int)) : (D.tabs r).foldl (stepR r) (accR D s) = accR D (s + 1) := by
  rcases (by omega : (s = 0 ∧ r = 1) ∨ (s = 1 ∧ r = 0)) with ⟨rfl, rfl⟩ | ⟨rfl, rfl⟩
  · rfl
  · exact newest_ref D
theorem take_stepR {r : Nat} {a : Option (Tb × Nat)} {l : List Tl} {T : List Tb} {j : Nat} (h : l.map (·.t) = T) (hj : j < l.length) : (T.take (j + 1)).foldl (stepR r) a = stepR r ((T.take j).foldl (stepR r) a) l[j].t :=
  fold_take _ _ _ _ _ (by rw [← h, List.getElem?_map, List.getElem?_eq_getElem hj]; rfl)
/-- What the reference's Newest's loops know. -/
structure NewR (w : World) (D : Dv) (q : Pn) (r B0 B rp rn rw cp cn cw : Nat) (acc : Option (Tb × Nat)) (x : Tl) (W : World) : Prop where
  dev : RefAt W B0 B q D r rp rn rw cp cn cw
  bz : BoxT zeroTl w.heap.size W
  bx : BoxT x (w.heap.size + 1) W
  ok : x.Ok W W.heap.size
  few : x.Few
  off0 : x.Off w.heap.size
  off1 : x.Off (w.heap.size + 1)
  hi : x.Hi w.heap.size
  same : x.t = (newV acc).1
  below : Below w.heap.size w W
section
variable {w W W' : World} {D : Dv} {q : Pn} {r B0 B rp rn rw cp cn cw : Nat} {acc acc' : Option (Tb × Nat)} {x y : Tl}
theorem NewR.later (h : NewR w D q r B0 B rp rn rw cp cn cw acc x W) (hB : B ≤ W.heap.size) (hb : Below W.heap.size W W') : NewR w D q r B0 B rp rn rw cp cn cw acc x W' :=
  ⟨h.dev.below (hb.mono hB), h.bz.below hb h.bz.lt, h.bx.below hb h.bx.lt, (h.ok.below hb).up hb.size, h.few, h.off0, h.off1, h.hi, h.same, h.below.trans (hb.mono h.below.size)⟩
theorem NewR.take (h : NewR w D q r B0 B rp rn rw cp cn cw acc x W) (hB : B ≤ w.heap.size) (ho : y.Ok W W.heap.size) (hf : y.Few) (h0 : y.Off w.heap.size) (h1 : y.Off (w.heap.size + 1)) (hh : y.Hi w.heap.size) (e : y.t = (newV acc').1) : NewR w D q r B0 B rp rn rw cp cn cw acc' y (putT W (w.heap.size + 1) y) :=
  ⟨h.dev.below (putT_below (Below.refl _ _) (by omega) y), h.bz.putT (by omega), boxT4 h.bx, by rw [putT_size]; exact ho.putT h1, hf, h0, h1, hh, e, putT_below h.below (Nat.le_succ _) y⟩
end
theorem measD {rg : Nat} {z : Int} (e : z = (rg : Int) - 1) : (intOf (.int .i64 z) + 1).toNat < (intOf (.int .i64 (rg : Int)) + 1).toNat := by
  rw [e]
  show ((rg : Int) - 1 + 1).toNat < ((rg : Int) + 1).toNat
  omega
section
variable {w : World} {B0 B : Nat} {q : Pn} {D : Dv} {r rp rn rw cp cn cw : Nat}
set_option maxHeartbeats 8000000 in
theorem rnewest_any (h : RefAt w B0 B q D r rp rn rw cp cn cw) (hB : B ≤ w.heap.size) (hpl : ∀ i, i < D.nb * D.np → (D.pg i).length = 256) :
    Calls Tryz.prog 28 #[.pointer (some ⟨r, 0, none⟩)] w fun e w' => ∃ x : Tl, e = .returned (.tuple #[x.val, .int .i64 (newP D.newest)]) ∧ x.t = (newV D.newest).1 ∧ x.Ok w' w'.heap.size ∧ x.Few ∧ x.Hi w.heap.size ∧ Below w.heap.size w w' := by
  have hs := h.sides
  have hb1 := (Below.refl w.heap.size w).alloc (Nat.le_refl _) (.cells zeroTl.cells.toArray 26)
  have hb2 := hb1.alloc hb1.size (.cells zeroTl.cells.toArray 26)
  have hz1 := BoxT.new zeroTl w
  have hz2 := BoxT.new zeroTl (w.alloc (.cells zeroTl.cells.toArray 26))
  have hs1 : (w.alloc (.cells zeroTl.cells.toArray 26)).heap.size = w.heap.size + 1 := by simp
  rw [hs1] at hz2
  have S0 : Hid (NewR w D q r B0 B rp rn rw cp cn cw (accR D 0) zeroTl ((w.alloc (.cells zeroTl.cells.toArray 26)).alloc (.cells zeroTl.cells.toArray 26))) := hide
    ⟨h.below (hb2.mono hB), hz1.below ((Below.refl _ _).alloc (Nat.le_refl _) _) hz1.lt, hz2, zeroTl_ok _ _, zeroTl_few, (zeroTl_hi (w.heap.size + 1)).off (Nat.lt_succ_self _), (zeroTl_hi (w.heap.size + 2)).off (Nat.lt_succ_self _), zeroTl_hi _, rfl, hb2⟩
  rw [show zeroTl.cells.toArray = #[.int .u64 0, .slice none 0 0, .slice none 0 0, .slice none 0 0] from rfl] at S0
  have HBB := hide hB
  have HS := hide hs
  have HPL := hide hpl
  clear h hB hpl hs hb1 hb2 hz1 hz2 hs1
  go_enter Tryz.func28, Tryz.ntmps28
  go_wp2
  generalize (w.alloc (.cells #[.int .u64 0, .slice none 0 0, .slice none 0 0, .slice none 0 0] 26)).alloc (.cells #[.int .u64 0, .slice none 0 0, .slice none 0 0, .slice none 0 0] 26) = w2 at *
  go_loopw [5, 6, 7, 8] (fun a i _ _ wr => ∃ (s : Nat) (x : Tl) (p z : Int), s ≤ 2 ∧ a = .int .i64 p ∧ i = .int .i64 z ∧ Hid (NewR w D q r B0 B rp rn rw cp cn cw (accR D s) x wr) ∧ Hid (p = newP (accR D s)) ∧ Hid (z = 1 - (s : Int))) (fun _ i _ _ _ => (intOf i + 1).toNat)
  case atStart => exact ⟨0, zeroTl, -1, 1, Nat.zero_le _, rfl, rfl, S0, hide rfl, hide rfl⟩
  case round =>
    obtain ⟨s, x, p, z, hr, rfl, rfl, HT, HV, HZ⟩ := hrel
    clear S0
    by_cases hlt : s < 2
    · obtain ⟨rg, rfl, hrg⟩ : ∃ rg : Nat, z = (rg : Int) ∧ rg < 2 := ⟨(1 - (s : Int)).toNat, by have := HZ.out; omega, by omega⟩
      have hlt' : (0 : Int) ≤ (rg : Int) := by omega
      have e7 : wrap64 ((rg : Int) - 1) = (rg : Int) - 1 := by unfold wrap64; omega
      have Hs1 := hide (show s + 1 ≤ 2 ∧ (rg : Int) - 1 = 1 - ((s + 1 : Nat) : Int) by have := HZ.out; omega)
      have HBw := hide (Nat.le_trans HBB.out HT.out.below.size)
      have F := hide (rtabs_any HT.out.dev HBw.out HPL.out rg hrg)
      go_wp2_with fail
      (with_reducible refine F.out.mono ?_)
      rintro e w3 ⟨l, A, c, rfl, htl, hli, hro, hhi, hb⟩
      have HT3 := hide (HT.out.later HBw.out hb)
      have Htl := hide htl
      have Hli := hide hli
      have Hro := hide hro
      have Hhi := hide hhi
      have Hkn := hide (show w.heap.size + 1 < wr.heap.size from HT.out.bx.lt)
      clear htl hli hro hhi hb F
      have Hof := hide (fun z (hz : z ∈ l) => (⟨(Hhi.out z hz).off (by have := Hkn.out; omega), (Hhi.out z hz).off Hkn.out⟩ : z.Off w.heap.size ∧ z.Off (w.heap.size + 1)))
      have Hih := hide (fun z (hz : z ∈ l) => (Hhi.out z hz).mono HT.out.below.size)
      have Hfar := hide (fun z (hz : z ∈ l) => (Hof.out z hz).2)
      have Hro2 : Hid (rowT l = [] ∨ ∃ a, A = some a ∧ a.block ≠ w.heap.size + 1) := hide (Hro.out.imp id (fun ⟨a, h1, h2⟩ => ⟨a, h1, by have := Hkn.out; omega⟩))
      have Hfl := hide (show l.length ≤ 1000 by rw [Htl.out.len]; exact Nat.le_trans (tabsF_few _ _ _) (Nat.le_trans HS.out.2.2.2.1 (by decide)))
      have Hlt := hide hlt
      clear Hro Hhi Hkn HT HBw hlt hr
      generalize wr = wq at *
      go_wp2
      go_loopw [5, 8] (fun a i wr => ∃ (j : Nat) (x : Tl) (p : Int), j ≤ l.length ∧ a = .int .i64 p ∧ i = .int .i64 (j : Int) ∧ Hid (NewR w D q r B0 B rp rn rw cp cn cw (((D.tabs rg).take j).foldl (stepR rg) (accR D s)) x wr) ∧ Hid (p = newP (((D.tabs rg).take j).foldl (stepR rg) (accR D s))) ∧ Hid (Tls l (D.tabs rg) wr) ∧ Hid (Lies wr wr.heap.size A (rowT l))) (fun _ i _ => l.length - (intOf i).toNat)
      case atStart => exact ⟨0, x, p, Nat.zero_le _, rfl, rfl, HT3, HV, Htl, Hli⟩
      case round =>
        clear HT3 HV Htl Hli
        obtain ⟨j, x, p, hjl, rfl, rfl, HN, HV, Htl, Hli⟩ := hrel
        by_cases hj : j < l.length
        · have hj' : (j : Int) < (l.length : Int) := by omega
          have e8 : wrap64 ((j : Int) + 1) = ((j + 1 : Nat) : Int) := by have := Hfl.out; unfold wrap64; omega
          obtain ⟨y, hy⟩ : ∃ y, Hid (l[j] = y) := ⟨_, hide rfl⟩
          have hym : y ∈ l := by rw [← hy.out]; exact List.getElem_mem hj
          obtain ⟨acc, hacc⟩ : ∃ acc, ((D.tabs rg).take j).foldl (stepR rg) (accR D s) = acc := ⟨_, rfl⟩
          rw [hacc] at HN HV
          have HG := hide hacc
          obtain ⟨tk, htk⟩ : ∃ tk, Hid (tk = takR acc y.t) := ⟨_, hide rfl⟩
          have Hj := hide hj
          clear hacc hjl
          obtain ⟨a, rfl, hab, hca⟩ := Hli.out.elem Tl.cells_len hj (by decide)
          have c0 : wr.cell? (a.add (j * 4)) = some (.int .u64 (y.t.seq : Int)) := by
            have := hca 0 (.int .u64 (y.t.seq : Int)) (by rw [hy.out]; rfl)
            rwa [show (a.add (j * 4)).add 0 = a.add (j * 4) by rw [Addr.add_add']; rfl] at this
          have g0 := HN.out.bx.c 0 _ rfl
          have Hbr := hide (Below.refl wr.heap.size wr)
          clear hca hab
          go_upto_region 10 with fail
          go_cut [34] from 17 to 39 (fun b wx => b = .bool tk ∧ Hid (Below wr.heap.size wr wx))
          case first =>
            rcases acc with _ | ⟨u, b⟩
            · have hp := HV.out
              unfold newP at hp
              subst hp
              have : tk = true := htk.out
              subst this
              go_wp2
              go_quiet (fail)
              go_wp2
              go_meet
              exact ⟨rfl, hide (bel_drewN Hbr.out _)⟩
            · have hp := HV.out
              unfold newP at hp
              subst hp
              have hb0 : decide ((b : Int) < 0) = false := decide_eq_false (by omega)
              have Hxs : Hid (x.t = u) := hide HN.out.same
              by_cases h1 : x.t.seq ≤ y.t.seq
              · have h1' : decide ((x.t.seq : Int) ≤ (y.t.seq : Int)) = true := decide_eq_true (by omega)
                have : tk = true := by rw [htk.out]; exact decide_eq_true (by rw [← Hxs.out]; exact h1)
                subst this
                have H1 := hide h1
                clear h1
                go_wp2
                go_quiet (fail)
                go_wp2
                go_meet
                exact ⟨congrArg Value.bool (decide_eq_true H1.out), hide (bel_drewN Hbr.out _)⟩
              · have h1' : decide ((x.t.seq : Int) ≤ (y.t.seq : Int)) = false := decide_eq_false (by omega)
                have : tk = false := by rw [htk.out]; exact decide_eq_false (by rw [← Hxs.out]; exact h1)
                subst this
                have H1 := hide h1
                clear h1
                go_wp2
                go_quiet (fail)
                go_wp2
                go_meet
                exact ⟨congrArg Value.bool (decide_eq_false H1.out), hide (bel_drewN Hbr.out _)⟩
          case rest =>
            obtain ⟨rfl, HB4⟩ := hcut
            have HN4 := hide (HN.out.later (Nat.le_trans HBB.out HN.out.below.size) HB4.out)
            have Htl4 := hide (Htl.out.below HB4.out)
            have Hli4 := hide ((Hli.out.below HB4.out).up HB4.out.size)
            have Hok := hide (Htl4.out.ok y hym)
            have Hfw := hide (Htl.out.few y hym)
            have Hof := hide (Hof.out y hym)
            have Hyh := hide (Hih.out y hym)
            obtain ⟨a', ha', _, hca⟩ := Hli4.out.elem Tl.cells_len hj (by decide)
            injection ha' with ha'
            subst ha'
            rw [hy.out] at hca
            have Hca := hide hca
            have e1 : y.cells.toArray = #[.int .u64 (y.t.seq : Int), .slice y.A1 y.t.bad.length y.c1, .slice y.A2 y.t.wear.length y.c2, .slice y.A3 y.t.void.length y.c3] := rfl
            have HYj := hy
            clear HN Htl Hli hca hym c0 g0 Hbr
            by_cases ht : tk = true
            · rw [ht]
              have HT := hide (stepR_yes (r := rg) (by rw [← htk.out]; exact ht))
              have HK := hide (HN4.out.take (acc' := some (y.t, rg)) HBB.out Hok.out Hfw.out Hof.out.1 Hof.out.2 Hyh.out rfl)
              have g0 := HN4.out.bx.c 0 _ rfl
              have g1 := HN4.out.bx.c 1 _ rfl
              have g2 := HN4.out.bx.c 2 _ rfl
              have g3 := HN4.out.bx.c 3 _ rfl
              have y0 := HN4.out.bx.free 0
              have y1 := HN4.out.bx.free 1
              have y2 := HN4.out.bx.free 2
              have y3 := HN4.out.bx.free 3
              clear ht htk
              go_wp2_with (with_reducible refine wpl_load_addr rfl 26 (.tmp 37) rfl (a.add (j * 4)) y.cells Hca.out rfl _ Tryz.underlying26 rfl 4 infoTb rfl ?_; rw [e1])
              go_wp2
              go_roundw
              case rel => exact ⟨j + 1, y, (rg : Int), Hj.out, rfl, by first | rfl | exact congrArg (Value.int .i64) e8, hide (by rw [take_stepR Htl4.out.same Hj.out, HG.out, HYj.out, HT.out]; exact HK.out), hide (by rw [take_stepR Htl4.out.same Hj.out, HG.out, HYj.out, HT.out]; rfl), hide ⟨Htl4.out.same, fun z hz => (Htl4.out.ok z hz).putS (y := y) (Hfar.out z hz), Htl4.out.few⟩, hide (lies_putS Hli4.out Hro2.out y)⟩
              case measure => first | exact measT Hj.out | exact measT2 e8 Hj.out
            · have ht : tk = false := by simpa using ht
              rw [ht]
              have HT := hide (stepR_no (r := rg) (by rw [← htk.out]; exact ht))
              clear ht htk
              go_wp2
              go_roundw
              case rel => exact ⟨j + 1, x, p, Hj.out, rfl, by first | rfl | exact congrArg (Value.int .i64) e8, hide (by rw [take_stepR Htl4.out.same Hj.out, HG.out, HYj.out, HT.out]; exact HN4.out), hide (by rw [take_stepR Htl4.out.same Hj.out, HG.out, HYj.out, HT.out]; exact HV.out), Htl4, Hli4⟩
              case measure => first | exact measT Hj.out | exact measT2 e8 Hj.out
        · obtain rfl : j = l.length := by omega
          have hfull : ((D.tabs rg).take l.length).foldl (stepR rg) (accR D s) = accR D (s + 1) := by
            rw [Htl.out.len, List.take_length]; exact accR_step D HZ.out
          rw [hfull] at HN HV
          clear hfull Htl Hli hj hjl
          go_wp2
          go_roundw
          case rel => exact ⟨s + 1, x, p, (rg : Int) - 1, Hs1.out.1, rfl, by first | rfl | exact congrArg (Value.int .i64) e7, HN, HV, hide Hs1.out.2⟩
          case measure => first | exact measD rfl | exact measD e7
    · obtain rfl : s = 2 := by omega
      have hz : z = -1 := by have := HZ.out; omega
      subst hz
      have hp : p = newP D.newest := HV.out
      subst hp
      have HN : Hid (NewR w D q r B0 B rp rn rw cp cn cw D.newest x wr) := HT
      clear HT HV
      have c0 := HN.out.bx.c 0 _ rfl
      have c1 := HN.out.bx.c 1 _ rfl
      have c2 := HN.out.bx.c 2 _ rfl
      have c3 := HN.out.bx.c 3 _ rfl
      have z0 := HN.out.bz.c 0 _ rfl
      have z1 := HN.out.bz.c 1 _ rfl
      have z2 := HN.out.bz.c 2 _ rfl
      have z3 := HN.out.bz.c 3 _ rfl
      have y0 := HN.out.bz.free 0
      have y1 := HN.out.bz.free 1
      have y2 := HN.out.bz.free 2
      have y3 := HN.out.bz.free 3
      have HS9 := hide HN.out.same
      go_wp2
      have hok := HN.out.ok.putS (y := x) HN.out.off0
      exact bodyPost_ret (results_tb1 rfl _ _ x w.heap.size rfl (boxT4 HN.out.bz)) rfl ⟨x, rfl, HS9.out, hok, HN.out.few, HN.out.hi, putT_below HN.out.below (Nat.le_refl _) x⟩
end
end
end Go.Proofs.YtigpplckddnghaaGreat
