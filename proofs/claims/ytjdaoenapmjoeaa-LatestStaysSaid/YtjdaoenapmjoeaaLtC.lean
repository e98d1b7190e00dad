/-
  LAYER 19, CONTRACTS: chooser, and the function that it makes.
-/
import Derived.Test.YtjdaoenapmjoeaaLtB
import Derived.Maps.OwnOps
import Derived.Maps.Views
import Derived.Laws.EntriesVeiled
namespace Go.Proofs.Ytjdaoenapmjoeaa
open Go.RowKit
open Go.Maps (Keyed IsMap)
set_option maxRecDepth 8000

theorem keyI : Keyed Try.prog 3 := Go.Maps.int_keyed Try.underlying3
theorem key_int {lp : Int} (h : -9223372036854775808 ≤ lp ∧ lp ≤ 9223372036854775807) : Go.keyOf Try.prog 3 (.int .i64 lp) = some (.int .i64 lp) :=
  Go.Maps.keyOf_int_mk Try.underlying3 (by simp [Lit.wf, IntKind.min, IntKind.max, IntKind.bits, IntKind.signed]; omega)
theorem zero64 (w : World) : (zeroValue 26).run Try.prog w = .ok (.int .u64 0) w := by kernel_rfl
theorem wfU {b : Int} (h : 0 ≤ b ∧ b ≤ 18446744073709551615) : (Lit.int .u64 b).wf = true := by simp [Lit.wf, IntKind.min, IntKind.max, IntKind.bits, IntKind.signed]; omega
/-- A map from numbers to numbers: at each key the number that F says (0 where there is none). -/
def Nm (W : World) (b n : Nat) (F : Int → Int) : Prop :=
  ∃ D : DataW Unit, W.ownsMap Try.prog 3 (plainElem Try.prog 26) b n D ∧ IsMap D ∧ ∀ lp : Int, D.atKey (.int .i64 lp) (.lit (.int .u64 0)) = .lit (.int .u64 (F lp))
theorem Nm.made (w : World) : Nm (w.alloc (.map #[] 0)) w.heap.size 0 (fun _ => 0) := ⟨_, World.ownsMap_made _ _ _ _, Go.Maps.isMap_empty, fun _ => rfl⟩
theorem Nm.below {W W' : World} {b n Bd : Nat} {F : Int → Int} (h : Nm W b n F) (hb : Below Bd W W') (hlt : b < Bd) : Nm W' b n F := by
  obtain ⟨D, h1, h2, h3⟩ := h
  refine ⟨D, ?_, h2, h3⟩
  obtain ⟨es, clock, h4, h5⟩ := h1
  exact ⟨es, clock, (hb.block b hlt).trans h4, h5⟩
theorem Nm.lt {W : World} {b n : Nat} {F : Int → Int} (h : Nm W b n F) : b < W.heap.size := by
  obtain ⟨D, h1, _⟩ := h
  exact h1.lt
theorem Nm.look {W : World} {b n : Nat} {F : Int → Int} (h : Nm W b n F) {lp : Int} (hl : -9223372036854775808 ≤ lp ∧ lp ≤ 9223372036854775807) :
    (Instr.lookup 61 (.map (some b)) (.int .i64 lp) false).run Try.prog W = .ok (.int .u64 (F lp)) W := by
  obtain ⟨D, h1, _, h3⟩ := h
  obtain ⟨c, hrun, hat, _⟩ := h1.lookup_int keyI Try.underlying61 Try.underlying26 (zero64 W) (key_int hl)
  rw [h3 lp] at hat
  injection hat with hat
  injection hat with _ hat
  rw [hat]
  exact hrun
theorem Nm.put {W : World} {b n : Nat} {F F2 : Int → Int} {D : DataW Unit} {lp v : Int} (hD : IsMap D) (h3 : ∀ lp : Int, D.atKey (.int .i64 lp) (.lit (.int .u64 0)) = .lit (.int .u64 (F lp)))
    (h : W.ownsMap Try.prog 3 (plainElem Try.prog 26) b (n + 1) (D.put (.int .i64 lp) (.lit (.int .u64 v)))) (hF : ∀ x, F2 x = if x = lp then v else F x) : Nm W b (n + 1) F2 := by
  refine ⟨_, h, hD.put _ _, fun x => ?_⟩
  rw [hF x]
  by_cases hx : x = lp
  · rw [if_pos hx, hx]
    exact Go.Maps.atKey_put_same hD (by simp [Go.WideAt.IsKeyLit]) _ _
  · rw [if_neg hx, Go.Maps.atKey_put_other (by intro e; injection e with _ e; exact hx e)]
    exact h3 x
theorem newO_ok {ns : List Int} (lp : Int) : ∀ l : List Fo, (∀ f ∈ l, f.Ok) → 0 ≤ newO ns l lp ∧ newO ns l lp ≤ 18446744073709551615 := by
  intro l h
  unfold newO
  have : ∀ (l : List Fo) (a : Int), (∀ f ∈ l, f.Ok) → 0 ≤ a ∧ a ≤ 18446744073709551615 → 0 ≤ l.foldl (fun h f => if countO ns f.bt = true ∧ f.lp = lp then max h f.bt else h) a ∧ l.foldl (fun h f => if countO ns f.bt = true ∧ f.lp = lp then max h f.bt else h) a ≤ 18446744073709551615 := by
    intro l
    induction l with
    | nil => intro a _ h; exact h
    | cons f l ih =>
      intro a hl ha
      rw [List.foldl_cons]
      refine ih _ (fun g hg => hl g (List.mem_cons_of_mem _ hg)) ?_
      have := (hl f (List.mem_cons_self ..)).2
      split <;> omega
  exact this l 0 h (by decide)

/-- A function that tells which finds are wanted; its memory lies below Bd. -/
def Chs (ns : List Int) (l : List Fo) (q5 q6 Bd : Nat) (W : World) : Prop :=
  q5 < Bd ∧ q6 < Bd ∧ ∃ q bm n, W.cell? ⟨q5, 0, none⟩ = some (.func (.func 34) #[] #[.pointer (some ⟨q, 0, none⟩)]) ∧ Cnt ns q Bd W ∧ W.cell? ⟨q6, 0, none⟩ = some (.map (some bm)) ∧ bm < Bd ∧ Nm W bm n (newO ns l)
theorem Chs.below {ns : List Int} {l : List Fo} {q5 q6 Bd : Nat} {W W' : World} (h : Chs ns l q5 q6 Bd W) (hb : Below Bd W W') : Chs ns l q5 q6 Bd W' := by
  obtain ⟨h1, h2, q, bm, n, h3, h4, h5, h6, h7⟩ := h
  exact ⟨h1, h2, q, bm, n, (hb.cell (p := ⟨q5, 0, none⟩) h1).trans h3, h4.below hb, (hb.cell (p := ⟨q6, 0, none⟩) h2).trans h5, h6, h7.below hb h6⟩
set_option maxHeartbeats 4000000 in
theorem wants_any (ns : List Int) (l : List Fo) (q5 q6 Bd : Nat) (f : Fo) (w : World) (h : Chs ns l q5 q6 Bd w) (hf : f.Ok) (hBd : Bd ≤ w.heap.size) :
    Calls Try.prog 27 #[.agg f.cells.toArray, .pointer (some ⟨q5, 0, none⟩), .pointer (some ⟨q6, 0, none⟩)] w fun e w' => e = .returned (.bool (wantO ns l f)) ∧ Below w.heap.size w w' := by
  rcases f with ⟨fx, fy, kd, ix, ct, bt, op, lp, ln⟩
  have hb := (Below.refl w.heap.size w).alloc (Nat.le_refl _) (.cells (Fo.cells ⟨fx, fy, kd, ix, ct, bt, op, lp, ln⟩).toArray 34)
  have HX := hide (BoxO.new ⟨fx, fy, kd, ix, ct, bt, op, lp, ln⟩ w)
  have h2 := h.below (hb.mono hBd)
  have HB := hide hb
  obtain ⟨R, hR⟩ : ∃ R, wantO ns l ⟨fx, fy, kd, ix, ct, bt, op, lp, ln⟩ = R := ⟨_, rfl⟩
  rw [hR]
  have HR : Hid ((countO ns bt && decide (bt = newO ns l lp)) = R) := hide hR
  have Hf := hide hf
  have eg : ∀ args w, (callFunc 34 args).run Try.prog w = .ok (.enter 34 args) w := enters_of Try.func34 (by kernel_rfl) rfl
  unfold Fo.cells at *
  dsimp only at *
  clear hb hR h hf
  go_enter Try.func27, Try.ntmps27
  go_upto_region 1 with fail
  generalize w.alloc (.cells #[.int .i64 fx, .int .i64 fy, .int .i64 kd, .int .i64 ix, .int .i64 ct, .int .u64 bt, .int .u64 op, .int .i64 lp, .int .i64 ln] 34) = w2 at *
  have x5 := HX.out.c 5 _ rfl
  have x7 := HX.out.c 7 _ rfl
  obtain ⟨_, _, q, bm, n, b5, hc, b6, _, hm⟩ := h2
  have F := hide (counts_any ns q Bd bt w2 hc)
  have L1 := hm.look Hf.out.1
  dsimp only at L1
  clear hc hm
  generalize newO ns l lp = nw at *
  generalize countO ns bt = cn at *
  cases cn with
  | false =>
    have hr := HR.out
    rw [Bool.false_and] at hr
    subst hr
    go_wp2_with (first | (go_at_fn 34; (with_reducible refine F.out.mono ?_); rintro e w' ⟨rfl, rfl⟩))
    go_ret
    exact ⟨rfl, HB.out⟩
  | true =>
    have hr := HR.out
    rw [Bool.true_and] at hr
    have Hr := hide hr
    clear hr
    go_wp2_with (first | (go_at_fn 34; (with_reducible refine F.out.mono ?_); rintro e w' ⟨rfl, rfl⟩))
    go_ret
    exact ⟨ret_bool (by rw [← Hr.out, Bool.eq_iff_iff]; simp), HB.out⟩
/-- What chooser keeps behind n of the finds. -/
structure Ch (w0 : World) (ns : List Int) (q5 q6 bm q : Nat) (l : List Fo) (n : Nat) (W : World) : Prop where
  c5 : W.cell? ⟨q5, 0, none⟩ = some (.func (.func 34) #[] #[.pointer (some ⟨q, 0, none⟩)])
  cnt : Cnt ns q bm W
  c6 : W.cell? ⟨q6, 0, none⟩ = some (.map (some bm))
  new : Nm W bm n (newO ns (l.take n))
  below : Below w0.heap.size w0 W
  lo : w0.heap.size < bm
  o5 : q5 < bm
  o6 : bm < q6
  h6 : q6 < W.heap.size
theorem Ch.later {w0 W W' : World} {ns : List Int} {q5 q6 bm q n : Nat} {l : List Fo} (h : Ch w0 ns q5 q6 bm q l n W) (hb : Below W.heap.size W W') : Ch w0 ns q5 q6 bm q l n W' :=
  ⟨(hb.cell (p := ⟨q5, 0, none⟩) (by have := h.o5; have := h.o6; have := h.h6; show q5 < _; omega)).trans h.c5, h.cnt.below (hb.mono (by have := h.o6; have := h.h6; omega)), (hb.cell (p := ⟨q6, 0, none⟩) h.h6).trans h.c6, h.new.below hb h.new.lt,
    h.below.trans (hb.mono h.below.size), h.lo, h.o5, h.o6, Nat.lt_of_lt_of_le h.h6 hb.size⟩
theorem Ch.put {w0 W W' : World} {ns : List Int} {q5 q6 bm q n m : Nat} {l : List Fo} (h : Ch w0 ns q5 q6 bm q l n W) (hg : W.grownBy W' (some bm)) (hn : Nm W' bm m (newO ns (l.take m))) : Ch w0 ns q5 q6 bm q l m W' := by
  have hb : ∀ k, k < W.heap.size → k ≠ bm → W'.heap[k]? = W.heap[k]? := fun k hk hne => hg.block k hk (fun e => hne (by injection e))
  have h6 := h.h6
  have o6 := h.o6
  have o5 := h.o5
  refine ⟨(World.cell?_of_block (a := ⟨q5, 0, none⟩) (hb q5 (by omega) (by omega))).trans h.c5, ?_, (World.cell?_of_block (a := ⟨q6, 0, none⟩) (hb q6 h6 (by omega))).trans h.c6, hn, h.below.grown hg h.below.size (fun k e => by injection e with e; have := h.lo; omega), h.lo, o5, o6, Nat.lt_of_lt_of_le h6 hg.size⟩
  exact h.cnt.below ⟨hg.os, hg.tape, hg.output, hg.size, fun k hk => hb k (by omega) (by omega)⟩
set_option maxHeartbeats 4000000 in
theorem chooser_any (A A2 : Option Addr) (n c n2 c2 B : Nat) (l : List Fo) (vs : List Int) (w : World) (hl : Lies w B A (rowO l)) (hv : Lies w B A2 (nums .u64 vs)) (hB : B ≤ w.heap.size) (hn : n = l.length) (hn2 : n2 = vs.length) (hbig : n ≤ 2000) (hbig2 : n2 ≤ 45) (hok : ∀ f ∈ l, f.Ok) :
    Calls Try.prog 17 #[.slice A n c, .slice A2 n2 c2] w fun e w' => ∃ q5 q6, e = .returned (.func (.func 27) #[] #[.pointer (some ⟨q5, 0, none⟩), .pointer (some ⟨q6, 0, none⟩)]) ∧ Chs (voidO l vs) l q5 q6 w'.heap.size w' ∧ w.heap.size < w'.heap.size ∧ Below w.heap.size w w' := by
  have F1 := hide (counter_any A A2 n c n2 c2 B l vs w hl hv hB hn hn2 hbig hbig2)
  obtain ⟨ns, hns⟩ : ∃ ns, voidO l vs = ns := ⟨_, rfl⟩
  rw [hns] at F1 ⊢
  have HL := hide hl
  have HB := hide hB
  have Hn := hide hn
  have Hbig := hide hbig
  have Hok := hide hok
  have hmm := @run_makeMap Try.prog
  have eg : ∀ args w, (callFunc 34 args).run Try.prog w = .ok (.enter 34 args) w := enters_of Try.func34 (by kernel_rfl) rfl
  clear hl hv hn hn2 hbig hbig2 hB hok hns
  go_enter Try.func17, Try.ntmps17
  go_wp2_with fail
  (with_reducible refine F1.out.mono ?_)
  rintro e w1 ⟨q, rfl, hc, hlt, hb⟩
  have C0 : Hid (Ch w ns w1.heap.size (w1.heap.size + 1 + 1) (w1.heap.size + 1) q l 0 (((w1.alloc (.cells #[.func (.func 34) #[] #[.pointer (some ⟨q, 0, none⟩)]] 56)).alloc (.map #[] 0)).alloc (.cells #[.map (some (w1.heap.size + 1))] 61))) := hide (by
    have b1 := (Below.refl w1.heap.size w1).alloc (Nat.le_refl _) (.cells #[.func (.func 34) #[] #[.pointer (some ⟨q, 0, none⟩)]] 56)
    have b2 := b1.alloc b1.size (.map #[] 0)
    have b3 := b2.alloc b2.size (.cells #[.map (some (w1.heap.size + 1))] 61)
    have hm := Nm.made (w1.alloc (.cells #[.func (.func 34) #[] #[.pointer (some ⟨q, 0, none⟩)]] 56))
    have e1 : (w1.alloc (.cells #[.func (.func 34) #[] #[.pointer (some ⟨q, 0, none⟩)]] 56)).heap.size = w1.heap.size + 1 := by simp
    rw [e1] at hm
    have e2 : ((w1.alloc (.cells #[.func (.func 34) #[] #[.pointer (some ⟨q, 0, none⟩)]] 56)).alloc (.map #[] 0)).heap.size = w1.heap.size + 1 + 1 := by simp
    have b22 := (Below.refl (w1.heap.size + 1) (w1.alloc (.cells #[.func (.func 34) #[] #[.pointer (some ⟨q, 0, none⟩)]] 56))).alloc (Nat.le_of_eq e1.symm) (.map #[] 0)
    have b23 := b22.alloc (by rw [e2]; omega) (.cells #[.map (some (w1.heap.size + 1))] 61)
    exact {
      c5 := (b23.cell (p := ⟨w1.heap.size, 0, none⟩) (Nat.lt_succ_self _)).trans (by simp)
      cnt := (hc.below b3).up (Nat.le_succ _)
      c6 := by
        have h4 := (heap_alloc_new ((w1.alloc (.cells #[.func (.func 34) #[] #[.pointer (some ⟨q, 0, none⟩)]] 56)).alloc (.map #[] 0)) (.cells #[.map (some (w1.heap.size + 1))] 61))
        rw [e2] at h4
        show World.cell? _ _ = _
        unfold World.cell?
        rw [h4]
        rfl
      new := hm.below ((Below.refl _ _).alloc (Nat.le_refl _) _) (by simp)
      below := hb.trans (b3.mono hb.size)
      lo := Nat.lt_succ_of_lt hlt
      o5 := Nat.lt_succ_self _
      o6 := Nat.lt_succ_self _
      h6 := by simp })
  clear hc hlt hb F1
  go_wp2_with fail
  generalize ((w1.alloc (.cells #[.func (.func 34) #[] #[.pointer (some ⟨q, 0, none⟩)]] 56)).alloc (.map #[] 0)).alloc (.cells #[.map (some (w1.heap.size + 1))] 61) = w2 at *
  generalize w1.heap.size + 1 + 1 = q6 at *
  generalize w1.heap.size + 1 = bm at *
  generalize w1.heap.size = q5 at *
  go_loopw [8, 15] (fun _ i wr => ∃ k : Nat, k ≤ n ∧ i = .int .i64 (k : Int) ∧ Hid (Ch w ns q5 q6 bm q l k wr)) (fun _ i _ => n - (intOf i).toNat)
  case atStart => exact ⟨0, Nat.zero_le _, rfl, C0⟩
  case round =>
    clear C0
    obtain ⟨k, hk, rfl, HC⟩ := hrel
    by_cases hlt : k < n
    · have hlt' : (k : Int) < (n : Int) := by omega
      have e7 : wrap64 ((k : Int) + 1) = ((k + 1 : Nat) : Int) := by have := Hbig.out; unfold wrap64; omega
      have hnl : k < l.length := by rw [← Hn.out]; exact hlt
      obtain ⟨ad, rfl, hab, hca⟩ := (HL.out.below (HC.out.below.mono HB.out)).elem Fo.cells_len hnl (by decide)
      have Hca := hide hca
      have Hnx := hide (fun lp => newO_next (ns := ns) hnl lp)
      have Hf := hide (Hok.out _ (List.getElem_mem hnl))
      generalize l[k] = f at *
      clear hca hab hnl
      rcases f with ⟨fx, fy, kd, ix, ct, bt, op, lp, ln⟩
      have HX4 := hide (BoxO.new ⟨fx, fy, kd, ix, ct, bt, op, lp, ln⟩ wr)
      have HA4 := hide (HC.out.later ((Below.refl wr.heap.size wr).alloc (Nat.le_refl _) (.cells (Fo.cells ⟨fx, fy, kd, ix, ct, bt, op, lp, ln⟩).toArray 34)))
      unfold Fo.cells at *
      dsimp only at *
      go_upto_region 6 with (with_reducible refine wpl_load_addr rfl 34 (.tmp 17) rfl (ad.add (k * 9)) _ Hca.out rfl _ Try.underlying34 rfl 9 infoFo rfl ?_)
      generalize wr.alloc (.cells #[.int .i64 fx, .int .i64 fy, .int .i64 kd, .int .i64 ix, .int .i64 ct, .int .u64 bt, .int .u64 op, .int .i64 lp, .int .i64 ln] 34) = w4 at *
      have x5 := HX4.out.c 5 _ rfl
      have x7 := HX4.out.c 7 _ rfl
      have c5 := HA4.out.c5
      have c6 := HA4.out.c6
      have F := hide (counts_any ns q bm bt w4 HA4.out.cnt)
      have hkm : k < maxLen := by have := Hbig.out; unfold maxLen; omega
      obtain ⟨cn, hcn⟩ : ∃ cn, countO ns bt = cn := ⟨_, rfl⟩
      rw [hcn] at F
      have Hcn := hide hcn
      have Hkm := hide hkm
      clear hcn hkm
      cases cn with
      | false =>
        have HN := hide (show Ch w ns q5 q6 bm q l (k + 1) w4 from { HA4.out with new := (by
          obtain ⟨D, h1, h2, h3⟩ := HA4.out.new
          refine ⟨D, h1.mono (Nat.le_succ _), h2, fun x => ?_⟩
          rw [Hnx.out x, if_neg (fun h => absurd (Hcn.out.symm.trans h.1) (by decide))]
          exact h3 x) })
        go_wp2_with (first | (go_at_fn 34; (with_reducible refine F.out.mono ?_); rintro e w' ⟨rfl, rfl⟩))
        go_roundw
        case rel => exact ⟨k + 1, hlt, congrArg (Value.int .i64) e7, HN⟩
        case measure => first | exact measT hlt | exact measT2 e7 hlt
      | true =>
        have L1 := HA4.out.new.look Hf.out.1
        dsimp only at L1
        obtain ⟨D, h1, h2, h3⟩ := HA4.out.new
        have HD := hide (And.intro h2 h3)
        have hkey := key_int Hf.out.1
        have hwf := wfU (show 0 ≤ max (newO ns (l.take k) lp) bt ∧ max (newO ns (l.take k) lp) bt ≤ 18446744073709551615 from by
          have h := newO_ok (ns := ns) lp (l.take k) (fun f hf => Hok.out f (List.mem_of_mem_take hf))
          have h2 := Hf.out.2
          dsimp only at h2
          omega)
        have HN : Hid (∀ W, W.ownsMap Try.prog 3 (plainElem Try.prog 26) bm (k + 1) (D.put (.int .i64 lp) (.lit (.int .u64 (max (newO ns (l.take k) lp) bt)))) → w4.grownBy W (some bm) → Ch w ns q5 q6 bm q l (k + 1) W) := hide (fun W hW hg => HA4.out.put hg (by
          refine Nm.put HD.out.1 HD.out.2 hW (fun x => ?_)
          rw [Hnx.out x]
          by_cases hx : x = lp
          · subst hx
            rw [if_pos rfl, if_pos ⟨Hcn.out, rfl⟩]
          · rw [if_neg hx, if_neg (fun h => hx h.2.symm)]))
        generalize newO ns (l.take k) lp = nw at *
        clear h2 h3
        go_wp2_with (first
          | (go_at_fn 34; (with_reducible refine F.out.mono ?_); rintro e w' ⟨rfl, rfl⟩)
          | (at_mapUpdate; refine wpList_mapUpdate_own _ rfl _ _ _ 61 rfl 3 26 keyI Try.underlying61 (plainElem Try.prog 26) bm k D rfl h1 Hkm.out _ _ _ rfl rfl hkey _ [] (plainElem_int Try.underlying26 hwf) ?_; intro w5 hown5 hg5; have HC5 := hide (HN.out w5 hown5 hg5); clear hown5 hg5))
        go_wp2
        go_roundw
        case rel => exact ⟨k + 1, hlt, congrArg (Value.int .i64) e7, HC5⟩
        case measure => first | exact measT hlt | exact measT2 e7 hlt
    · obtain rfl : k = n := by omega
      have e : l.take k = l := List.take_of_length_le (by rw [← Hn.out]; exact Nat.le_refl _)
      have HE : Hid (Chs ns l q5 q6 wr.heap.size wr ∧ w.heap.size < wr.heap.size ∧ Below w.heap.size w wr) := hide (by
        have h := HC.out
        have h6 := h.h6
        have o6 := h.o6
        have o5 := h.o5
        have lo := h.lo
        have hn := h.new
        rw [e] at hn
        exact ⟨⟨by omega, h6, q, bm, k, h.c5, h.cnt.up (by omega), h.c6, by omega, hn⟩, by omega, h.below⟩)
      clear HC
      go_wp2
      go_ret
      exact ⟨q5, q6, rfl, HE.out⟩
end Go.Proofs.Ytjdaoenapmjoeaa
