/-
  LAYER 20, THE REFERENCE: Choose.
-/
import Derived.Test.YtofokljhlcdebaaPkO
import Derived.Test.YtofokljhlcdebaaPkP
import Derived.Test.YtofokljhlcdebaaPkK
namespace Go.Proofs.Ytofokljhlcdebaa
open Go.RowKit Go.Sort
set_option maxRecDepth 8000

theorem step_callQ {P : Program} {w : World} {ops : Array Oper} {o : Oper} {a : Act} {K : Act → World → Prop} {Q : Exit → Act → World → Prop} {F : Prop} (hgd : o.guard = none) {f : FuncId} {args : Array Value} (hr : (execOp a.eval o).run P w = .ok (.enter f args) w)
    (hc : Calls P f args w fun e w' => ∃ v, e = .returned v ∧ K (a.put o.dst v) w') : if Region.wanted o (yielded ops a.tmps) = true then Oper.wp P o a w K Q else F := by
  have hw : Region.wanted o (yielded ops a.tmps) = true := by simp [Region.wanted, hgd]
  rw [if_pos hw]
  unfold Oper.wp
  rw [hr]
  refine hc.mono ?_
  rintro e w' ⟨v, rfl, h⟩
  exact h
/-- What stands in the reference's play. -/
structure Cr (w0 : World) (l : List Cq) (bad : List Int) (R : List Pl2) (n d : Nat) (v : Value) (W : World) : Prop where
  ex : ∃ (L : List Pl2) (sk rest : List Int), W.ownsRow w0.heap.size 30 2 v n (rowQ L) ∧ Play (plsC l) bad R L sk rest ∧ rest.length + d ≤ n ∧ (∀ q ∈ L, Ok64 q.1)
  below : Below w0.heap.size w0 W
/-- What is put together as a block is freed, behind i of the places. -/
structure Co (w0 : World) (l : List Cq) (bad : List Int) (L : List Pl2) (b : Int) (i : Nat) (v : Value) (W : World) : Prop where
  own : W.ownsRow w0.heap.size 30 2 v i (rowQ ((freeP (plsC l) bad L b).take i))
  below : Below w0.heap.size w0 W
theorem Co.later {w0 W W' : World} {l : List Cq} {bad : List Int} {L : List Pl2} {b : Int} {i : Nat} {v : Value} (h : Co w0 l bad L b i v W) (hb : Below W.heap.size W W') : Co w0 l bad L b i v W' := ⟨own_keepT h.own hb, h.below.trans (hb.mono h.below.size)⟩
theorem freeP_ok {l : List Cq} {bad : List Int} {L : List Pl2} {b : Int} (hl : L.length = (plsC l).length) (hL : ∀ q ∈ L, Ok64 q.1) (hp : ∀ q ∈ l, ∀ p ∈ q.ps, Ok64 p.1) (hc : canP (plsC l) bad L b = true) : ∀ q ∈ freeP (plsC l) bad L b, Ok64 q.1 := by
  intro q hq
  obtain ⟨i, hi, rfl⟩ := List.getElem_of_mem hq
  have hi' : i < L.length := by rw [freeP_len hl] at hi; exact hi
  rw [freeP_at hl i hi']
  by_cases hb : L[i].1 = b
  · have h := (newP_same (bad := bad) (L := L) (b := b) (q := (L[i], (plsC l)[i]'(by rw [← hl]; exact hi'))) hb (canP_at hc hl i hi' hb)).1
    have hil : i < l.length := by unfold plsC at hl; rw [List.length_map] at hl; omega
    exact hp _ (List.getElem_mem hil) _ (by unfold plsC at h ⊢; rw [List.getElem_map] at h ⊢; exact h)
  · rw [newP_other hb]
    exact hL _ (List.getElem_mem hi')
theorem ins_asc (x : Int) : ∀ B : List Int, B.Pairwise (· < ·) → ∃ B2 : List Int, B2.Pairwise (· < ·) ∧ (∀ z, z ∈ B2 ↔ z = x ∨ z ∈ B) ∧ B2.length ≤ B.length + 1
  | [], _ => ⟨[x], List.pairwise_singleton _ _, fun z => by simp, by simp⟩
  | y :: B, h => by
    rw [List.pairwise_cons] at h
    by_cases h1 : x < y
    · refine ⟨x :: y :: B, ?_, fun z => by simp, by simp⟩
      rw [List.pairwise_cons, List.pairwise_cons]
      refine ⟨fun z hz => ?_, h⟩
      rcases List.mem_cons.1 hz with rfl | hz
      · exact h1
      · have := h.1 z hz; omega
    · by_cases h2 : x = y
      · exact ⟨y :: B, List.pairwise_cons.2 h, fun z => by subst h2; simp, by simp⟩
      · obtain ⟨B2, q1, q2, q3⟩ := ins_asc x B h.2
        refine ⟨y :: B2, List.pairwise_cons.2 ⟨fun z hz => ?_, q1⟩, fun z => ?_, by simp; omega⟩
        · rcases (q2 z).1 hz with rfl | hz
          · omega
          · exact h.1 z hz
        · rw [List.mem_cons, q2 z, List.mem_cons]
          constructor
          · rintro (h3 | h3 | h3)
            · exact .inr (.inl h3)
            · exact .inl h3
            · exact .inr (.inr h3)
          · rintro (h3 | h3 | h3)
            · exact .inr (.inl h3)
            · exact .inl h3
            · exact .inr (.inr h3)
theorem bl_exists : ∀ L : List Pl2, ∃ B, IsBl B L ∧ B.length ≤ L.length
  | [] => ⟨[], ⟨List.Pairwise.nil, fun x => by simp⟩, Nat.le_refl _⟩
  | p :: L => by
    obtain ⟨B, ⟨h1, h2⟩, h3⟩ := bl_exists L
    obtain ⟨B2, q1, q2, q3⟩ := ins_asc p.1 B h1
    refine ⟨B2, ⟨q1, fun x => ?_⟩, by rw [List.length_cons]; omega⟩
    rw [q2 x, h2 x, List.map_cons, List.mem_cons]
/-- What stands as a block is freed. -/
structure Cx (w0 : World) (l : List Cq) (bad : List Int) (L : List Pl2) (b : Int) (n : Nat) (Ax : Option Addr) (cx : Nat) (Ab : Option Addr) (Bl : List Int) (B i : Nat) (v : Value) (W : World) : Prop where
  row : W.ownsRow w0.heap.size 30 2 (.slice Ax n cx) n (rowQ L)
  bls : Lies W B Ab (nums .i64 Bl)
  big : B ≤ W.heap.size
  lowL : ∀ g, (Value.slice Ax n cx).ownBlock = some g → g < B
  own : W.ownsRow B 30 2 v i (rowQ ((freeP (plsC l) bad L b).take i))
  below : Below w0.heap.size w0 W
theorem Cx.later {w0 W W' : World} {l : List Cq} {bad : List Int} {L : List Pl2} {b : Int} {n : Nat} {Ax : Option Addr} {cx : Nat} {Ab : Option Addr} {Bl : List Int} {B i : Nat} {v : Value} (h : Cx w0 l bad L b n Ax cx Ab Bl B i v W) (hb : Below W.heap.size W W') : Cx w0 l bad L b n Ax cx Ab Bl B i v W' :=
  ⟨own_keepT h.row hb, h.bls.below (hb.mono h.big), Nat.le_trans h.big hb.size, h.lowL, own_keepT h.own hb, h.below.trans (hb.mono h.below.size)⟩
theorem Cx.more {w0 W W5 W6 : World} {l : List Cq} {bad : List Int} {L : List Pl2} {b : Int} {n : Nat} {Ax : Option Addr} {cx : Nat} {Ab : Option Addr} {Bl : List Int} {B i : Nat} {v : Value} {A5 : Option Addr} {c5 : Nat} {p : Pl2} (h : Cx w0 l bad L b n Ax cx Ab Bl B i v W) (hB : w0.heap.size ≤ B) (hp : (freeP (plsC l) bad L b)[i]? = some p) (hb : Below W.heap.size W W5) (hg : W5.grownBy W6 v.ownBlock)
    (hown : W6.ownsRow B 30 2 (.slice A5 (i + 1) c5) (i + 1) (rowQ ((freeP (plsC l) bad L b).take i) ++ plc p)) : Cx w0 l bad L b n Ax cx Ab Bl B (i + 1) (.slice A5 (i + 1) c5) W6 := by
  have h5 := h.later hb
  have hlow := own_lowS h5.own
  have bb : Below B W5 W6 := (Below.refl _ _).grown hg h5.big (fun j e => (hlow j e).1)
  obtain ⟨hl, he⟩ := List.getElem?_eq_some_iff.1 hp
  refine ⟨?_, h5.bls.below bb, Nat.le_trans h5.big bb.size, h5.lowL, ?_, h5.below.trans (bb.mono hB)⟩
  · refine h5.row.kept hg ?_
    cases hv : (Value.slice Ax n cx).ownBlock with
    | none => exact .inl rfl
    | some j => exact .inr (fun e => by
        have h8 := (hlow j e.symm).1
        have h9 := h5.lowL j hv
        omega)
  · have ht : (freeP (plsC l) bad L b).take (i + 1) = (freeP (plsC l) bad L b).take i ++ [p] := by rw [← List.take_append_getElem hl, he]
    rw [ht, rowQ_app]
    exact hown
theorem few_max {k : Nat} (h : k + 1 ≤ 1000) : k + 1 ≤ maxLen := by unfold maxLen; omega
theorem few_bytes {k : Nat} (h : k + 1 ≤ 1000) : (k + 1) * 16 ≤ 140737488355328 := by omega
theorem rest_lt {a b d : Nat} (h : a < b) : d + 1 ≤ b + d := by omega
theorem cell_below20 {n b : Nat} {w w' : World} {a : Addr} (hb : Below n w w') (h : b < n) (e : a.block = b) : w'.cell? a = w.cell? a := World.cell?_of_block (by rw [e]; exact hb.block b h)
theorem add_blk20 (a : Addr) (k : Nat) : (a.add k).block = a.block := by unfold Addr.add; split <;> rfl
theorem wrap_s20 {k : Nat} (h : k ≤ 100) : wrap64 ((k : Int) + 1) = ((k + 1 : Nat) : Int) := by unfold wrap64; omega
set_option maxHeartbeats 16000000 in
theorem choose20_any (A A2 : Option Addr) (n c n2 c2 : Nat) (l : List Cq) (bad : List Int) (w : World) (hl : Vq w w.heap.size A l) (hb : Lies w w.heap.size A2 (nums .i64 bad)) (hn : n = l.length) (hn2 : n2 = bad.length) (hbig : n ≤ 100) (hbig2 : n2 ≤ 100) (hne : ∀ q ∈ l, 0 < q.ps.length) (hps : ∀ q ∈ l, q.ps.length ≤ 1000 ∧ ∀ p ∈ q.ps, Ok64 p.1) :
    Calls Try.prog 18 #[.slice A n c, .slice A2 n2 c2] w fun e w' => ∃ (A3 : Option Addr) (c3 : Nat) (Bl : List Int), e = .returned (.slice A3 n c3) ∧ IsBl Bl (l.map headP) ∧ Lies w' w'.heap.size A3 (rowQ (runP (plsC l) bad Bl (l.map headP))) ∧ Below w.heap.size w w' := by
  have FB := hide (fun (A5 : Option Addr) (c5 : Nat) (L : List Pl2) W (h : Lies W W.heap.size A5 (rowQ L)) (hL : n = L.length) => blocks20_any A5 n c5 L W h hL (by omega))
  have FC := hide (fun (A5 : Option Addr) (c5 : Nat) (L : List Pl2) (b : Int) W (hW : Below w.heap.size w W) (h : Lies W W.heap.size A5 (rowQ L)) (hL : n = L.length) => can20_any A A5 A2 n c n c5 n2 c2 l L bad b W ((hl.below hW).up hW.size) h ((hb.below hW).up hW.size) hn hL hn2 (by omega) (by omega) (by omega) (fun q hq => (hps q hq).1))
  have FO := hide (fun (q : Cq) (hm : q ∈ l) (A5 : Option Addr) (c5 : Nat) (L : List Pl2) (b : Int) W (hW : Below w.heap.size w W) (h : Lies W W.heap.size A5 (rowQ L)) (hL : n = L.length) => other20_any q A5 A2 n c5 n2 c2 L bad b W (((hl.each q hm).below hW).up hW.size) h ((hb.below hW).up hW.size) hL hn2 (hps q hm).1 (by omega) (by omega))
  have HL := hide hl
  have Hn := hide hn
  have Hbig := hide hbig
  have Hne := hide hne
  have Hps := hide hps
  clear hl hb hn hn2 hbig hbig2 hne hps
  go_enter Try.func18, Try.ntmps18
  go_wp2
  go_loopw [5, 6] (fun v i wr => ∃ k : Nat, k ≤ n ∧ i = .int .i64 (k : Int) ∧ Hid (Nw w l k v wr)) (fun _ i _ => n - (intOf i).toNat)
  case atStart => exact ⟨0, Nat.zero_le _, rfl, hide ⟨World.ownsRow_nil _ _ _ _, Below.refl _ _⟩⟩
  case round =>
    obtain ⟨k, hk, rfl, HA4⟩ := hrel
    by_cases hlt : k < n
    · have hlt' : (k : Int) < (n : Int) := by omega
      have e7 : wrap64 ((k : Int) + 1) = ((k + 1 : Nat) : Int) := by have := Hbig.out; unfold wrap64; omega
      have hnl : k < l.length := by rw [← Hn.out]; exact hlt
      obtain ⟨ad, rfl, hab, hca⟩ := (HL.out.row.below HA4.out.below).elem Cq.cells_len hnl (by decide)
      have Hnx : Hid ((l.take (k + 1)).map headP = (l.take k).map headP ++ [headP l[k]]) := hide (by rw [← List.take_append_getElem hnl, List.map_append]; rfl)
      have Hpl2 := hide ((HL.out.each _ (List.getElem_mem hnl)).below HA4.out.below)
      have Hp0 := hide (Hne.out _ (List.getElem_mem hnl))
      generalize l[k] = f at *
      rcases f with ⟨lp, kd, fa, fc, ps⟩
      have x2 : wr.cell? ⟨(ad.add (k * 3)).block, (ad.add (k * 3)).off + 2, none⟩ = some (.slice fa ps.length fc) := by
        have := hca 2 _ rfl
        simpa [Addr.add] using this
      have Hlt := hide hlt
      have E7 := hide e7
      obtain ⟨ag, rfl, _, hcg⟩ := Hpl2.out.elem plc_len Hp0.out (by decide)
      have hh : ps[0]'Hp0.out = headP ⟨lp, kd, some ag, fc, ps⟩ := by
        unfold headP
        cases ps with
        | nil => exact absurd Hp0.out (by simp)
        | cons p r => rfl
      rw [hh] at hcg
      have Hcg := hide hcg
      have b0 : (0 : Int) < (ps.length : Int) := Int.ofNat_lt.2 Hp0.out
      generalize headP ⟨lp, kd, some ag, fc, ps⟩ = p at *
      rcases p with ⟨px, py⟩
      unfold plc at Hcg
      obtain ⟨v3, c3, hv3, _, _⟩ := own_form HA4.out.own
      subst hv3
      have HA6 := hide ((Below.refl wr.heap.size wr).alloc (Nat.le_refl _) (.cells #[.int .i64 px, .int .i64 py] 30))
      have Hsz := hide (Nat.le_trans HA4.out.below.size HA6.out.size)
      have Hk9 := hide (show k + 1 ≤ 1000 by have := Hlt.out; have := Hbig.out; omega)
      clear hcg hh Hp0 Hpl2 hca hab hnl hlt e7 hk
      rw [show ag.add (0 * 2) = ag by simp [Addr.add]] at Hcg
      go_wp2_with (first
        | (with_reducible refine wpl_load_addr rfl 30 (.tmp 25) rfl ag _ Hcg.out rfl _ Try.underlying30 rfl 2 infoPl2 rfl ?_)
        | (at_builtin; refine wpl_app _ rfl plelems (.tmp 19) (.tmp 27) rfl w.heap.size (.slice v3 k c3) k (rowQ ((l.take k).map headP)) rfl (own_keepT HA4.out.own HA6.out) (wr.heap.size + 1) (some ⟨wr.heap.size, 0, none⟩) 1 1 [.int .i64 px, .int .i64 py] rfl (by rfl) (Lies.new wr _ _ _ _ (Nat.lt_succ_self _)) (by simp [Value.oneCell']) (by have := Hk9.out; unfold maxLen; omega) (by have := Hk9.out; omega) Hsz.out ?_; intro A5 c5 w7 hown hg hat; have HN : Hid (Nw w l (k + 1) (.slice A5 (k + 1) c5) w7) := hide ⟨by rw [Hnx.out, rowQ_app]; exact hown, (HA4.out.below.trans (HA6.out.mono HA4.out.below.size)).grown hg Hsz.out (fun j e => (own_lowS HA4.out.own j e).1)⟩; clear hown hg hat))
      go_roundw
      case rel => exact ⟨k + 1, Hlt.out, congrArg (Value.int .i64) E7.out, HN⟩
      case measure => first | exact measT Hlt.out | exact measT2 E7.out Hlt.out
    · obtain rfl : k = n := by omega
      have e : l.take k = l := List.take_of_length_le (by rw [Hn.out]; exact Nat.le_refl _)
      obtain ⟨v3, c3, hv3, _, _⟩ := own_form HA4.out.own
      subst hv3
      have hown := HA4.out.own
      rw [e] at hown
      have HW := hide HA4.out.below
      have HO := hide hown
      clear HA4 hown
      obtain ⟨L0, hL0⟩ : ∃ L0, l.map headP = L0 := ⟨_, rfl⟩
      have HL0 := hide (show L0.length = l.length by rw [← hL0, List.length_map])
      have HokL := hide (show ∀ q ∈ L0, Ok64 q.1 from fun p hp => by
        rw [← hL0] at hp
        obtain ⟨q, hq, rfl⟩ := List.mem_map.1 hp
        exact (Hps.out q hq).2 _ (headP_mem (Hne.out q hq)))
      rw [hL0] at HO
      have HL00 := hide hL0
      clear hL0 e hlt hk
      rename_i K
      have e9 : wrap64 ((k : Int) + 1) = (k : Int) + 1 := wrap_s20 Hbig.out
      obtain ⟨B0, hB0, hB0n⟩ := bl_exists L0
      obtain ⟨R, hR⟩ : ∃ R, runP (plsC l) bad B0 L0 = R := ⟨_, rfl⟩
      have HRR := hide hR
      have HB0 := hide hB0
      have C0 : Hid (Cr w l bad R k 0 (.slice v3 k c3) wr) := hide ⟨⟨L0, [], B0, HO.out, by rw [← hR]; exact Play.start (by rw [HL0.out]; unfold plsC; rw [List.length_map]) hB0, by have := HL0.out; have := Hn.out; omega, HokL.out⟩, HW.out⟩
      clear hB0 hB0n hR HO HW
      go_wp2
      rw [e9]
      go_loopw [5, 8] (fun v i wq => ∃ d : Nat, d ≤ k ∧ i = .int .i64 (d : Int) ∧ Hid (Cr w l bad R k d v wq)) (fun _ i _ => k + 1 - (intOf i).toNat)
      case atStart => exact ⟨0, Nat.zero_le _, rfl, C0⟩
      case round =>
        clear C0
        obtain ⟨d, hd, rfl, HC⟩ := hrel
        obtain ⟨L, sk, rest, hrow, hpl, hrn, hok⟩ := HC.out.ex
        obtain ⟨Ax, cx, hv, _, _⟩ := own_form hrow
        subst hv
        have hd1 : (d : Int) < (k : Int) + 1 := by omega
        have hd2 : decide ((d : Int) < (k : Int) + 1) = true := decide_eq_true hd1
        have hLn : k = L.length := by rw [hpl.len]; unfold plsC; rw [List.length_map]; exact Hn.out
        have F := hide (FB.out Ax cx L wr (Lies.of_own hrow) hLn)
        have HRow := hide hrow
        have HPl := hide hpl
        have Hrn := hide hrn
        have Hok := hide hok
        have HLn := hide hLn
        have HW := hide HC.out.below
        have Hd := hide hd
        have e7 : wrap64 ((d : Int) + 1) = ((d + 1 : Nat) : Int) := by have := Hbig.out; clear e9; unfold wrap64; omega
        have E7 := hide e7
        clear hrow hpl hrn hok hLn HC hd
        go_wp2_with fail
        (with_reducible refine F.out.mono ?_)
        rintro e w1 ⟨Ab, cb, Bl, rfl, hbl, hbn, hlb, hb1⟩
        have hBe := hbl.same HPl.out.bl
        subst hBe
        have HRow1 := hide (own_keepT HRow.out hb1)
        have HB1 := hide hlb
        have HW1 := hide (HW.out.trans (hb1.mono HW.out.size))
        have HlowL := hide (fun g e => (own_lowS HRow1.out g e).2)
        obtain ⟨m, hm⟩ : ∃ m, (sk ++ rest).length = m := ⟨_, rfl⟩
        have Hm := hide hm
        rw [hm] at hbn ⊢
        have Hmk := hide hbn
        have Hbl := hide hbl
        clear F hbl hbn hlb hb1 hm HRow HW
        have Hmk9 := hide (show m ≤ 1000 by have := Hmk.out; have := Hbig.out; omega)
        generalize hZ : w1.heap.size = Z at *
        have HZ0 : Hid (Z ≤ w1.heap.size) := hide (Nat.le_of_eq hZ.symm)
        have HZw := hide (show w.heap.size ≤ Z by rw [← hZ]; exact HW1.out.size)
        clear hZ
        go_wp2
        go_loopw [10] (fun i W => ∃ j : Nat, j ≤ m ∧ i = .int .i64 (j : Int) ∧ Hid (Below w1.heap.size w1 W) ∧ Hid (∀ t (ht : t < (sk ++ rest).length), t < j → canP (plsC l) bad L (sk ++ rest)[t] = false)) (fun i _ => m - (intOf i).toNat)
        case atStart => exact ⟨0, Nat.zero_le _, rfl, hide (Below.refl _ _), hide (fun t _ h => absurd h (Nat.not_lt_zero _))⟩
        case round =>
          obtain ⟨j, hj, rfl, HQ, HJ⟩ := hrel
          by_cases hjm : j < m
          · have hjm' : (j : Int) < (m : Int) := Int.ofNat_lt.2 hjm
            have g4 : decide ((j : Int) < (m : Int)) = true := decide_eq_true hjm'
            have hjl : j < (sk ++ rest).length := by rw [Hm.out]; exact hjm
            have e8 : wrap64 ((j : Int) + 1) = ((j + 1 : Nat) : Int) := by have := Hmk9.out; clear e7 e9; unfold wrap64; omega
            obtain ⟨ab, eab, _, hco⟩ := (HB1.out.below (HQ.out.mono HZ0.out)).num hjl
            cases eab
            have hgd : (sk ++ rest).getD j 0 = (sk ++ rest)[j]'hjl := by simp [List.getD, List.getElem?_eq_getElem hjl]
            obtain ⟨b, hb0⟩ : ∃ b, (sk ++ rest).getD j 0 = b := ⟨_, rfl⟩
            rw [hb0] at hco
            have Hbe := hide (show (sk ++ rest)[j]'hjl = b from hgd.symm.trans hb0)
            have hmem : decide (b ∈ L.map Prod.fst) = true := decide_eq_true ((Hbl.out.2 b).1 (by rw [← Hbe.out]; exact List.getElem_mem hjl))
            have hWq : Below w.heap.size w wr := HW1.out.trans (HQ.out.mono HW1.out.size)
            have hrowq := own_keepT HRow1.out HQ.out
            have FCc := FC.out Ax cx L b wr hWq (Lies.of_own hrowq) HLn.out
            unfold canR at FCc
            rw [hmem, Bool.true_and] at FCc
            obtain ⟨cn, hcn⟩ : ∃ cn, canP (plsC l) bad L b = cn := ⟨_, rfl⟩
            rw [hcn] at FCc
            have FC2 := hide FCc
            have Hcn := hide hcn
            have Hjl := hide hjl
            clear hgd hb0 hmem hWq hrowq FCc hcn hj
            cases cn with
            | false =>
              have HJ2 := hide (show ∀ t (ht : t < (sk ++ rest).length), t < j + 1 → canP (plsC l) bad L (sk ++ rest)[t] = false from fun t ht h => by
                by_cases e : t = j
                · subst e; rw [Hbe.out]; exact Hcn.out
                · exact HJ.out t ht (Nat.lt_of_le_of_ne (Nat.le_of_lt_succ h) e))
              go_wp2_with (go_at_call 20; (with_reducible refine FC2.out.mono ?_); rintro e w2 ⟨rfl, hb2⟩; have HQ2 := hide (HQ.out.trans (hb2.mono HQ.out.size)); clear hb2)
              go_roundw
              case rel => exact ⟨j + 1, hjm, congrArg (Value.int .i64) e8, HQ2, HJ2⟩
              case measure => first | exact measT hjm | exact measT2 e8 hjm
            | true =>
              have gne : ((j : Int) == (m : Int)) = false := beq_eq_false_iff_ne.2 (fun e => absurd (Int.ofNat_lt.2 hjm) (by rw [e]; exact Int.lt_irrefl _))
              have gne2 : (j == m) = false := beq_eq_false_iff_ne.2 (Nat.ne_of_lt hjm)
              obtain ⟨sk', rest', hpl', hlt'⟩ := HPl.out.next (k := j) Hjl.out (fun t ht => HJ.out t (Nat.lt_trans ht Hjl.out) ht) (by rw [Hbe.out]; exact Hcn.out)
              rw [Hbe.out] at hpl'
              have HPl2 := hide hpl'
              have Hlt2 := hide hlt'
              have Hlc : Hid (L.length = (plsC l).length) := hide HPl.out.len
              have Hok2 := hide (freeP_ok Hlc.out Hok.out (fun q hq => (Hps.out q hq).2) Hcn.out)
              have Hfl := hide (show (freeP (plsC l) bad L b).length = k by rw [freeP_len Hlc.out]; exact HLn.out.symm)
              clear hpl' hlt'
              go_upto_region 16 with (go_at_call 20; (with_reducible refine FC2.out.mono ?_); rintro e w2 ⟨rfl, hb2⟩; have HX0 : Hid (Cx w l bad L b k Ax cx (some ab) (sk ++ rest) Z 0 (.slice none 0 0) w2) := hide (by
                  have q12 := HQ.out.trans (hb2.mono HQ.out.size)
                  exact ⟨own_keepT HRow1.out q12, HB1.out.below (q12.mono HZ0.out), Nat.le_trans HZ0.out q12.size, HlowL.out, World.ownsRow_nil _ _ _ _, HW1.out.trans (q12.mono HW1.out.size)⟩); clear hb2)
              clear FC2 HQ HJ HB1
              go_wp2
              go_loopw [11, 12] (fun v i W => ∃ i' : Nat, i' ≤ k ∧ i = .int .i64 (i' : Int) ∧ Hid (Cx w l bad L b k Ax cx (some ab) (sk ++ rest) Z i' v W)) (fun _ i _ => k - (intOf i).toNat)
              case atStart => exact ⟨0, Nat.zero_le _, rfl, HX0⟩
              case round =>
                clear HX0
                obtain ⟨i, hi, rfl, HX⟩ := hrel
                by_cases hik : i < k
                · have hik' : (i : Int) < (k : Int) := Int.ofNat_lt.2 hik
                  have g5 : decide ((i : Int) < (k : Int)) = true := decide_eq_true hik'
                  have e11 := wrap_s20 (Nat.le_trans (Nat.le_of_lt hik) Hbig.out)
                  have hiL : i < L.length := by rw [← HLn.out]; exact hik
                  have hil : i < l.length := by rw [← Hn.out]; exact hik
                  obtain ⟨v4, c4, hv4, _, _⟩ := own_form HX.out.own
                  subst hv4
                  obtain ⟨aL, eaL, _, hcL⟩ := (Lies.of_own HX.out.row).elem (f := plc) (m := 2) plc_len hiL (by omega)
                  subst eaL
                  obtain ⟨ab2, eab2, _, hcb⟩ := HX.out.bls.num Hjl.out
                  cases eab2
                  have hgd : (sk ++ rest).getD j 0 = b := by rw [← Hbe.out]; simp [List.getD, List.getElem?_eq_getElem Hjl.out]
                  rw [hgd] at hcb
                  have x1 : wr.cell? (ab.add j) = some (.int .i64 b) := hcb
                  have Hik := hide hik
                  have Hil := hide hil
                  have hfi := freeP_at (b := b) (bad := bad) Hlc.out i hiL
                  have Hfi : Hid ((freeP (plsC l) bad L b)[i]? = some (newP bad L b (L[i]'hiL, l[i]'hil |>.ps))) := hide (by
                    rw [List.getElem?_eq_getElem (by rw [Hfl.out]; exact hik), hfi]
                    unfold plsC
                    rw [List.getElem_map])
                  clear hfi hgd
                  by_cases hb : (L[i]'hiL).1 = b
                  · have hpl9 : (plsC l)[i]'(by unfold plsC; rw [List.length_map]; exact hil) = (l[i]'hil).ps := by unfold plsC; rw [List.getElem_map]
                    have hany := canP_at Hcn.out Hlc.out i hiL hb
                    rw [hpl9] at hany
                    obtain ⟨hk9, hfind⟩ := find_at (okP bad L b) _ hany
                    have hoth : othP bad L b (l[i]'hil).ps = (((l[i]'hil).ps.findIdx (okP bad L b) : Nat) : Int) := by unfold othP; rw [if_pos hany]
                    have hnew : newP bad L b (L[i]'hiL, (l[i]'hil).ps) = (l[i]'hil).ps[(l[i]'hil).ps.findIdx (okP bad L b)]'hk9 := by
                      unfold newP
                      rw [if_pos hb, hfind]
                      rfl
                    have Hp : Hid ((freeP (plsC l) bad L b)[i]? = some ((l[i]'hil).ps[(l[i]'hil).ps.findIdx (okP bad L b)]'hk9)) := hide (by rw [Hfi.out, hnew])
                    have hcall := fun W (hW : Below w.heap.size w W) (h : Lies W W.heap.size (some aL) (rowQ L)) => FO.out _ (List.getElem_mem hil) (some aL) cx L b W hW h HLn.out
                    rw [hoth] at hcall
                    have Hcall := hide hcall
                    obtain ⟨av, eav, hav, hcv⟩ := (HL.out.row.below HX.out.below).elem Cq.cells_len hil (by decide)
                    subst eav
                    have Hlie := hide ((HL.out.each _ (List.getElem_mem hil)).below HX.out.below)
                    have x0 : wr.cell? (aL.add (i * 2)) = some (.int .i64 b) := by rw [← hb]; exact hcL 0 _ rfl
                    clear hcall hoth hnew hfind hany hpl9 Hfi hb hi hik hcL
                    generalize l[i]'hil = q at *
                    rcases q with ⟨lp, kd, fa, fc, ps⟩
                    dsimp only at *
                    generalize ps.findIdx (okP bad L b) = z at *
                    obtain ⟨ap, eap, hap, hcp⟩ := Hlie.out.elem (f := plc) (m := 2) plc_len hk9 (by omega)
                    subst eap
                    have Hz0 := hide (show (z : Int) < (ps.length : Int) from Int.ofNat_lt.2 hk9)
                    have z0 : (0 : Int) ≤ (z : Int) := Int.natCast_nonneg z
                    generalize ps[z]'hk9 = p at *
                    rcases p with ⟨px, py⟩
                    unfold plc at hcp
                    have g6 : (b == b) = true := beq_self_eq_true b
                    go_upto_region 20 with fail
                    go_quiet (fail)
                    have HXz := hide (HX.out.later (W' := (wr.drewN nq).drew) ⟨rfl, rfl, rfl, Nat.le_refl _, fun _ _ => rfl⟩)
                    have y1 : (wr.drewN nq).drew.cell? (ab.add j) = some (.int .i64 b) := x1
                    have y2 : (wr.drewN nq).drew.cell? (av.add (i * 3)) = some (.int .i64 lp) := hcv 0 _ rfl
                    have y3 : (wr.drewN nq).drew.cell? ⟨(av.add (i * 3)).block, (av.add (i * 3)).off + 1, none⟩ = some (.int .i64 kd) := by
                      have := hcv 1 _ rfl
                      simpa [Addr.add] using this
                    have y4 : (wr.drewN nq).drew.cell? ⟨(av.add (i * 3)).block, (av.add (i * 3)).off + 2, none⟩ = some (.slice (some ap) ps.length fc) := by
                      have := hcv 2 _ rfl
                      simpa [Addr.add] using this
                    have y5 : (wr.drewN nq).drew.cell? (ap.add (z * 2)) = some (.int .i64 px) := hcp 0 _ rfl
                    have y6 : (wr.drewN nq).drew.cell? ⟨(ap.add (z * 2)).block, (ap.add (z * 2)).off + 1, none⟩ = some (.int .i64 py) := by
                      have := hcp 1 _ rfl
                      simpa [Addr.add] using this
                    have Hav := hide (Nat.lt_of_lt_of_le hav HXz.out.below.size)
                    have Hap := hide (Nat.lt_of_lt_of_le hap HXz.out.below.size)
                    clear hav hap HX Hlie x0 x1 hcp hcv
                    generalize wr.drewN nq = wz at *
                    have FC3 := hide (Hcall.out wz.drew HXz.out.below (Lies.of_own HXz.out.row))
                    clear Hcall
                    unfold Cq.cells at FC3
                    dsimp only at FC3
                    have Hk9 : Hid (i + 1 ≤ 1000) := hide (Nat.le_trans (Nat.succ_le_of_lt Hik.out) (Nat.le_trans Hbig.out (by decide)))
                    have zlt : (z : Int) < (ps.length : Int) := Hz0.out
                    have hzn : z < ps.length := hk9
                    clear hk9
                    go_upto_region 21 with fail
                    go_region_law (first
                      | (refine step_callQ (f := 46) (args := #[.agg #[.int .i64 lp, .int .i64 kd, .slice (some ap) ps.length fc], .slice (some aL) k cx, .slice A2 n2 c2, .int .i64 b]) rfl (by simp [Act.eval, go_sem]) (FC3.out.mono ?_); rintro e w5 ⟨rfl, hb5⟩; refine ⟨_, rfl, ?_⟩; have HX5 := hide (HXz.out.later hb5); have p4 := (cell_below20 hb5 Hav.out (a := ⟨(av.add (i * 3)).block, (av.add (i * 3)).off + 2, none⟩) (add_blk20 _ _)).trans y4; have p5 := (cell_below20 hb5 Hap.out (a := ap.add (z * 2)) (add_blk20 _ _)).trans y5; have p6 := (cell_below20 hb5 Hap.out (a := ⟨(ap.add (z * 2)).block, (ap.add (z * 2)).off + 1, none⟩) (add_blk20 _ _)).trans y6; have HA6 := hide ((Below.refl w5.heap.size w5).alloc (Nat.le_refl _) (.cells #[.int .i64 px, .int .i64 py] 30)); have Hsz := hide (Nat.le_trans HX5.out.big HA6.out.size); clear hb5)
                      | (refine step_app _ rfl plelems (.tmp 77) (.tmp 96) rfl Z (.slice v4 i c4) i (rowQ ((freeP (plsC l) bad L b).take i)) (by simp [Act.eval]) (own_keepT HX5.out.own HA6.out) (w5.heap.size + 1) (some ⟨w5.heap.size, 0, none⟩) 1 1 [.int .i64 px, .int .i64 py] (by simp [Act.eval]) (by rfl) (Lies.new w5 _ _ _ _ (Nat.lt_succ_self _)) (by simp [Value.oneCell']) (few_max Hk9.out) (few_bytes Hk9.out) Hsz.out ?_; intro A5 c5 w7 hown hg hat; have HN := hide (HX5.out.more HZw.out Hp.out HA6.out hg hown); clear hown hg hat))
                    all_goals
                      go_wp2
                      go_roundw
                      case rel => exact ⟨i + 1, Hik.out, congrArg (Value.int .i64) e11, HN⟩
                      case measure => first | exact measT Hik.out | exact measT2 e11 Hik.out
                  · have Hp : Hid ((freeP (plsC l) bad L b)[i]? = some (L[i]'hiL)) := hide (by rw [Hfi.out, newP_other hb])
                    generalize L[i]'hiL = p at *
                    rcases p with ⟨px, py⟩
                    have x0 : wr.cell? (aL.add (i * 2)) = some (.int .i64 px) := hcL 0 _ rfl
                    have g6 : (px == b) = false := beq_eq_false_iff_ne.2 hb
                    clear hcb Hfi hb hi hik hil hiL
                    go_upto_region 20 with fail
                    go_quiet (fail)
                    have HXz := hide (HX.out.later (W' := wr.drewN nq) ⟨rfl, rfl, rfl, Nat.le_refl _, fun _ _ => rfl⟩)
                    have HcL : Hid (∀ t v, (plc (px, py))[t]? = some v → (wr.drewN nq).cell? ((aL.add (i * 2)).add t) = some v) := hide hcL
                    clear HX hcL x0 x1
                    generalize wr.drewN nq = wz at *
                    have HA6 := hide ((Below.refl wz.heap.size wz).alloc (Nat.le_refl _) (.cells #[.int .i64 px, .int .i64 py] 30))
                    have Hsz := hide (Nat.le_trans HXz.out.big HA6.out.size)
                    have Hk9 : Hid (i + 1 ≤ 1000) := hide (Nat.le_trans (Nat.succ_le_of_lt Hik.out) (Nat.le_trans Hbig.out (by decide)))
                    unfold plc at HcL
                    go_wp2_with (first
                      | (with_reducible refine wpl_load_addr rfl 30 (.tmp 101) rfl (aL.add (i * 2)) _ HcL.out rfl _ Try.underlying30 rfl 2 infoPl2 rfl ?_)
                      | (at_builtin; refine wpl_app _ rfl plelems (.tmp 98) (.tmp 103) rfl Z (.slice v4 i c4) i (rowQ ((freeP (plsC l) bad L b).take i)) rfl (own_keepT HXz.out.own HA6.out) (wz.heap.size + 1) (some ⟨wz.heap.size, 0, none⟩) 1 1 [.int .i64 px, .int .i64 py] rfl (by rfl) (Lies.new wz _ _ _ _ (Nat.lt_succ_self _)) (by simp [Value.oneCell']) (few_max Hk9.out) (few_bytes Hk9.out) Hsz.out ?_; intro A5 c5 w7 hown hg hat; have HN := hide (HXz.out.more HZw.out Hp.out HA6.out hg hown); clear hown hg hat))
                    go_roundw
                    case rel => exact ⟨i + 1, Hik.out, congrArg (Value.int .i64) e11, HN⟩
                    case measure => first | exact measT Hik.out | exact measT2 e11 Hik.out
                · obtain rfl : i = k := Nat.le_antisymm hi (Nat.le_of_not_lt hik)
                  have e11 := wrap_s20 (k := d) (Nat.le_trans Hd.out Hbig.out)
                  obtain ⟨v4, c4, hv4, _, _⟩ := own_form HX.out.own
                  subst hv4
                  have hown := HX.out.own
                  rw [List.take_of_length_le (Nat.le_of_eq Hfl.out)] at hown
                  have HC2 : Hid (Cr w l bad R i (d + 1) (.slice v4 i c4) wr) := hide ⟨⟨freeP (plsC l) bad L b, sk', rest', own_up hown HZw.out, HPl2.out, by have h1 := Hlt2.out; have h2 := Hrn.out; clear e7 e8 e9 e11; omega, Hok2.out⟩, HX.out.below⟩
                  clear HX hown hi hik
                  have hd9 := Nat.le_trans (rest_lt Hlt2.out) Hrn.out
                  go_wp2
                  go_roundw
                  case rel => exact ⟨d + 1, hd9, congrArg (Value.int .i64) e11, HC2⟩
                  case measure => first | exact measT2 e11 (Nat.lt_succ_of_le Hd.out) | exact measT (Nat.lt_succ_of_le Hd.out)
          · have g4 : decide ((j : Int) < (m : Int)) = false := decide_eq_false (fun h => hjm (Int.ofNat_lt.1 h))
            obtain rfl : j = m := Nat.le_antisymm hj (Nat.le_of_not_lt hjm)
            have geq : ((j : Int) == (j : Int)) = true := beq_self_eq_true _
            have geq2 : (j == j) = true := beq_self_eq_true _
            have hstop : L = R := HPl.out.stop (fun x hx => by
              obtain ⟨t, ht, rfl⟩ := List.getElem_of_mem hx
              exact HJ.out t ht (by rw [← Hm.out]; exact ht))
            have Hst := hide hstop
            clear hstop hj hjm
            go_wp2
            go_ret
            exact ⟨Ax, cx, B0, rfl, by rw [HL00.out]; exact HB0.out, by rw [HL00.out, HRR.out, ← Hst.out]; exact Lies.of_own (own_keepT HRow1.out HQ.out), HW1.out.trans (HQ.out.mono HW1.out.size)⟩
end Go.Proofs.Ytofokljhlcdebaa
