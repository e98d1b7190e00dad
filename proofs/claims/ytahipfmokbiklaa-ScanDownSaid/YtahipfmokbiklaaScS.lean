/-
  LAYER 18, CONTRACTS of the reference's Same, and of Ints: of lists that are the same.
  LAYER 18, CONTRACT of the reference's All.
-/
import Derived.Test.YtahipfmokbiklaaScM
import Derived.Test.YtahipfmokbiklaaGeoP
import Derived.BigQuiet
import Derived.Test.YtahipfmokbiklaaScN
import Derived.Test.YtahipfmokbiklaaRd3
namespace Go.Proofs.Ytahipfmokbiklaa
section
open Go.RowKit
set_option maxRecDepth 8000

theorem Lies.i64 {w : World} {B : Nat} {A : Option Addr} {l : List Int} {i : Nat} (h : Lies w B A (i64s l)) (hi : i < l.length) : ∃ a, A = some a ∧ a.block < B ∧ w.cell? (a.add i) = some (.int .i64 l[i]) := by
  obtain ⟨a, hA, hb, hc⟩ := h.at_ (k := i) (by rw [i64s_len]; exact hi)
  refine ⟨a, hA, hb, hc.trans ?_⟩
  congr 1
  simp [i64s]
theorem fd_cells {w : World} {p : Addr} {f : Fd} (h : ∀ j v, f.cells[j]? = some v → w.cell? (p.add j) = some v) :
    w.cell? p = some (.int .i64 (f.x : Int)) ∧ w.cell? ⟨p.block, p.off + 1, none⟩ = some (.int .i64 (f.y : Int)) ∧ w.cell? ⟨p.block, p.off + 2, none⟩ = some (.int .i64 f.h.kind) ∧ w.cell? ⟨p.block, p.off + 3, none⟩ = some (.int .i64 f.h.index) ∧ w.cell? ⟨p.block, p.off + 4, none⟩ = some (.int .i64 f.h.count) ∧ w.cell? ⟨p.block, p.off + 5, none⟩ = some (.int .u64 (f.h.batch : Int)) ∧ w.cell? ⟨p.block, p.off + 6, none⟩ = some (.int .u64 (f.h.opn : Int)) ∧ w.cell? ⟨p.block, p.off + 7, none⟩ = some (.int .i64 f.h.lpn) ∧ w.cell? ⟨p.block, p.off + 8, none⟩ = some (.int .i64 f.h.len) :=
  ⟨h 0 _ rfl, h 1 _ rfl, h 2 _ rfl, h 3 _ rfl, h 4 _ rfl, h 5 _ rfl, h 6 _ rfl, h 7 _ rfl, h 8 _ rfl⟩
set_option maxHeartbeats 1000000 in
theorem ints_same (A1 A2 : Option Addr) (n c1 c2 B : Nat) (l : List Int) (w : World) (h1 : Lies w B A1 (i64s l)) (h2 : Lies w B A2 (i64s l)) (hn : n = l.length) (hbig : n ≤ 1000000) (hBw : B ≤ w.heap.size) :
    Calls Try.prog 15 #[.slice A1 n c1, .slice A2 n c2] w fun e w' => e = .returned (.bool true) ∧ Below w.heap.size w w' := by
  have H1 := hide h1
  have H2 := hide h2
  have Hn := hide hn
  clear h1 h2 hn
  go_enter Try.func15, Try.ntmps15
  go_wp2
  go_loopw [5] (fun i wr => ∃ j : Nat, j ≤ n ∧ i = .int .i64 (j : Int) ∧ Hid (Below w.heap.size w wr)) (fun i _ => n - (intOf i).toNat)
  case atStart => exact ⟨0, Nat.zero_le _, rfl, hide (Below.refl _ _)⟩
  case round =>
    obtain ⟨j, hj, rfl, HB⟩ := hrel
    by_cases hlt : j < n
    · have hlt' : (j : Int) < (n : Int) := by omega
      have hjl : j < l.length := by rw [← Hn.out]; exact hlt
      obtain ⟨a, rfl, _, ca⟩ := (H1.out.below (HB.out.mono hBw)).i64 hjl
      obtain ⟨b, rfl, _, cb⟩ := (H2.out.below (HB.out.mono hBw)).i64 hjl
      have e7 : wrap64 ((j : Int) + 1) = ((j + 1 : Nat) : Int) := by unfold wrap64; omega
      generalize l[j] = z at *
      clear hjl
      go_upto_region 6 with fail
      go_quiet (fail)
      go_wp2
      go_roundw
      case rel => first | exact ⟨j + 1, hlt, congrArg (Value.int .i64) e7, hide (bel_drewN HB.out _)⟩ | exact ⟨j + 1, hlt, congrArg (Value.int .i64) (Int.natCast_succ j).symm, hide (bel_drewN HB.out _)⟩
      case measure => first | exact measT hlt | exact measT2 e7 hlt | exact measT2 (Int.natCast_succ j).symm hlt
    · obtain rfl : j = n := by omega
      go_wp2
      go_ret
      exact ⟨rfl, HB.out⟩
set_option maxHeartbeats 4000000 in
theorem same18_same (A1 A2 : Option Addr) (n c1 c2 B : Nat) (l : List Fd) (w : World) (h1 : Lies w B A1 (rowD l)) (h2 : Lies w B A2 (rowD l)) (hn : n = l.length) (hbig : n ≤ 1000000) (hBw : B ≤ w.heap.size) :
    Calls Try.prog 10 #[.slice A1 n c1, .slice A2 n c2] w fun e w' => e = .returned (.bool true) ∧ Below w.heap.size w w' := by
  have H1 := hide h1
  have H2 := hide h2
  have Hn := hide hn
  clear h1 h2 hn
  go_enter Try.func10, Try.ntmps10
  go_wp2
  go_loopw [5] (fun i wr => ∃ j : Nat, j ≤ n ∧ i = .int .i64 (j : Int) ∧ Hid (Below w.heap.size w wr)) (fun i _ => n - (intOf i).toNat)
  case atStart => exact ⟨0, Nat.zero_le _, rfl, hide (Below.refl _ _)⟩
  case round =>
    obtain ⟨j, hj, rfl, HB⟩ := hrel
    by_cases hlt : j < n
    · have hlt' : (j : Int) < (n : Int) := by omega
      have hjl : j < l.length := by rw [← Hn.out]; exact hlt
      obtain ⟨a, rfl, _, ca⟩ := (H1.out.below (HB.out.mono hBw)).elem Fd.cells_len hjl (by decide)
      obtain ⟨b, rfl, _, cb⟩ := (H2.out.below (HB.out.mono hBw)).elem Fd.cells_len hjl (by decide)
      have e7 : wrap64 ((j : Int) + 1) = ((j + 1 : Nat) : Int) := by unfold wrap64; omega
      generalize l[j] = f at *
      clear hjl
      rcases f with ⟨fx, fy, ⟨kd, ix, ct, bt, op, lp, ln⟩⟩
      obtain ⟨a0, a1, a2, a3, a4, a5, a6, a7, a8⟩ := fd_cells ca
      obtain ⟨b0, b1, b2, b3, b4, b5, b6, b7, b8⟩ := fd_cells cb
      clear ca cb
      dsimp only at *
      go_upto_region 6 with fail
      go_quiet (fail)
      go_wp2
      go_roundw
      case rel => first | exact ⟨j + 1, hlt, congrArg (Value.int .i64) e7, hide (bel_drewN HB.out _)⟩ | exact ⟨j + 1, hlt, congrArg (Value.int .i64) (Int.natCast_succ j).symm, hide (bel_drewN HB.out _)⟩
      case measure => first | exact measT hlt | exact measT2 e7 hlt | exact measT2 (Int.natCast_succ j).symm hlt
    · obtain rfl : j = n := by omega
      go_wp2
      go_ret
      exact ⟨rfl, HB.out⟩
end
section
open Go.RowKit
set_option maxRecDepth 8000

theorem findAt_has {D : Dv} {i : Nat} (h1 : rightB (D.pg i) = true) (h2 : (headOf (D.pg i)).kind ≠ 1) (h3 : D.bad (i / D.np) = false) : D.findAt i = [⟨i / D.np, i % D.np, headOf (D.pg i)⟩] := by
  unfold Dv.findAt findOk
  rw [h1, decide_eq_true h2, h3]
  rfl
theorem findAt_none {D : Dv} {i : Nat} (h : rightB (D.pg i) = false ∨ (headOf (D.pg i)).kind = 1 ∨ D.bad (i / D.np) = true) : D.findAt i = [] := by
  unfold Dv.findAt findOk
  rcases h with h | h | h
  · rw [h, Bool.false_and, Bool.false_and, if_neg Bool.false_ne_true]
  · rw [h, decide_eq_false (fun h => h rfl), Bool.and_false, Bool.false_and, if_neg Bool.false_ne_true]
  · rw [h, Bool.not_true, Bool.and_false, if_neg Bool.false_ne_true]
/-- What the reference's All keeps behind n pages. -/
structure AllR (w : World) (q : Pn) (D : Dv) (N r B0 B rp rn rw cp cn cw : Nat) (v : Value) (W : World) : Prop where
  dev : RefAt W B0 B q D r rp rn rw cp cn cw
  own : W.ownsRow w.heap.size 48 9 v (findsF D N).length (rowD (findsF D N))
  below : Below w.heap.size w W
section
variable {w W W' w5 w6 : World} {q : Pn} {D : Dv} {N r B0 B rp rn rw cp cn cw : Nat} {v : Value}
theorem AllR.later (h : AllR w q D N r B0 B rp rn rw cp cn cw v W) (hB : B ≤ W.heap.size) (hb : Below W.heap.size W W') : AllR w q D N r B0 B rp rn rw cp cn cw v W' :=
  ⟨h.dev.below (hb.mono hB), own_keepT h.own hb, h.below.trans (hb.mono h.below.size)⟩
theorem AllR.skip (h : AllR w q D N r B0 B rp rn rw cp cn cw v W) (e : D.findAt (2 * D.np + N) = []) : AllR w q D (N + 1) r B0 B rp rn rw cp cn cw v W := by
  have e2 : findsF D (N + 1) = findsF D N := by
    show findsF D N ++ D.findAt (2 * D.np + N) = _
    rw [e, List.append_nil]
  exact ⟨h.dev, by rw [e2]; exact h.own, h.below⟩
theorem AllR.more (h : AllR w q D N r B0 B rp rn rw cp cn cw v W) (hB : B ≤ w.heap.size) {f : Fd} (e : D.findAt (2 * D.np + N) = [f]) (hb : Below W.heap.size W w5) {A : Option Addr} {c : Nat} (hown : w6.ownsRow w.heap.size 48 9 (.slice A ((findsF D N).length + 1) c) ((findsF D N).length + 1) (rowD (findsF D N) ++ f.cells)) (hg : w5.grownBy w6 v.ownBlock) :
    AllR w q D (N + 1) r B0 B rp rn rw cp cn cw (.slice A (findsF D (N + 1)).length c) w6 := by
  have h2 := h.later (Nat.le_trans hB h.below.size) hb
  have hlow := own_lowS h.own
  have e2 : findsF D (N + 1) = findsF D N ++ [f] := by
    show findsF D N ++ D.findAt (2 * D.np + N) = _
    rw [e]
  have hw6 : Below w.heap.size w w6 := h2.below.grown hg h2.below.size (fun q e => (hlow q e).1)
  have hb6 : Below w.heap.size w5 w6 := (Below.refl w.heap.size w5).grown hg h2.below.size (fun q e => (hlow q e).1)
  refine ⟨h2.dev.below (hb6.mono hB), ?_, hw6⟩
  rw [e2, rowD_app, List.length_append]
  exact hown
end
section
variable {w : World} {B0 B : Nat} {q : Pn} {D : Dv} {r rp rn rw cp cn cw : Nat}
set_option maxHeartbeats 4000000 in
theorem refAll_any (h : RefAt w B0 B q D r rp rn rw cp cn cw) (hB : B ≤ w.heap.size) (hpl : ∀ i, i < D.nb * D.np → (D.pg i).length = 256) :
    Calls Try.prog 9 #[.pointer (some ⟨r, 0, none⟩)] w fun e w' => ∃ A c, e = .returned (.slice A D.finds.length c) ∧ w'.ownsRow w.heap.size 48 9 (.slice A D.finds.length c) D.finds.length (rowD D.finds) ∧ Below w.heap.size w w' := by
  obtain ⟨s1, s2, s3, s4, s5, s6⟩ := h.sides
  have HS := hide (And.intro s1 (And.intro s2 (And.intro s3 s4)))
  have HPL := hide hpl
  have HBB := hide hB
  have Hp := hide s6
  have S0 : Hid (AllR w q D 0 r B0 B rp rn rw cp cn cw (.slice none 0 0) w) := hide ⟨h, World.ownsRow_nil _ _ _ _, Below.refl _ _⟩
  have c1 := h.c 1 (.int .i64 (D.np : Int)) (by rw [← s6]; rfl)
  obtain ⟨Z, hZ⟩ : ∃ Z, Z = 2 * D.np := ⟨_, rfl⟩
  obtain ⟨N, hN⟩ : ∃ N, N = D.nb * D.np := ⟨_, rfl⟩
  have HZ := hide hZ
  have HN := hide hN
  have HM := hide (show N ≤ 34 * 32 by rw [hN]; exact Nat.mul_le_mul s2 s4)
  have HE := hide (show Z + (D.nb - 2) * D.np = N by
    rw [hZ, hN, ← Nat.add_mul]; congr 1; omega)
  have k1 : wrap64 (2 * (D.np : Int)) = (Z : Int) := by unfold wrap64; omega
  unfold Dv.finds
  clear h hB hpl s1 s2 s3 s4 s5 s6 hZ hN
  go_enter Try.func9, Try.ntmps9
  go_wp2
  clear c1
  go_loopw [3, 4] (fun v i wr => ∃ (n I : Nat) (A : Option Addr) (c : Nat), I = Z + n ∧ I ≤ N ∧ v = .slice A (findsF D n).length c ∧ i = .int .i64 (I : Int) ∧ Hid (AllR w q D n r B0 B rp rn rw cp cn cw (.slice A (findsF D n).length c) wr)) (fun _ i _ => N - (intOf i).toNat)
  case atStart => exact ⟨0, Z, none, 0, rfl, by have := HE.out; omega, rfl, congrArg (Value.int .i64) k1, S0⟩
  case round =>
    obtain ⟨n, I, A, c, hI, hIN, rfl, rfl, HT⟩ := hrel
    clear S0 k1
    have c1 := HT.out.dev.c 1 (.int .i64 (D.np : Int)) (by rw [← Hp.out]; rfl)
    have c4 := HT.out.dev.c 4 (.slice (some ⟨rp, 0, none⟩) N cp) (by rw [HN.out]; rfl)
    have HI := hide hI
    by_cases hlt : I < N
    · have hlt' : (I : Int) < (N : Int) := by omega
      have e7 : wrap64 ((I : Int) + 1) = ((I + 1 : Nat) : Int) := by have := HM.out; unfold wrap64; omega
      have hnp : 0 < D.np := by have := HS.out.2.2.1; omega
      obtain ⟨x, hx⟩ : ∃ x, x = I / D.np := ⟨_, rfl⟩
      obtain ⟨y, hy⟩ : ∃ y, y = I % D.np := ⟨_, rfl⟩
      have hxI : x ≤ I := by rw [hx]; exact Nat.div_le_self _ _
      have hyp : y < D.np := by rw [hy]; exact Nat.mod_lt _ hnp
      have hxn : x < D.nb := by rw [hx]; exact Nat.div_lt_of_lt_mul (by rw [Nat.mul_comm, ← HN.out]; exact hlt)
      have t1 : (I : Int).tdiv (D.np : Int) = (x : Int) := by rw [hx]; rfl
      have t2 : (I : Int).tmod (D.np : Int) = (y : Int) := by rw [hy]; rfl
      have t3 : wrap64 (x : Int) = (x : Int) := by have := HM.out; unfold wrap64; omega
      have t4 : wrap64 (y : Int) = (y : Int) := by have := HS.out.2.2.2; unfold wrap64; omega
      have c3 := HT.out.dev.pages.cell (j := I) (by rw [← HN.out]; exact hlt)
      have hlen := HPL.out I (by rw [← HN.out]; exact hlt)
      have F := hide (fun W => get15_any (D.pg I) W (by rw [hlen]; decide))
      have hFA : D.findAt (2 * D.np + n) = D.findAt I := by rw [HI.out, HZ.out]
      have HFA := hide hFA
      have Hx := hide hx
      have Hy := hide hy
      have Hlt := hide hlt
      have hnp0 : ¬ (D.np : Int) = 0 := by omega
      clear hI hIN hx hy hxI hyp hxn hlen hFA hnp
      go_upto_region 6 with fail
      rw [t3]
      clear t1 t3
      obtain ⟨h, hh⟩ : ∃ h, h = (get15 (D.pg I)).1 := ⟨_, rfl⟩
      obtain ⟨d, hd⟩ : ∃ d, d = (get15 (D.pg I)).2 := ⟨_, rfl⟩
      obtain ⟨ok, hok⟩ : ∃ ok, ok = rightB (D.pg I) := ⟨_, rfl⟩
      rw [← hh, ← hd, ← hok] at F
      have Hh := hide (show ok = true → h = headOf (D.pg I) from fun h2 => by rw [hh]; unfold get15; rw [if_pos (by rw [← hok]; exact h2)])
      have Hok := hide hok
      clear hh hd hok
      rcases h with ⟨kd, ix, ct, bt, op, lp, ln⟩
      have F := hide (show ∀ W, Calls Try.prog 12 #[.string (str (D.pg I))] W fun e w' => e = .returned (.tuple #[.agg #[.int .i64 kd, .int .i64 ix, .int .i64 ct, .int .u64 (bt : Int), .int .u64 (op : Int), .int .i64 lp, .int .i64 ln], .string (str d), .bool ok]) ∧ Below W.heap.size W w' from F.out)
      go_wp2_with fail
      (with_reducible refine (F.out _).mono ?_)
      rintro e w4 ⟨rfl, hb⟩
      have hBw := Nat.le_trans HBB.out HT.out.below.size
      have HA4 := hide (hb.alloc hb.size (.cells #[.int .i64 kd, .int .i64 ix, .int .i64 ct, .int .u64 (bt : Int), .int .u64 (op : Int), .int .i64 lp, .int .i64 ln] 42))
      have HX4 : Hid (BoxH ⟨kd, ix, ct, bt, op, lp, ln⟩ w4.heap.size (w4.alloc (.cells #[.int .i64 kd, .int .i64 ix, .int .i64 ct, .int .u64 (bt : Int), .int .u64 (op : Int), .int .i64 lp, .int .i64 ln] 42))) := hide (heap_alloc_new w4 _)
      have HT4 := hide (HT.out.later hBw HA4.out)
      have HBw := hide (Nat.le_trans hBw HA4.out.size)
      clear hb hBw F HT c1 c3 c4
      go_upto_region 7 with fail
      generalize w4.alloc (.cells #[.int .i64 kd, .int .i64 ix, .int .i64 ct, .int .u64 (bt : Int), .int .u64 (op : Int), .int .i64 lp, .int .i64 ln] 42) = w5 at *
      generalize w4.heap.size = kx at *
      have c1 := HT4.out.dev.c 1 (.int .i64 (D.np : Int)) (by rw [← Hp.out]; rfl)
      have c3 := HT4.out.dev.c 3 (.slice q.A1 q.n1 q.c1) rfl
      have a0 := HX4.out.c 0 _ rfl
      dsimp only at a0
      have FH := hide (has_any q.A1 q.n1 q.c1 B0 q.bl (x : Int) w5 HT4.out.dev.plan.l1 HT4.out.dev.plan.h1 (Nat.le_trans HT4.out.dev.few.1 (by decide)))
      have hbx : D.bad x = decide ((x : Int) ∈ q.bl) := HT4.out.dev.bad x (by have := Hx.out; rw [this]; exact Nat.div_lt_of_lt_mul (by rw [Nat.mul_comm, ← HN.out]; exact Hlt.out))
      rw [← hbx] at FH
      have Hbad := hide (show D.bad (I / D.np) = D.bad x by rw [Hx.out])
      clear hbx
      generalize D.bad x = bx at *
      cases ok with
      | false =>
        have HT5 := hide (HT4.out.skip (by rw [HFA.out]; exact findAt_none (.inl Hok.out.symm)))
        have Hq := hide (show (findsF D n).length = (findsF D (n + 1)).length by (show _ = (findsF D n ++ _).length); rw [HFA.out, findAt_none (.inl Hok.out.symm), List.append_nil])
        clear FH Hh Hok
        go_wp2
        go_roundw
        case rel => exact ⟨n + 1, I + 1, A, c, by have := HI.out; omega, Hlt.out, congrArg (fun q : Nat => Value.slice A q c) Hq.out, congrArg (Value.int .i64) e7, hide (by rw [← Hq.out]; exact HT5.out)⟩
        case measure => first | exact measT Hlt.out | exact measT2 e7 Hlt.out
      | true =>
        have hk := Hh.out rfl
        by_cases hk1 : kd = 1
        · have hfn := findAt_none (D := D) (i := I) (.inr (.inl (by rw [← hk]; exact hk1)))
          have HT5 := hide (HT4.out.skip (by rw [HFA.out]; exact hfn))
          have Hq := hide (show (findsF D n).length = (findsF D (n + 1)).length by (show _ = (findsF D n ++ _).length); rw [HFA.out, hfn, List.append_nil])
          subst hk1
          clear FH Hh Hok hk hfn
          go_wp2
          go_roundw
          case rel => exact ⟨n + 1, I + 1, A, c, by have := HI.out; omega, Hlt.out, congrArg (fun q : Nat => Value.slice A q c) Hq.out, congrArg (Value.int .i64) e7, hide (by rw [← Hq.out]; exact HT5.out)⟩
          case measure => first | exact measT Hlt.out | exact measT2 e7 Hlt.out
        · have hkn : (kd != 1) = true := bne_iff_ne.2 hk1
          cases bx with
          | true =>
            have hfn := findAt_none (D := D) (i := I) (.inr (.inr Hbad.out))
            have HT5 := hide (HT4.out.skip (by rw [HFA.out]; exact hfn))
            have Hq := hide (show (findsF D n).length = (findsF D (n + 1)).length by (show _ = (findsF D n ++ _).length); rw [HFA.out, hfn, List.append_nil])
            clear Hh Hok hk hfn hk1
            go_wp2_with fail
            (with_reducible refine FH.out.mono ?_)
            rintro e w6 ⟨rfl, rfl⟩
            go_wp2
            go_roundw
            case rel => exact ⟨n + 1, I + 1, A, c, by have := HI.out; omega, Hlt.out, congrArg (fun q : Nat => Value.slice A q c) Hq.out, congrArg (Value.int .i64) e7, hide (by rw [← Hq.out]; exact HT5.out)⟩
            case measure => first | exact measT Hlt.out | exact measT2 e7 Hlt.out
          | false =>
            have hfy := findAt_has (D := D) (i := I) Hok.out.symm (by rw [← hk]; exact hk1) Hbad.out
            rw [← hk, ← Hx.out, ← Hy.out] at hfy
            have Hfy := hide hfy
            have Hq := hide (show (findsF D n).length + 1 = (findsF D (n + 1)).length by (show _ = (findsF D n ++ _).length); rw [HFA.out, hfy, List.length_append]; rfl)
            have Hlen := hide (show (findsF D n).length ≤ 2000 from Nat.le_trans (findsF_few _ _) (by have h1 := HI.out; have h2 := Hlt.out; have h3 := HM.out; omega))
            clear Hh Hok hk hfy hk1
            go_wp2_with fail
            (with_reducible refine FH.out.mono ?_)
            rintro e w6 ⟨rfl, rfl⟩
            have a1 := HX4.out.c 1 _ rfl
            have a2 := HX4.out.c 2 _ rfl
            have a3 := HX4.out.c 3 _ rfl
            have a4 := HX4.out.c 4 _ rfl
            have a5 := HX4.out.c 5 _ rfl
            have a6 := HX4.out.c 6 _ rfl
            dsimp only at a1 a2 a3 a4 a5 a6
            clear FH c3
            go_upto_region 8 with fail
            have hnp1 : ¬ D.np = 0 := by have := HS.out.2.2.1; omega
            have t5 : IntKind.i64.wrap (y : Int) = (y : Int) := IntWalk.i64_in _ (by have h1 := Hy.out; have h2 := Nat.mod_lt I (show 0 < D.np by have := HS.out.2.2.1; omega); have h3 := HS.out.2.2.2; omega)
            have HA6 := hide (show Below w5.heap.size w5 (w5.alloc (.cells #[.int .i64 (x : Int), .int .i64 (y : Int), .int .i64 kd, .int .i64 ix, .int .i64 ct, .int .u64 (bt : Int), .int .u64 (op : Int), .int .i64 lp, .int .i64 ln] 48)).drew from ((Below.refl _ _).alloc (Nat.le_refl _) _).drew)
            have Hsz := hide (show w.heap.size ≤ (w5.alloc (.cells #[.int .i64 (x : Int), .int .i64 (y : Int), .int .i64 kd, .int .i64 ix, .int .i64 ct, .int .u64 (bt : Int), .int .u64 (op : Int), .int .i64 lp, .int .i64 ln] 48)).drew.heap.size from Nat.le_trans HT4.out.below.size HA6.out.size)
            go_region_law (refine step_app _ rfl felems (.tmp 58) (.tmp 70) rfl w.heap.size (.slice A (findsF D n).length c) (findsF D n).length (rowD (findsF D n)) (by simp [Act.eval]) (own_keepT HT4.out.own HA6.out) (w5.heap.size + 1) (some ⟨w5.heap.size, 0, none⟩) 1 1 _ (by simp [Act.eval]) (by rfl) (Lies.new w5 _ _ _ _ (Nat.lt_succ_self _)).drew (by simp [Value.oneCell']) (by have := Hlen.out; unfold maxLen; omega) (by have := Hlen.out; omega) Hsz.out ?_; intro A3 c3 w7 hown hg hat; have HT7 := hide (HT4.out.more HBB.out (f := ⟨x, y, ⟨kd, ix, ct, bt, op, lp, ln⟩⟩) (by rw [HFA.out]; exact Hfy.out) HA6.out hown hg); clear hown hg hat)
            all_goals
              go_wp2
              go_roundw
              case rel => exact ⟨n + 1, I + 1, A3, c3, by have := HI.out; omega, Hlt.out, congrArg (fun q : Nat => Value.slice A3 q c3) Hq.out, congrArg (Value.int .i64) e7, HT7⟩
              case measure => first | exact measT Hlt.out | exact measT2 e7 Hlt.out
    · obtain rfl : I = N := by omega
      have hn : n = (D.nb - 2) * D.np := by have := HE.out; omega
      have ho := HT.out.own
      have hb := HT.out.below
      rw [hn] at ho
      have HO := hide ho
      have HB := hide hb
      have Hn := hide hn
      clear hn ho hb HT
      go_wp2
      go_ret
      rw [← Hn.out] at HO ⊢
      exact ⟨A, c, rfl, HO.out, HB.out⟩
end
end
end Go.Proofs.Ytahipfmokbiklaa
