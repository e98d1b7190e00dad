/-
  CONTRACTS of package mirror: Newest.
  CONTRACTS of package mirror: older, Write.
-/
import Derived.Test.YtigpplckddnghaaGreatMrN
namespace Go.Proofs.YtigpplckddnghaaGreat
section
open Go.RowKit
set_option maxRecDepth 8000

set_option maxHeartbeats 4000000 in
theorem mnew_nil (w : World) : Calls Tryz.prog 26 #[.pointer none] w fun e w' => e = .returned (.tuple #[zeroTl.val, .int .i64 0, .int .i64 1]) ∧ Below w.heap.size w w' := by
  have HZ := hide (BoxT.new zeroTl w)
  have HB := hide ((Below.refl w.heap.size w).alloc (Nat.le_refl _) (.cells zeroTl.cells.toArray 26))
  rw [show zeroTl.cells.toArray = #[.int .u64 0, .slice none 0 0, .slice none 0 0, .slice none 0 0] from rfl] at HZ HB
  go_enter Tryz.func26, Tryz.ntmps26
  go_wp2_with fail
  (with_reducible refine (up_nil _).mono ?_)
  rintro e w1 ⟨rfl, rfl⟩
  have z0 := HZ.out.c 0 _ rfl
  have z1 := HZ.out.c 1 _ rfl
  have z2 := HZ.out.c 2 _ rfl
  have z3 := HZ.out.c 3 _ rfl
  have y0 := HZ.out.free 0
  have y1 := HZ.out.free 1
  have y2 := HZ.out.free 2
  have y3 := HZ.out.free 3
  go_wp2
  exact bodyPost_ret (results_tb3 rfl _ _ zeroTl w.heap.size rfl HZ.out) rfl ⟨rfl, HB.out⟩
section
variable {w : World} {B0 B : Nat} {D : Dv} {k kb kp km : Nat}
set_option maxHeartbeats 4000000 in
theorem mnew_down (h : DevAt w B0 B D k kb kp km) (hB : B ≤ w.heap.size) (hd : D.dn = true) : Calls Tryz.prog 26 #[.pointer (some ⟨k, 0, none⟩)] w fun e w' => e = .returned (.tuple #[zeroTl.val, .int .i64 0, .int .i64 9]) ∧ Below w.heap.size w w' := by
  have HZ := hide (BoxT.new zeroTl w)
  have hb1 := (Below.refl w.heap.size w).alloc (Nat.le_refl _) (.cells zeroTl.cells.toArray 26)
  have HB := hide hb1
  have F := hide (up_any (h.below (hb1.mono hB)))
  rw [if_pos hd] at F
  rw [show zeroTl.cells.toArray = #[.int .u64 0, .slice none 0 0, .slice none 0 0, .slice none 0 0] from rfl] at HZ HB F
  clear h hB hd hb1
  go_enter Tryz.func26, Tryz.ntmps26
  go_wp2_with fail
  (with_reducible refine F.out.mono ?_)
  rintro e w1 ⟨rfl, rfl⟩
  have z0 := HZ.out.c 0 _ rfl
  have z1 := HZ.out.c 1 _ rfl
  have z2 := HZ.out.c 2 _ rfl
  have z3 := HZ.out.c 3 _ rfl
  have y0 := HZ.out.free 0
  have y1 := HZ.out.free 1
  have y2 := HZ.out.free 2
  have y3 := HZ.out.free 3
  go_wp2
  exact bodyPost_ret (results_tb3 rfl _ _ zeroTl w.heap.size rfl HZ.out) rfl ⟨rfl, HB.out⟩
/-- What the outer loop has behind r regions. -/
def accC (D : Dv) : Nat → Option (Tb × Nat)
  | 0 => none
  | 1 => (D.tabs 0).foldl (stepC 0) none
  | _ => D.newest
theorem accC_step (D : Dv) {r : Nat} (hr : r < 2) : (D.tabs r).foldl (stepC r) (accC D r) = accC D (r + 1) := by
  rcases (by omega : r = 0 ∨ r = 1) with rfl | rfl
  · rfl
  · exact newest_code D
theorem take_step {r : Nat} {a : Option (Tb × Nat)} {l : List Tl} {T : List Tb} {j : Nat} (h : l.map (·.t) = T) (hj : j < l.length) : (T.take (j + 1)).foldl (stepC r) a = stepC r ((T.take j).foldl (stepC r) a) l[j].t :=
  fold_take _ _ _ _ _ (by rw [← h, List.getElem?_map, List.getElem?_eq_getElem hj]; rfl)
set_option maxHeartbeats 8000000 in
theorem mnew_any (h : DevAt w B0 B D k kb kp km) (hB : B ≤ w.heap.size) (hd : D.dn = false) :
    Calls Tryz.prog 26 #[.pointer (some ⟨k, 0, none⟩)] w fun e w' => ∃ x : Tl, e = .returned (.tuple #[x.val, .int .i64 (newV D.newest).2.1, .int .i64 (newV D.newest).2.2]) ∧ x.t = (newV D.newest).1 ∧ x.Ok w' w'.heap.size ∧ x.Few ∧ x.Hi w.heap.size ∧ Below w.heap.size w w' := by
  have hs := h.sides
  have hb1 := (Below.refl w.heap.size w).alloc (Nat.le_refl _) (.cells zeroTl.cells.toArray 26)
  have hb2 := hb1.alloc hb1.size (.cells zeroTl.cells.toArray 26)
  have hz1 := BoxT.new zeroTl w
  have hz2 := BoxT.new zeroTl (w.alloc (.cells zeroTl.cells.toArray 26))
  have hs1 : (w.alloc (.cells zeroTl.cells.toArray 26)).heap.size = w.heap.size + 1 := by simp
  rw [hs1] at hz2
  have F := hide (up_any (h.below (hb1.mono hB)))
  have S0 : Hid (NewS w D k B0 B kb kp km (accC D 0) zeroTl ((w.alloc (.cells zeroTl.cells.toArray 26)).alloc (.cells zeroTl.cells.toArray 26))) := hide
    ⟨h.below (hb2.mono hB), hz1.below ((Below.refl _ _).alloc (Nat.le_refl _) _) hz1.lt, hz2, zeroTl_ok _ _, zeroTl_few, (zeroTl_hi (w.heap.size + 1)).off (Nat.lt_succ_self _), (zeroTl_hi (w.heap.size + 2)).off (Nat.lt_succ_self _), zeroTl_hi _, rfl, hb2⟩
  rw [if_neg (by rw [hd]; decide)] at F
  rw [show zeroTl.cells.toArray = #[.int .u64 0, .slice none 0 0, .slice none 0 0, .slice none 0 0] from rfl] at S0 F
  have HBB := hide hB
  have Hd := hide hd
  have HS := hide hs
  clear h hB hd hs hb1 hb2 hz1 hz2 hs1
  go_enter Tryz.func26, Tryz.ntmps26
  go_wp2_with fail
  (with_reducible refine F.out.mono ?_)
  rintro e w1 ⟨rfl, rfl⟩
  clear F
  go_wp2
  generalize (w.alloc (.cells #[.int .u64 0, .slice none 0 0, .slice none 0 0, .slice none 0 0] 26)).alloc (.cells #[.int .u64 0, .slice none 0 0, .slice none 0 0, .slice none 0 0] 26) = w2 at *
  go_loopw [7, 8, 9, 11, 18] (fun a e _ _ i wr => ∃ (r : Nat) (x : Tl) (p q : Int), r ≤ 2 ∧ a = .int .i64 p ∧ e = .int .i64 q ∧ i = .int .i64 (r : Int) ∧ Hid (NewS w D k B0 B kb kp km (accC D r) x wr) ∧ Hid (p = (newV (accC D r)).2.1 ∧ q = (newV (accC D r)).2.2)) (fun _ _ _ _ i _ => 2 - (intOf i).toNat)
  case atStart => exact ⟨0, zeroTl, 0, 8, Nat.zero_le _, rfl, rfl, rfl, S0, hide ⟨rfl, rfl⟩⟩
  case round =>
    obtain ⟨r, x, p, q, hr, rfl, rfl, rfl, HT, HV⟩ := hrel
    clear S0
    by_cases hlt : r < 2
    · have hlt' : (r : Int) < 2 := by omega
      have HBw := hide (Nat.le_trans HBB.out HT.out.below.size)
      have F := hide (mtabs_any HT.out.dev HBw.out Hd.out r hlt)
      go_wp2_with fail
      (with_reducible refine F.out.mono ?_)
      rintro e w3 ⟨l, A, c, rfl, htl, hli, hro, hhi, hb⟩
      have HT3 := hide (HT.out.later HBw.out hb)
      have Htl := hide htl
      have Hli := hide hli
      have Hro := hide hro
      have Hhi := hide hhi
      have Hkn := hide (show w.heap.size + 1 < wr.heap.size from HT.out.bx.lt)
      clear htl hli hro hhi hb F
      have Hof := hide (fun z (hz : z ∈ l) => (⟨(Hhi.out z hz).off (by have := Hkn.out; omega), (Hhi.out z hz).off Hkn.out⟩ : z.Off w.heap.size ∧ z.Off (w.heap.size + 1)))
      have Hih := hide (fun z (hz : z ∈ l) => (Hhi.out z hz).mono HT.out.below.size)
      have Hfar := hide (fun z (hz : z ∈ l) => (Hof.out z hz).2)
      have Hro2 : Hid (rowT l = [] ∨ ∃ a, A = some a ∧ a.block ≠ w.heap.size + 1) := hide (Hro.out.imp id (fun ⟨a, h1, h2⟩ => ⟨a, h1, by have := Hkn.out; omega⟩))
      have Hfl := hide (show l.length ≤ 1000 by rw [Htl.out.len]; exact Nat.le_trans (tabsF_few _ _ _) (by have := HS.out.2.2.2.1; omega))
      have Hlt := hide hlt
      clear Hro Hhi Hkn HT HBw hlt hr
      generalize wr = wq at *
      go_wp2
      go_loopw [7, 8, 11, 25] (fun a e _ i wr => ∃ (j : Nat) (x : Tl) (p q : Int), j ≤ l.length ∧ a = .int .i64 p ∧ e = .int .i64 q ∧ i = .int .i64 (j : Int) ∧ Hid (NewS w D k B0 B kb kp km (((D.tabs r).take j).foldl (stepC r) (accC D r)) x wr) ∧ Hid (p = (newV (((D.tabs r).take j).foldl (stepC r) (accC D r))).2.1 ∧ q = (newV (((D.tabs r).take j).foldl (stepC r) (accC D r))).2.2) ∧ Hid (Tls l (D.tabs r) wr) ∧ Hid (Lies wr wr.heap.size A (rowT l))) (fun _ _ _ i _ => l.length - (intOf i).toNat)
      case atStart => exact ⟨0, x, p, q, Nat.zero_le _, rfl, rfl, rfl, HT3, HV, Htl, Hli⟩
      case round =>
        clear HT3 HV Htl Hli
        obtain ⟨j, x, p, q, hjl, rfl, rfl, rfl, HN, HV, Htl, Hli⟩ := hrel
        by_cases hj : j < l.length
        · have hj' : (j : Int) < (l.length : Int) := by omega
          obtain ⟨a, ha, hab, hca⟩ := Hli.out.elem Tl.cells_len hj (by decide)
          have Hca := hide hca
          obtain ⟨y, hy⟩ : ∃ y, Hid (l[j] = y) := ⟨_, hide rfl⟩
          have HYj := hy
          rw [hy.out] at Hca
          have hym : y ∈ l := by rw [← hy.out]; exact List.getElem_mem hj
          have e1 : y.cells.toArray = #[.int .u64 (y.t.seq : Int), .slice y.A1 y.t.bad.length y.c1, .slice y.A2 y.t.wear.length y.c2, .slice y.A3 y.t.void.length y.c3] := rfl
          have e7 : wrap64 ((j : Int) + 1) = ((j + 1 : Nat) : Int) := by have := Hfl.out; unfold wrap64; omega
          have hb4 := (Below.refl wr.heap.size wr).alloc (Nat.le_refl _) (.cells y.cells.toArray 26)
          have HN4 := hide (HN.out.later (Nat.le_trans HBB.out HN.out.below.size) hb4)
          have HY4 := hide (BoxT.new y wr)
          have Htl4 := hide (Htl.out.below hb4)
          have Hli4 := hide ((Hli.out.below hb4).up hb4.size)
          have Hok := hide (Htl4.out.ok y hym)
          have Hfw := hide (Htl.out.few y hym)
          have Hof := hide (Hof.out y hym)
          have Hyh := hide (Hih.out y hym)
          rw [e1] at HN4 HY4 Htl4 Hli4 Hok
          clear hca hb4 hym hy HN Htl Hli
          subst ha
          go_upto_region 12 with (with_reducible refine wpl_load_addr rfl 26 (.tmp 27) rfl (a.add (j * 4)) y.cells Hca.out rfl _ Tryz.underlying26 rfl 4 infoTb rfl ?_; rw [e1])
          generalize wr.alloc (.cells #[.int .u64 (y.t.seq : Int), .slice y.A1 y.t.bad.length y.c1, .slice y.A2 y.t.wear.length y.c2, .slice y.A3 y.t.void.length y.c3] 26) = w4 at *
          generalize wr.heap.size = kt at *
          have c0 := HY4.out.c 0 _ rfl
          have g0 := HN4.out.bx.c 0 _ rfl
          obtain ⟨acc, hacc⟩ : ∃ acc, ((D.tabs r).take j).foldl (stepC r) (accC D r) = acc := ⟨_, rfl⟩
          rw [hacc] at HN4 HV
          have HG := hide hacc
          clear hacc Hca
          rcases acc with _ | ⟨u, b⟩
          · obtain ⟨rfl, rfl⟩ : p = 0 ∧ q = 8 := HV.out
            have HK := hide (HN4.out.take (acc' := some (y.t, r)) HBB.out Hok.out Hfw.out Hof.out.1 Hof.out.2 Hyh.out rfl)
            have c1 := HY4.out.c 1 _ rfl
            have c2 := HY4.out.c 2 _ rfl
            have c3 := HY4.out.c 3 _ rfl
            have g1 := HN4.out.bx.c 1 _ rfl
            have g2 := HN4.out.bx.c 2 _ rfl
            have g3 := HN4.out.bx.c 3 _ rfl
            have y0 := HN4.out.bx.free 0
            have y1 := HN4.out.bx.free 1
            have y2 := HN4.out.bx.free 2
            have y3 := HN4.out.bx.free 3
            have HE := hide (show stepC r none y.t = some (y.t, r) from rfl)
            go_wp2
            go_roundw
            case rel => exact ⟨j + 1, y, (r : Int), 0, hj, rfl, rfl, congrArg (Value.int .i64) e7, hide (by rw [take_step Htl4.out.same hj, HG.out, HYj.out, HE.out]; exact HK.out), hide (by rw [take_step Htl4.out.same hj, HG.out, HYj.out, HE.out]; exact ⟨rfl, rfl⟩), hide ⟨Htl4.out.same, fun z hz => (Htl4.out.ok z hz).putS (y := y) (Hfar.out z hz), Htl4.out.few⟩, hide (lies_putS Hli4.out Hro2.out y)⟩
            case measure => first | exact measT hj | exact measT2 e7 hj
          · obtain ⟨rfl, rfl⟩ : p = (b : Int) ∧ q = 0 := HV.out
            have Hxs : Hid (x.t = u) := hide HN4.out.same
            by_cases h1 : x.t.seq < y.t.seq
            · have h1' : (x.t.seq : Int) < (y.t.seq : Int) := by omega
              have HK := hide (HN4.out.take (acc' := some (y.t, r)) HBB.out Hok.out Hfw.out Hof.out.1 Hof.out.2 Hyh.out rfl)
              have c1 := HY4.out.c 1 _ rfl
              have c2 := HY4.out.c 2 _ rfl
              have c3 := HY4.out.c 3 _ rfl
              have g1 := HN4.out.bx.c 1 _ rfl
              have g2 := HN4.out.bx.c 2 _ rfl
              have g3 := HN4.out.bx.c 3 _ rfl
              have y0 := HN4.out.bx.free 0
              have y1 := HN4.out.bx.free 1
              have y2 := HN4.out.bx.free 2
              have y3 := HN4.out.bx.free 3
              have HE := hide (show stepC r (some (u, b)) y.t = some (y.t, r) from by show (if u.seq < y.t.seq ∨ _ then _ else _) = _; rw [if_pos (.inl (by rw [← Hxs.out]; exact h1))])
              go_wp2
              go_roundw
              case rel => exact ⟨j + 1, y, (r : Int), 0, hj, rfl, rfl, congrArg (Value.int .i64) e7, hide (by rw [take_step Htl4.out.same hj, HG.out, HYj.out, HE.out]; exact HK.out), hide (by rw [take_step Htl4.out.same hj, HG.out, HYj.out, HE.out]; exact ⟨rfl, rfl⟩), hide ⟨Htl4.out.same, fun z hz => (Htl4.out.ok z hz).putS (y := y) (Hfar.out z hz), Htl4.out.few⟩, hide (lies_putS Hli4.out Hro2.out y)⟩
              case measure => first | exact measT hj | exact measT2 e7 hj
            · have h1' : ¬ (x.t.seq : Int) < (y.t.seq : Int) := by omega
              by_cases h2 : y.t.seq = x.t.seq
              · have h2' : ((y.t.seq : Int) == (x.t.seq : Int)) = true := by rw [h2]; simp
                have H2 := hide h2
                clear h2
                by_cases h3 : r = b
                · have h3' : ((r : Int) == (b : Int)) = true := by rw [h3]; simp
                  have H3 := hide h3
                  have HK := hide (HN4.out.take (acc' := some (y.t, r)) HBB.out Hok.out Hfw.out Hof.out.1 Hof.out.2 Hyh.out rfl)
                  have c1 := HY4.out.c 1 _ rfl
                  have c2 := HY4.out.c 2 _ rfl
                  have c3 := HY4.out.c 3 _ rfl
                  have g1 := HN4.out.bx.c 1 _ rfl
                  have g2 := HN4.out.bx.c 2 _ rfl
                  have g3 := HN4.out.bx.c 3 _ rfl
                  have y0 := HN4.out.bx.free 0
                  have y1 := HN4.out.bx.free 1
                  have y2 := HN4.out.bx.free 2
                  have y3 := HN4.out.bx.free 3
                  have HE := hide (show stepC r (some (u, b)) y.t = some (y.t, r) from by show (if _ ∨ (y.t.seq = u.seq ∧ r = b) then _ else _) = _; rw [if_pos (.inr ⟨by rw [H2.out, Hxs.out], H3.out⟩)])
                  go_wp2
                  go_roundw
                  case rel => exact ⟨j + 1, y, (r : Int), 0, hj, rfl, rfl, congrArg (Value.int .i64) e7, hide (by rw [take_step Htl4.out.same hj, HG.out, HYj.out, HE.out]; exact HK.out), hide (by rw [take_step Htl4.out.same hj, HG.out, HYj.out, HE.out]; exact ⟨rfl, rfl⟩), hide ⟨Htl4.out.same, fun z hz => (Htl4.out.ok z hz).putS (y := y) (Hfar.out z hz), Htl4.out.few⟩, hide (lies_putS Hli4.out Hro2.out y)⟩
                  case measure => first | exact measT hj | exact measT2 e7 hj
                · have h3' : ((r : Int) == (b : Int)) = false := beq_eq_false_iff_ne.2 (fun h => h3 (by omega))
                  have h3p : ¬ (r : Int) = (b : Int) := fun h => h3 (by omega)
                  have HE := hide (show stepC r (some (u, b)) y.t = (some (u, b)) from by show (if u.seq < y.t.seq ∨ (y.t.seq = u.seq ∧ r = b) then _ else _) = _; rw [if_neg (fun h => h.elim (fun h => h1 (by rw [Hxs.out]; exact h)) (fun h => h3 h.2))])
                  go_wp2
                  go_roundw
                  case rel => exact ⟨j + 1, x, (b : Int), 0, hj, rfl, rfl, congrArg (Value.int .i64) e7, hide (by rw [take_step Htl4.out.same hj, HG.out, HYj.out, HE.out]; exact HN4.out), hide (by rw [take_step Htl4.out.same hj, HG.out, HYj.out, HE.out]; exact ⟨rfl, rfl⟩), Htl4, Hli4⟩
                  case measure => first | exact measT hj | exact measT2 e7 hj
              · have h2' : ((y.t.seq : Int) == (x.t.seq : Int)) = false := beq_eq_false_iff_ne.2 (fun h => h2 (by omega))
                have h2p : ¬ (y.t.seq : Int) = (x.t.seq : Int) := fun h => h2 (by omega)
                have HE := hide (show stepC r (some (u, b)) y.t = (some (u, b)) from by show (if u.seq < y.t.seq ∨ (y.t.seq = u.seq ∧ r = b) then _ else _) = _; rw [if_neg (fun h => h.elim (fun h => h1 (by rw [Hxs.out]; exact h)) (fun h => h2 (by rw [Hxs.out]; exact h.1)))])
                go_wp2
                go_roundw
                case rel => exact ⟨j + 1, x, (b : Int), 0, hj, rfl, rfl, congrArg (Value.int .i64) e7, hide (by rw [take_step Htl4.out.same hj, HG.out, HYj.out, HE.out]; exact HN4.out), hide (by rw [take_step Htl4.out.same hj, HG.out, HYj.out, HE.out]; exact ⟨rfl, rfl⟩), Htl4, Hli4⟩
                case measure => first | exact measT hj | exact measT2 e7 hj
        · obtain rfl : j = l.length := by omega
          have hfull : ((D.tabs r).take l.length).foldl (stepC r) (accC D r) = accC D (r + 1) := by
            rw [Htl.out.len, List.take_length]; exact accC_step D Hlt.out
          rw [hfull] at HN HV
          have e7 : wrap64 ((r : Int) + 1) = ((r + 1 : Nat) : Int) := by have := Hlt.out; unfold wrap64; omega
          have Hr2 := hide (show r + 1 ≤ 2 from Hlt.out)
          clear hfull Htl Hli
          go_wp2
          go_roundw
          case rel => exact ⟨r + 1, x, p, q, Hr2.out, rfl, rfl, congrArg (Value.int .i64) (by first | exact e7 | rfl | omega), HN, HV⟩
          case measure => first | exact measT Hr2.out | exact measT2 e7 Hr2.out
    · obtain rfl : r = 2 := by omega
      obtain ⟨rfl, rfl⟩ : p = (newV D.newest).2.1 ∧ q = (newV D.newest).2.2 := HV.out
      have HN : Hid (NewS w D k B0 B kb kp km D.newest x wr) := HT
      clear HT HV
      have c0 := HN.out.bx.c 0 _ rfl
      have c1 := HN.out.bx.c 1 _ rfl
      have c2 := HN.out.bx.c 2 _ rfl
      have c3 := HN.out.bx.c 3 _ rfl
      have z0 := HN.out.bz.c 0 _ rfl
      have z1 := HN.out.bz.c 1 _ rfl
      have z2 := HN.out.bz.c 2 _ rfl
      have z3 := HN.out.bz.c 3 _ rfl
      have y0 := HN.out.bz.free 0
      have y1 := HN.out.bz.free 1
      have y2 := HN.out.bz.free 2
      have y3 := HN.out.bz.free 3
      have HS9 := hide HN.out.same
      go_wp2
      have hok := HN.out.ok.putS (y := x) HN.out.off0
      exact bodyPost_ret (results_tb3 rfl _ _ x w.heap.size rfl (boxT4 HN.out.bz)) rfl ⟨x, rfl, HS9.out, hok, HN.out.few, HN.out.hi, putT_below HN.out.below (Nat.le_refl _) x⟩
end
end
section
open Go.RowKit
set_option maxRecDepth 8000

theorem newest_two {D : Dv} {u : Tb} {r : Nat} (h : D.newest = some (u, r)) : r = 0 ∨ r = 1 := by
  unfold Dv.newest at h
  cases ha : last (D.tabs 0) with
  | none =>
    rw [ha] at h
    cases hb : last (D.tabs 1) with
    | none => rw [hb] at h; cases h
    | some b => rw [hb] at h; injection h with h; injection h with _ h; exact .inr h.symm
  | some a =>
    rw [ha] at h
    cases hb : last (D.tabs 1) with
    | none => rw [hb] at h; injection h with h; injection h with _ h; exact .inl h.symm
    | some b =>
      rw [hb, comb_two] at h
      split at h <;> (injection h with h; injection h with _ h)
      · exact .inr h.symm
      · exact .inl h.symm
section
variable {w : World} {B0 B : Nat} {D : Dv} {k kb kp km : Nat}
set_option maxHeartbeats 2000000 in
theorem older_any (h : DevAt w B0 B D k kb kp km) (hB : B ≤ w.heap.size) (hd : D.dn = false) :
    Calls Tryz.prog 47 #[.pointer (some ⟨k, 0, none⟩)] w fun e w' => e = .returned (.int .i64 (D.older : Int)) ∧ Below w.heap.size w w' := by
  have F := hide (mnew_any h hB hd)
  have HO : Hid ((D.newest = none → D.older = 0) ∧ ∀ u r, D.newest = some (u, r) → (r = 0 ∧ D.older = 1 ∨ r = 1 ∧ D.older = 0)) := hide ⟨fun e => by unfold Dv.older; simp only [e], fun u r e => by
    rcases newest_two e with e2 | e2
    · left; subst e2; exact ⟨rfl, by unfold Dv.older; simp only [e]⟩
    · right; subst e2; exact ⟨rfl, by unfold Dv.older; simp only [e]⟩⟩
  clear h hB hd
  generalize D.newest = N at *
  generalize D.older = O at *
  have Hs : ∀ x : Tl, x.val = .agg #[.int .u64 (x.t.seq : Int), .slice x.A1 x.t.bad.length x.c1, .slice x.A2 x.t.wear.length x.c2, .slice x.A3 x.t.void.length x.c3] := fun _ => rfl
  rcases N with _ | ⟨u, r⟩
  · obtain rfl : O = 0 := HO.out.1 rfl
    rw [show newV none = (zeroT, 0, 8) from rfl] at F
    clear HO
    go_enter Tryz.func47, Tryz.ntmps47
    go_wp2_with fail
    (with_reducible refine F.out.mono ?_)
    rintro e w1 ⟨x, rfl, h1, h2, h3, h4, hb⟩
    have HB := hide (hb.alloc hb.size (.cells #[.int .u64 (x.t.seq : Int), .slice x.A1 x.t.bad.length x.c1, .slice x.A2 x.t.wear.length x.c2, .slice x.A3 x.t.void.length x.c3] 26))
    rw [Hs x]
    clear hb F h1 h2 h3 h4 Hs
    go_wp2
    go_ret
    exact ⟨rfl, HB.out⟩
  · rw [show newV (some (u, r)) = (u, (r : Int), 0) from rfl] at F
    rcases HO.out.2 u r rfl with ⟨rfl, rfl⟩ | ⟨rfl, rfl⟩
    all_goals
      clear HO
      go_enter Tryz.func47, Tryz.ntmps47
      go_wp2_with fail
      (with_reducible refine F.out.mono ?_)
      rintro e w1 ⟨x, rfl, h1, h2, h3, h4, hb⟩
      have HB := hide (hb.alloc hb.size (.cells #[.int .u64 (x.t.seq : Int), .slice x.A1 x.t.bad.length x.c1, .slice x.A2 x.t.wear.length x.c2, .slice x.A3 x.t.void.length x.c3] 26))
      rw [Hs x]
      clear hb F h1 h2 h3 h4 Hs
      go_wp2
      go_ret
      exact ⟨rfl, HB.out⟩
theorem LiesT.belowM {w w' : World} {B : Nat} {A : Option Addr} {l : List UInt8} (h : LiesT w B A l) (hb : Below B w w') : LiesT w' B A l := h.kept fun b hb' _ => hb.block b hb'
/-- What Write makes of an erase and a program. -/
theorem tch_low {S : List Nat} {a b c : World} (h : Below a.heap.size a b) (h2 : Tch S b c) : Tch S a c := (Tch.of_below h).trans h2
set_option maxHeartbeats 8000000 in
theorem mwrite_any (h : DevAt w B0 B D k kb kp km) (hB : B ≤ w.heap.size) (hd : D.dn = false) (hops : D.ops < 900000) (x : Tl) (B2 : Nat) (hx : x.Ok w B2) (hf : x.Few) (hm : x.t.May) (hB2 : B2 ≤ w.heap.size) :
    Calls Tryz.prog 22 #[.pointer (some ⟨k, 0, none⟩), x.val] w fun e w' => e = .returned (.int .i64 (D.writeR x.t.page).1) ∧ DevAt w' B0 B (D.writeR x.t.page).2 k kb kp km ∧ Tch [k, kb, kp] w w' := by
  have hs := h.sides
  have hl := Tb.page_len hm
  have hb1 := (Below.refl w.heap.size w).alloc (Nat.le_refl _) (.cells x.cells.toArray 26)
  have hx1 := BoxT.new x w
  have F := hide (up_any (h.below (hb1.mono hB)))
  rw [if_neg (by rw [hd]; decide)] at F
  have FP := hide (tput_ok x B2 _ (hx.below (hb1.mono hB2)) hf hm (Nat.le_trans hB2 hb1.size))
  have H1 := hide (h.below (hb1.mono hB))
  have HB1 := hide hb1
  have HX1 := hide hx1
  have HBB := hide hB
  have Hd := hide hd
  have HS := hide hs
  have Hl := hide hl
  have Hops := hide hops
  have Ho := hide D.older_two
  have hg : D.g.val = .agg #[.int .i64 D.g.b, .int .i64 (D.np : Int), .int .i64 D.g.r] := by unfold Gm.val; rw [hs.2.2.2.2.2]
  have Hg := hide hg
  have e0 : x.val = .agg #[.int .u64 (x.t.seq : Int), .slice x.A1 x.t.bad.length x.c1, .slice x.A2 x.t.wear.length x.c2, .slice x.A3 x.t.void.length x.c3] := rfl
  have e1 : x.cells.toArray = #[.int .u64 (x.t.seq : Int), .slice x.A1 x.t.bad.length x.c1, .slice x.A2 x.t.wear.length x.c2, .slice x.A3 x.t.void.length x.c3] := rfl
  rw [e0] at FP ⊢
  rw [e1] at F FP H1 HB1 HX1
  generalize hpg : x.t.page = pg at *
  clear h hB hd hops hx hf hm hB2 hs hb1 hx1 hl hg hpg
  go_enter Tryz.func22, Tryz.ntmps22
  go_wp2_with fail
  (with_reducible refine F.out.mono ?_)
  rintro e w1 ⟨rfl, rfl⟩
  generalize w.alloc (.cells #[.int .u64 (x.t.seq : Int), .slice x.A1 x.t.bad.length x.c1, .slice x.A2 x.t.wear.length x.c2, .slice x.A3 x.t.void.length x.c3] 26) = w1 at *
  have c0 := HX1.out.c 0 _ rfl
  have c1 := HX1.out.c 1 _ rfl
  have c2 := HX1.out.c 2 _ rfl
  have c3 := HX1.out.c 3 _ rfl
  clear e0 e1 F
  go_wp2_with fail
  (with_reducible refine FP.out.mono ?_)
  rintro e w2 ⟨A, c, rfl, ho, hb⟩
  have HL2 := hide (LiesT.of_own ho)
  have HB2 := hide (HB1.out.trans (hb.mono HB1.out.size))
  have H2 := hide (H1.out.below (hb.mono (Nat.le_trans HBB.out HB1.out.size)))
  have Fo := hide (older_any H2.out (Nat.le_trans HBB.out HB2.out.size) Hd.out)
  clear ho hb FP HX1 H1 HB1 c0 c1 c2 c3
  go_wp2_with fail
  (with_reducible refine Fo.out.mono ?_)
  rintro e w3 ⟨rfl, hb⟩
  have HL3 := hide ((HL2.out.belowM hb).up hb.size)
  have HB3 := hide (HB2.out.trans (hb.mono HB2.out.size))
  have H3 := hide (H2.out.below (hb.mono (Nat.le_trans HBB.out HB2.out.size)))
  have HW : Hid (D.writeR pg = if D.nx D.older = D.np then (if (D.eraR D.older).1 = 0 then (D.eraR D.older).2.progR D.older ((D.eraR D.older).2.nx D.older) pg else D.eraR D.older) else D.progR D.older (D.nx D.older) pg) := hide rfl
  generalize D.older = O at *
  have HO := hide (show O < D.nb by have := HS.out.1; rcases Ho.out with e | e <;> omega)
  have Fn := hide (next_some H3.out O HO.out)
  clear hb Fo HL2 H2 HB2
  go_wp2_with fail
  (with_reducible refine Fn.out.mono ?_)
  rintro e w4 ⟨rfl, rfl⟩
  have Fs := hide (sides_any H3.out)
  rw [Hg.out] at Fs
  have hfd := fun W => field_pages D.g.b (D.np : Int) D.g.r W
  go_wp2_with fail
  (with_reducible refine Fs.out.mono ?_)
  rintro e w4 ⟨rfl, hb⟩
  have HL4 := hide ((HL3.out.belowM hb).up hb.size)
  have HB4 := hide (HB3.out.trans (hb.mono HB3.out.size))
  have H4 := hide (H3.out.below (hb.mono (Nat.le_trans HBB.out HB3.out.size)))
  clear hb Fs HL3 H3 HB3 Fn
  by_cases hf : D.nx O = D.np
  · have hb0 : ((D.nx O : Int) == (D.np : Int)) = true := by rw [hf]; simp
    rw [if_pos hf] at HW
    have Hf := hide hf
    clear hf
    have Fe := hide (dera_any H4.out (Nat.le_trans HBB.out HB4.out.size) (by have := Hops.out; omega) (O : Int))
    go_wp2_with fail
    (with_reducible refine Fe.out.mono ?_)
    rintro e w5 ⟨rfl, hd5, ht5⟩
    have H5 := hide hd5
    have HT5 := hide (tch_low HB4.out ht5)
    have HL5 := hide ((H4.out.lies_tch (Nat.le_refl _) HL4.out ht5).up ht5.size)
    have Hg5 := hide (D.eraR_g (O : Int))
    have Hops5 := hide (D.eraR_ops (O : Int))
    clear hd5 ht5 Fe hfd
    generalize D.eraR (O : Int) = R at *
    rcases R with ⟨q, E⟩
    dsimp only at HW H5 Hg5 Hops5 ⊢
    by_cases h0 : q = 0
    · subst h0
      rw [if_pos rfl] at HW
      have hnb : E.nb = D.nb := by unfold Dv.nb; rw [Hg5.out]
      have Fn := hide (next_some H5.out O (by rw [hnb]; exact HO.out))
      have FQ := hide (fun y : Nat => dprog_any H5.out (Nat.le_trans HBB.out HT5.out.size) (by have := Hops.out; have := Hops5.out; omega) (O : Int) (y : Int) A c pg HL5.out Hl.out)
      clear hnb
      go_wp2_with fail
      (with_reducible refine Fn.out.mono ?_)
      rintro e w6 ⟨rfl, rfl⟩
      go_wp2_with fail
      (with_reducible refine (FQ.out _).mono ?_)
      rintro e w6 ⟨rfl, hd6, ht6⟩
      have H6 := hide hd6
      have HT6 := hide (HT5.out.trans ht6)
      clear hd6 ht6
      go_wp2
      go_ret
      rw [HW.out]
      exact ⟨rfl, H6.out, HT6.out⟩
    · rw [if_neg h0] at HW
      have hb1 : (q != 0) = true := bne_iff_ne.2 h0
      clear h0
      go_wp2
      go_ret
      rw [HW.out]
      exact ⟨rfl, H5.out, HT5.out⟩
  · have hb0 : ((D.nx O : Int) == (D.np : Int)) = false := beq_eq_false_iff_ne.2 (fun h => hf (by omega))
    rw [if_neg hf] at HW
    have Hf := hide hf
    clear hf
    have Fn := hide (next_some H4.out O HO.out)
    have FQ := hide (fun y : Nat => dprog_any H4.out (Nat.le_trans HBB.out HB4.out.size) (by have := Hops.out; omega) (O : Int) (y : Int) A c pg HL4.out Hl.out)
    go_wp2_with fail
    (with_reducible refine Fn.out.mono ?_)
    rintro e w6 ⟨rfl, rfl⟩
    go_wp2_with fail
    (with_reducible refine (FQ.out _).mono ?_)
    rintro e w6 ⟨rfl, hd6, ht6⟩
    have H6 := hide hd6
    have HT6 := hide (tch_low HB4.out ht6)
    clear hd6 ht6
    go_wp2
    go_ret
    rw [HW.out]
    exact ⟨rfl, H6.out, HT6.out⟩
end
end
end Go.Proofs.YtigpplckddnghaaGreat
