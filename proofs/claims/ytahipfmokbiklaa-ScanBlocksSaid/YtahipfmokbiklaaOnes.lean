/-
  An operation that makes memory, in a region that draws (Flow). (Cut out of Dev10 and Flo4.)
  CONTRACTS of bytes.Repeat of the one byte 255, .
  CONTRACTS of package nand: the functions that program and erase make.
  CONTRACT of zeros.Ones.
-/
import Derived.Test.YtahipfmokbiklaaFlow
import Derived.Test.YtahipfmokbiklaaTch
import Derived.Lib.MakeNoZero
import Derived.Laws.IdiomCopy
import Derived.Laws.Slices
import Derived.Deep.Draws
import Derived.Test.YtahipfmokbiklaaElem
namespace Go.Proofs.Ytahipfmokbiklaa
section
open Go.RowKit

/-- An operation that yields a value and makes memory. -/
theorem FlowOp.made {P : Program} {ops : Array Oper} {φ : Tmp → Value → World → Prop} {o : Oper} {a : Act} {w w' : World} {d : Tmp} {v : Value} (hw : Region.wanted o (yielded ops a.tmps) = true) (hx : o.dst = some d) (hr : (execOp a.eval o).run P w = .ok (.value v) w') (hb : Below w.heap.size w w') (hv : Keeps (φ d) v w') : FlowOp P ops φ o a w := by
  intro K Q h
  rw [if_pos hw]
  unfold Oper.wp
  rw [hr]
  exact h v w' hb (Keeps.dst hx hv)
end
section
open Go.RowKit

theorem mul_one (x : Nat) (w : World) (h1 : x ≤ 1048576) : Calls Try.prog 82 #[.int .u64 1, .int .u64 (x : Int)] w fun e w' => e = .returned (.tuple #[.int .u64 0, .int .u64 (x : Int)]) ∧ w = w' := by
  have b1 : bits .and .u64 1 4294967295 = 1 := by decide
  have b0 : bits .and .u64 0 4294967295 = 0 := by decide
  have b2 : bits .and .u64 (x : Int) 4294967295 = (x : Int) := by
    rw [show (4294967295 : Int) = ((4294967295 : Nat) : Int) from rfl, u64_and_nat x _ (by omega) (by omega), nat_mask32, Nat.mod_eq_of_lt (by omega)]
  have b3 : (x : Int) / 4294967296 = 0 := by omega
  have b4 : IntKind.u64.wrap (x : Int) = (x : Int) := IntWalk.u64_in _ (by omega)
  have b5 : IntKind.u64.wrap 0 = 0 := by decide
  go_enter Try.func82, Try.ntmps82
  go_wp2
  go_ret2
  exact ⟨rfl, rfl⟩

theorem repeat_0 (A : Option Addr) (n c : Nat) (w : World) : Calls Try.prog 68 #[.slice A n c, .int .i64 0] w fun e w' => ∃ A' c', e = .returned (.slice A' 0 c') ∧ Lies w' w'.heap.size A' [] ∧ Below w.heap.size w w' := by
  go_enter Try.func68, Try.ntmps68
  go_wp2
  go_ret
  exact ⟨_, _, rfl, Lies.nil, (Below.refl _ w).alloc (Nat.le_refl _) _⟩

/-- A buffer of the call's own at block h, of which the first p bytes are 255. -/
structure Fills (w0 wr : World) (h x p : Nat) : Prop where
  below : Below h w0 wr
  size : h < wr.heap.size
  there : ∀ j, j < x → (wr.cell? ⟨h, j, none⟩).isSome = true
  free : ∀ j, j < x → wr.frozen? ⟨h, j, none⟩ = false
  holds : ∀ j, j < p → wr.cell? ⟨h, j, none⟩ = some (.int .u8 255)

theorem Fills.drew {w0 wr : World} {h x p : Nat} (f : Fills w0 wr h x p) : Fills w0 wr.drew h x p := ⟨f.below.drew, f.size, f.there, f.free, f.holds⟩
theorem below_cells {B : Nat} {a : World} (b : Nat) (hb : B ≤ b) : ∀ (vs : List Value) (o : Nat) {w : World}, Below B a w → Below B a (w.setCells b o vs) ∧ (w.setCells b o vs).heap.size = w.heap.size
  | [], _, _, h => ⟨h, rfl⟩
  | v :: r, o, w, h => by
    have := below_cells b hb r (o + 1) (h.setCell (p := ⟨b, o, none⟩) hb v)
    exact ⟨this.1, this.2.trans (by simp)⟩
theorem Fills.start (w : World) (cs : Array Value) (e : TypeId) (x : Nat) (hx : x ≤ cs.size) : Fills w ((w.alloc (.cells cs e)).drewN 2) w.heap.size x 0 where
  below := bel_drewN ((Below.refl _ w).alloc (Nat.le_refl _) _) 2
  size := by simp
  there := fun j hj => by
    rw [World.cell?_drewN, World.cell?_alloc_mark, Array.getElem?_eq_getElem (by omega)]
    rfl
  free := fun j _ => by
    rw [World.frozen?_drewN]
    have := World.frozen?_alloc_mark w cs e 0 0 j
    rw [this]
    simp
  holds := fun j hj => by omega

section
variable {P : Program}
/-- copy of k bytes 255 behind the first p. -/
theorem Fills.copy {w0 wr : World} {h x p : Nat} (f : Fills w0 wr h x p) (t ty e : TypeId) (hu : P.underlying t = some (.slice e)) (hs : (P.info? e).map (·.size) = some 1) (hp : p < x) (a : Addr) (m c : Nat)
    (hm : ∀ j, j < m → wr.cell? (a.add j) = some (.int .u8 255)) (o : Nat) (ho : p = o) (dl dc : Nat) (hdl : x - p = dl) :
    ∃ w', (Builtin.copy_ #[t, t] ty #[.slice (some ⟨h, o, none⟩) dl dc, .slice (some a) m c]).run P wr = .ok (.int .i64 ((min m (x - p) : Nat) : Int)) w' ∧ Fills w0 w' h x (p + min m (x - p)) := by
  subst ho hdl
  have hr := run_copy_cells (P := P) wr t t ty e h p (x - p) dc a m c (List.replicate (min m (x - p)) (.int .u8 255)) hu hs (by simp)
    (fun j u hj => by
      rw [List.getElem?_replicate] at hj
      split at hj
      · injection hj with hj
        rw [← hj]
        exact hm j (by omega)
      · cases hj)
    (fun j hj => by rw [List.length_replicate] at hj; exact f.there _ (by omega)) (fun j hj => by rw [List.length_replicate] at hj; exact f.free _ (by omega))
    (fun u hu' => by rw [List.eq_of_mem_replicate hu']; rfl)
  rw [List.length_replicate] at hr
  have hin := World.cell?_setCells_in h (List.replicate (min m (x - p)) (Value.int .u8 255)) p wr (fun j hj => by rw [List.length_replicate] at hj; exact f.there _ (by omega))
  have hout := World.cell?_setCells_out h (List.replicate (min m (x - p)) (Value.int .u8 255)) p wr
  have hbel := below_cells h (Nat.le_refl _) (List.replicate (min m (x - p)) (Value.int .u8 255)) p f.below
  refine ⟨_, hr, hbel.1, by rw [hbel.2]; exact f.size, ?_, fun j hj => by rw [World.frozen?_setCells]; exact f.free j hj, ?_⟩
  · intro j hj
    by_cases h1 : p ≤ j ∧ j < p + min m (x - p)
    · obtain ⟨d, rfl⟩ : ∃ d, j = p + d := ⟨j - p, by omega⟩
      rw [hin d (by rw [List.length_replicate]; omega)]
      rfl
    · rw [hout ⟨h, j, none⟩ (fun _ _ => by rw [List.length_replicate]; show j < _ ∨ _ ≤ j; omega)]
      exact f.there j hj
  · intro j hj
    by_cases h1 : j < p
    · rw [hout ⟨h, j, none⟩ (fun _ _ => Or.inl h1)]
      exact f.holds j h1
    · obtain ⟨d, rfl⟩ : ∃ d, j = p + d := ⟨j - p, by omega⟩
      rw [hin d (by rw [List.length_replicate]; omega)]
      simp
theorem wpl_copy (w : World) {ops : Array Oper} {rest : List Oper} {o : Oper} {a : Act} {Q : Exit → Act → World → Prop} (hgd : o.guard = none) (d s : Operand) (t t' : TypeId)
    (ho : o.op = .call { callee := .builtin .copy, args := #[d, s], argTypes := #[t, t'] }) (v u : Value) (hd : a.eval d = v) (hs : a.eval s = u) {v' : Value} {w' : World}
    (hr : (Builtin.copy_ #[t, t'] o.type #[v, u]).run P w = .ok v' w') (h : wpList P ops Q rest (a.put o.dst v') w') : wpList P ops Q (o :: rest) a w :=
  wpList_plain hgd fun _ hK => by
    unfold Oper.wp execOp
    simp only [ho, resolve, invoke, builtin, Sem.run_bind, Sem.run_pure, Result.andThen_ok, List.map_toArray, List.map_cons, List.map_nil, hd, hs, hr]
    exact hK _ _ h
theorem step_copyrun {w : World} {ops : Array Oper} {o : Oper} {a : Act} {K : Act → World → Prop} {Q : Exit → Act → World → Prop} {F : Prop} (hgd : o.guard = none) (d s : Operand) (t t' : TypeId)
    (ho : o.op = .call { callee := .builtin .copy, args := #[d, s], argTypes := #[t, t'] }) {v u v' : Value} {w' : World} (hr : (Builtin.copy_ #[t, t'] o.type #[v, u]).run P w = .ok v' w') (hd : a.eval d = v) (hs : a.eval s = u)
    (h : K (a.put o.dst v') w') : if Region.wanted o (yielded ops a.tmps) = true then Oper.wp P o a w K Q else F := by
  have hw : Region.wanted o (yielded ops a.tmps) = true := by simp [Region.wanted, hgd]
  rw [if_pos hw]
  unfold Oper.wp execOp
  simp only [ho, resolve, invoke, builtin, Sem.run_bind, Sem.run_pure, Result.andThen_ok, List.map_toArray, List.map_cons, List.map_nil, hd, hs, hr]
  exact h
end

theorem Fills.lies {w0 wr : World} {h x p : Nat} (f : Fills w0 wr h x p) (n : Nat) (hn : n ≤ p) : Lies wr wr.heap.size (some ⟨h, 0, none⟩) (bys (List.replicate n 255)) :=
  .inr ⟨_, rfl, f.size, fun j u hu => by
    have hj : j < n := by
      have := (List.getElem?_eq_some_iff.1 hu).1
      rwa [bys_len, List.length_replicate] at this
    have e : (⟨h, 0, none⟩ : Addr).add j = ⟨h, j, none⟩ := by unfold Addr.add; split <;> simp_all
    rw [e, f.holds j (by omega), ← hu]
    simp [bys, hj]⟩

set_option maxRecDepth 4000 in
set_option maxHeartbeats 2000000 in
theorem repeat_any (a : Addr) (c x : Nat) (w : World) (hc : w.cell? a = some (.int .u8 255)) (h1 : 1 ≤ x) (h2 : x ≤ 1048576) :
    Calls Try.prog 68 #[.slice (some a) 1 c, .int .i64 (x : Int)] w fun e w' => ∃ A' c', e = .returned (.slice A' x c') ∧ Lies w' w'.heap.size A' (bys (List.replicate x 255)) ∧ Below w.heap.size w w' := by
  have hx0 : ((x : Int) == 0) = false := by rw [beq_eq_false_iff_ne]; omega
  have hx1 : ¬ (x : Int) < 0 := by omega
  have b4 : IntKind.u64.wrap (x : Int) = (x : Int) := IntWalk.u64_in _ (by omega)
  have b6 : ¬ (9223372036854775807 : Int) < (x : Int) := by omega
  have hinfo : (Try.prog.info? 5).map (·.size) = some 1 := by kernel_rfl
  obtain ⟨cs, hrunM, hle, _⟩ := Lib.run_makeNoZero (P := Try.prog) w #[3] 65 5 Try.underlying65 x (by omega)
  have hcall : (callFunc 83 #[.int .i64 (x : Int)]).run Try.prog w = .ok (.value (.slice (some ⟨w.heap.size, 0, none⟩) x cs.size)) ((w.alloc (.cells cs 5)).drewN 2) := by
    rw [run_callFunc_extern Try.func83 (by kernel_rfl) (by kernel_rfl) (by kernel_rfl) (e := Extern.BytealgMakeNoZero.makeNoZero #[3] #[65]) (by kernel_rfl), hrunM]
    rfl
  clear hrunM
  have F0 := Fills.start w cs 5 x hle
  obtain ⟨w1, hr1, F1⟩ := Fills.copy (P := Try.prog) F0 65 3 5 Try.underlying65 hinfo (by omega) a 1 c (fun j hj => by
    obtain rfl : j = 0 := by omega
    have e : a.add 0 = a := by unfold Addr.add; simp
    rw [e, F0.below.cell (World.block_lt_of_cell? w a hc)]
    exact hc) 0 rfl x x rfl
  rw [show min 1 (x - 0) = 1 by omega] at hr1 F1
  have HF1 := hide F1
  clear F0 F1
  have i1 : (x : Int) ≤ (cs.size : Int) := by omega
  by_cases hbig : (8192 : Int) < (x : Int)
  all_goals
    go_enter Try.func68, Try.ntmps68
    go_wp2_with fail
    refine (mul_one x _ h2).mono ?_
    rintro e w2 ⟨rfl, rfl⟩
    go_wp2_with (at_builtin; refine wpl_copy _ rfl _ _ 65 65 rfl _ _ rfl rfl hr1 ?_)
    clear hr1 hcall
    go_loopw [10] (fun q wr => ∃ p : Nat, 1 ≤ p ∧ p ≤ x ∧ q = .int .i64 (p : Int) ∧ Hid (Fills w wr w.heap.size x p)) (fun q _ => x - (intOf q).toNat)
    case atStart => exact ⟨1, Nat.le_refl _, h1, rfl, HF1⟩
    case round =>
      obtain ⟨p, hp1, hpx, rfl, HF⟩ := hrel
      by_cases hlt : p < x
      · have h3 : (p : Int) < (x : Int) := by omega
        have hne : ¬ x = p := by omega
        have hcell : ∀ j, j < p → wr.drew.cell? ((⟨w.heap.size, 0, none⟩ : Addr).add j) = some (.int .u8 255) := fun j hj => by
          have e : (⟨w.heap.size, 0, none⟩ : Addr).add j = ⟨w.heap.size, j, none⟩ := by unfold Addr.add; split <;> simp_all
          rw [e]
          exact HF.out.drew.holds j (by omega)
        have Hcell := hide hcell
        clear hcell
        by_cases hm : p ≤ 8192
        · have hm0 : ¬ (8192 : Int) < (p : Int) := by omega
          obtain ⟨w2, hr2, F2⟩ := Fills.copy (P := Try.prog) HF.out.drew 65 3 5 Try.underlying65 hinfo hlt ⟨w.heap.size, 0, none⟩ p x Hcell.out p rfl (x - p) (x - p) rfl
          obtain ⟨m, hm1⟩ : ∃ m, m = min p (x - p) := ⟨_, rfl⟩
          rw [← hm1] at hr2 F2
          have HF2 := hide F2
          have hm2 : p + m ≤ x ∧ 1 ≤ m := by omega
          have hsum : IntKind.i64.wrap ((p : Int) + (m : Int)) = (p : Int) + (m : Int) := IntWalk.i64_in _ (by omega)
          clear F2 hm1
          go_wp2
          go_region_law (refine step_copyrun rfl (.tmp 70) (.tmp 73) 65 65 rfl hr2 (by simp [Act.eval, Act.put]) (by simp [Act.eval, Act.put]) ?_)
          all_goals
            go_wp2
            go_simp
            go_roundw
            case rel => exact ⟨p + m, by omega, by omega, by go_num, HF2⟩
            case measure => simp [intOf]; omega
        · first
          | (exfalso; omega)
          | (have hm0 : (8192 : Int) < (p : Int) := by omega
             have hm9 : (8192 : Int) ≤ (x : Int) := by omega
             obtain ⟨w2, hr2, F2⟩ := Fills.copy (P := Try.prog) HF.out.drew 65 3 5 Try.underlying65 hinfo hlt ⟨w.heap.size, 0, none⟩ 8192 x (fun j hj => Hcell.out j (by omega)) p rfl (x - p) (x - p) rfl
             obtain ⟨m, hm1⟩ : ∃ m, m = min 8192 (x - p) := ⟨_, rfl⟩
             rw [← hm1] at hr2 F2
             have HF2 := hide F2
             have hm2 : p + m ≤ x ∧ 1 ≤ m := by omega
             have hsum : IntKind.i64.wrap ((p : Int) + (m : Int)) = (p : Int) + (m : Int) := IntWalk.i64_in _ (by omega)
             clear F2 hm1
             go_wp2
             go_region_law (refine step_copyrun rfl (.tmp 70) (.tmp 73) 65 65 rfl hr2 (by simp [Act.eval, Act.put]) (by simp [Act.eval, Act.put]) ?_)
             all_goals
               go_wp2
               go_simp
               go_roundw
               case rel => exact ⟨p + m, by omega, by omega, by go_num, HF2⟩
               case measure => simp [intOf]; omega)
      · obtain rfl : p = x := by omega
        go_wp2
        go_ret
        exact ⟨_, _, rfl, HF.out.lies _ (Nat.le_refl _), HF.out.below⟩
end
section
open Go.RowKit

theorem makeProg_any (A A2 : Option Addr) (n c n2 c2 : Nat) (w : World) : Calls Try.prog 53 #[.slice A n c, .slice A2 n2 c2] w fun e w' =>
    e = .returned (.func (.func 76) #[] #[.pointer (some ⟨w.heap.size, 0, none⟩), .pointer (some ⟨w.heap.size + 1, 0, none⟩)]) ∧ (w.alloc (.cells #[.slice A n c] 65)).alloc (.cells #[.slice A2 n2 c2] 65) = w' := by
  go_enter Try.func53, Try.ntmps53
  go_wp2
  go_ret
  exact ⟨rfl, rfl⟩
theorem makeErase_any (A : Option Addr) (n c : Nat) (w : World) : Calls Try.prog 48 #[.slice A n c] w fun e w' =>
    e = .returned (.func (.func 70) #[] #[.pointer (some ⟨w.heap.size, 0, none⟩)]) ∧ w.alloc (.cells #[.slice A n c] 65) = w' := by
  go_enter Try.func48, Try.ntmps48
  go_wp2
  go_ret
  exact ⟨rfl, rfl⟩

theorem infoU8 : (Try.prog.info? 5).map (·.size) = some 1 := by kernel_rfl

section
variable {w : World} {B0 B : Nat} {D : Dv} {k kb kp km : Nat}
/-- 256 bytes copied onto a page. -/
theorem copy_page (h : DevAt w B0 B D k kb kp km) (hB : B ≤ w.heap.size) (i : Nat) (hi : i < D.nb * D.np) (q : List UInt8) (hq : q.length = 256) (a : Addr) (m c : Nat) (hm : 256 ≤ m) (hc : ∀ j u, (bys q)[j]? = some u → w.cell? (a.add j) = some u) (ty : TypeId) :
    (Builtin.copy_ #[65, 65] ty #[.slice (some ⟨kp, i * 256, none⟩) 256 256, .slice (some a) m c]).run Try.prog w = .ok (.int .i64 256) (w.setCells kp (i * 256) (bys q)) ∧
      DevAt (w.setCells kp (i * 256) (bys q)) B0 B { D with pg := upd D.pg i q } k kb kp km ∧ Tch [k, kb, kp] w (w.setCells kp (i * 256) (bys q)) := by
  have hr := run_copy_cells (P := Try.prog) w 65 65 ty 5 kp (i * 256) 256 256 a m c (bys q) Try.underlying65 infoU8 (by rw [bys_len, hq]; exact (Nat.min_eq_right hm).symm) hc
    (fun j hj => by rw [bys_len, hq] at hj; rw [h.pages.cell (by omega)]; rfl) (fun j _ => h.pages.free _) (bys_one q)
  rw [bys_len, hq] at hr
  exact ⟨hr, h.set_page hB i q hq, (Tch.setCells (S := [k, kb, kp]) (by simp) _ _ _)⟩

set_option maxRecDepth 4000 in
theorem doProg_any (h : DevAt w B0 B D k kb kp km) (hB : B ≤ w.heap.size) (i : Nat) (hi : i < D.nb * D.np) (g1 g2 B2 : Nat) (A A2 : Option Addr) (c m c2 : Nat) (b l : List UInt8) (hB2 : B2 ≤ w.heap.size)
    (h1 : w.cell? ⟨g1, 0, none⟩ = some (.slice A 256 c)) (h2 : w.cell? ⟨g2, 0, none⟩ = some (.slice A2 m c2)) (hb : Lies w B2 A (bys b)) (hbl : b.length = 256) (hl : Lies w B2 A2 (bys l)) (hm : m = l.length) :
    Calls Try.prog 76 #[.slice (some ⟨kp, i * 256, none⟩) 256 256, .pointer (some ⟨g1, 0, none⟩), .pointer (some ⟨g2, 0, none⟩)] w fun e w' => e = .returned (.tuple #[]) ∧
      DevAt w' B0 B { D with pg := upd D.pg i (progL (D.pg i) b l) } k kb kp km ∧ Tch [k, kb, kp] w w' := by
  have hlen := h.plen i hi
  have Fp := hide (program_any (some ⟨kp, i * 256, none⟩) A A2 256 256 256 c m c2 w.heap.size (D.pg i) b l w ((h.page hi).up hB) hlen.symm (by decide) (hb.up hB2) hbl.symm (by decide) (hl.up hB2) hm (Nat.le_refl _))
  have hq : (progL (D.pg i) b l).length = 256 := by rw [progL_len]; exact hlen
  have Hc := hide (fun W (hb : Below w.heap.size w W) => copy_page (h.below (hb.mono hB)) (Nat.le_trans hB hb.size) i hi _ hq)
  clear h hb hl hbl hm hlen hi hB hB2
  generalize progL (D.pg i) b l = q at *
  have Hq := hide hq
  clear hq
  go_enter Try.func76, Try.ntmps76
  go_wp2_with fail
  (with_reducible refine Fp.out.mono ?_)
  rintro e w3 ⟨A', c', rfl, ho, hb⟩
  obtain ⟨g, rfl, hg⟩ := own_addr ho (by decide)
  obtain ⟨hr, hd, ht⟩ := Hc.out w3 hb ⟨g, 0, none⟩ 256 c' (Nat.le_refl _) (ho.cells rfl) 3
  have Hd := hide hd
  have Ht := hide ((Tch.of_below hb).trans ht)
  clear hd ht ho hb Hc Fp
  go_wp2_with (at_builtin; refine wpl_copy _ rfl _ _ 65 65 rfl _ _ rfl rfl hr ?_)
  clear hr
  go_end0
  exact ⟨rfl, Hd.out, Ht.out⟩

set_option maxRecDepth 4000 in
theorem doErase_any (h : DevAt w B0 B D k kb kp km) (hB : B ≤ w.heap.size) (i : Nat) (hi : i < D.nb * D.np) (g2 B2 : Nat) (A2 : Option Addr) (m c2 : Nat) (l : List UInt8) (hB2 : B2 ≤ w.heap.size)
    (h2 : w.cell? ⟨g2, 0, none⟩ = some (.slice A2 m c2)) (hl : Lies w B2 A2 (bys l)) (hm : m = l.length) :
    Calls Try.prog 70 #[.slice (some ⟨kp, i * 256, none⟩) 256 256, .pointer (some ⟨g2, 0, none⟩)] w fun e w' => e = .returned (.tuple #[]) ∧
      DevAt w' B0 B { D with pg := upd D.pg i (erasL (D.pg i) l) } k kb kp km ∧ Tch [k, kb, kp] w w' := by
  have hlen := h.plen i hi
  have Fp := hide (erase_any (some ⟨kp, i * 256, none⟩) A2 256 256 m c2 w.heap.size (D.pg i) l w ((h.page hi).up hB) hlen.symm (by decide) (hl.up hB2) hm (Nat.le_refl _))
  have hq : (erasL (D.pg i) l).length = 256 := by rw [erasL_len]; exact hlen
  have Hc := hide (fun W (hb : Below w.heap.size w W) => copy_page (h.below (hb.mono hB)) (Nat.le_trans hB hb.size) i hi _ hq)
  clear h hl hm hlen hi hB hB2
  generalize erasL (D.pg i) l = q at *
  have Hq := hide hq
  clear hq
  go_enter Try.func70, Try.ntmps70
  go_wp2_with fail
  (with_reducible refine Fp.out.mono ?_)
  rintro e w3 ⟨A', c', rfl, ho, hb⟩
  obtain ⟨g, rfl, hg⟩ := own_addr ho (by decide)
  obtain ⟨hr, hd, ht⟩ := Hc.out w3 hb ⟨g, 0, none⟩ 256 c' (Nat.le_refl _) (ho.cells rfl) 3
  have Hd := hide hd
  have Ht := hide ((Tch.of_below hb).trans ht)
  clear hd ht ho hb Hc Fp
  go_wp2_with (at_builtin; refine wpl_copy _ rfl _ _ 65 65 rfl _ _ rfl rfl hr ?_)
  clear hr
  go_end0
  exact ⟨rfl, Hd.out, Ht.out⟩
end
end
section
open Go.RowKit

/-- Ones: as many bytes 255 as the number says, at least none, at most 2^20. -/
theorem ones_any (z : Int) (w : World) : Calls Try.prog 45 #[.int .i64 z] w fun e w' => ∃ A' c', e = .returned (.slice A' (min (max z 0) 1048576).toNat c') ∧
    Lies w' w'.heap.size A' (bys (List.replicate (min (max z 0) 1048576).toNat 255)) ∧ Below w.heap.size w w' := by
  obtain ⟨x, hx⟩ : ∃ x, x = (min (max z 0) 1048576).toNat := ⟨_, rfl⟩
  rw [← hx]
  have hw : ∀ (k : Nat) (q : Int) (c : Nat) (W : World), q = (k : Int) → k ≤ 1048576 → Calls Try.prog 68 #[.slice (some ⟨W.heap.size, 0, none⟩) 1 c, .int .i64 q] (W.alloc (.cells #[.int .u8 255] 5)) fun e w' => ∃ A' c', e = .returned (.slice A' k c') ∧ Lies w' w'.heap.size A' (bys (List.replicate k 255)) ∧ Below W.heap.size W w' := by
    rintro k q c W rfl hk
    by_cases h0 : k = 0
    · subst h0
      refine (repeat_0 _ _ _ _).mono ?_
      rintro e w1 ⟨A', c', rfl, hl, hb⟩
      exact ⟨A', c', rfl, hl, ((Below.refl _ W).alloc (Nat.le_refl _) _).trans (hb.mono (by simp))⟩
    · refine (repeat_any _ _ k _ (by simp) (by omega) hk).mono ?_
      rintro e w1 ⟨A', c', rfl, hl, hb⟩
      exact ⟨A', c', rfl, hl, ((Below.refl _ W).alloc (Nat.le_refl _) _).trans (hb.mono (by simp))⟩
  have Hw := hide hw
  clear hw
  rcases (by omega : z < 0 ∧ x = 0 ∨ 0 ≤ z ∧ z ≤ 1048576 ∧ (x : Int) = z ∨ 1048576 < z ∧ x = 1048576) with ⟨h, rfl⟩ | ⟨h, h', h2⟩ | ⟨h, rfl⟩
  · clear hx
    go_enter Try.func45, Try.ntmps45
    go_wp2_with fail
    (with_reducible refine (Hw.out 0 0 _ _ rfl (by omega)).mono ?_)
    rintro e w1 ⟨A', c', rfl, hl, hb⟩
    have Hl := hide hl
    have Hb := hide hb
    clear hl hb
    go_wp2
    go_ret
    exact ⟨A', c', rfl, Hl.out, Hb.out⟩
  · clear hx
    subst h2
    go_enter Try.func45, Try.ntmps45
    go_wp2_with fail
    (with_reducible refine (Hw.out x _ _ _ rfl (by omega)).mono ?_)
    rintro e w1 ⟨A', c', rfl, hl, hb⟩
    have Hl := hide hl
    have Hb := hide hb
    clear hl hb
    go_wp2
    go_ret
    exact ⟨A', c', rfl, Hl.out, Hb.out⟩
  · clear hx
    go_enter Try.func45, Try.ntmps45
    go_wp2_with fail
    (with_reducible refine (Hw.out 1048576 1048576 _ _ rfl (by omega)).mono ?_)
    rintro e w1 ⟨A', c', rfl, hl, hb⟩
    have Hl := hide hl
    have Hb := hide hb
    clear hl hb
    go_wp2
    go_ret
    exact ⟨A', c', rfl, Hl.out, Hb.out⟩
end
end Go.Proofs.Ytahipfmokbiklaa
