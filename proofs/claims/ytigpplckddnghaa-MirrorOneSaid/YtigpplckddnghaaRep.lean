/-
  CONTRACTS of bytes.Repeat of the one byte 255, .
-/
import Derived.Test.YtigpplckddnghaaPrgm
import Derived.Lib.MakeNoZero
import Derived.Laws.IdiomCopy
import Derived.Laws.Slices
import Derived.Deep.Draws
namespace Go.Proofs.Ytigpplckddnghaa
open Go.RowKit

theorem mul_one (x : Nat) (w : World) (h1 : x ≤ 1048576) : Calls Try.prog 45 #[.int .u64 1, .int .u64 (x : Int)] w fun e w' => e = .returned (.tuple #[.int .u64 0, .int .u64 (x : Int)]) ∧ w = w' := by
  have b1 : bits .and .u64 1 4294967295 = 1 := by decide
  have b0 : bits .and .u64 0 4294967295 = 0 := by decide
  have b2 : bits .and .u64 (x : Int) 4294967295 = (x : Int) := by
    rw [show (4294967295 : Int) = ((4294967295 : Nat) : Int) from rfl, u64_and_nat x _ (by omega) (by omega), nat_mask32, Nat.mod_eq_of_lt (by omega)]
  have b3 : (x : Int) / 4294967296 = 0 := by omega
  have b4 : IntKind.u64.wrap (x : Int) = (x : Int) := IntWalk.u64_in _ (by omega)
  have b5 : IntKind.u64.wrap 0 = 0 := by decide
  go_enter Try.func45, Try.ntmps45
  go_wp2
  go_ret2
  exact ⟨rfl, rfl⟩

theorem repeat_0 (A : Option Addr) (n c : Nat) (w : World) : Calls Try.prog 32 #[.slice A n c, .int .i64 0] w fun e w' => ∃ A' c', e = .returned (.slice A' 0 c') ∧ Lies w' w'.heap.size A' [] ∧ Below w.heap.size w w' := by
  go_enter Try.func32, Try.ntmps32
  go_wp2
  go_ret
  exact ⟨_, _, rfl, Lies.nil, (Below.refl _ w).alloc (Nat.le_refl _) _⟩

/-- A buffer of the call's own at block h, of which the first p bytes are 255. -/
structure Fills (w0 wr : World) (h x p : Nat) : Prop where
  below : Below h w0 wr
  size : h < wr.heap.size
  there : ∀ j, j < x → (wr.cell? ⟨h, j, none⟩).isSome = true
  free : ∀ j, j < x → wr.frozen? ⟨h, j, none⟩ = false
  holds : ∀ j, j < p → wr.cell? ⟨h, j, none⟩ = some (.int .u8 255)

theorem Fills.drew {w0 wr : World} {h x p : Nat} (f : Fills w0 wr h x p) : Fills w0 wr.drew h x p := ⟨f.below.drew, f.size, f.there, f.free, f.holds⟩
theorem below_cells {B : Nat} {a : World} (b : Nat) (hb : B ≤ b) : ∀ (vs : List Value) (o : Nat) {w : World}, Below B a w → Below B a (w.setCells b o vs) ∧ (w.setCells b o vs).heap.size = w.heap.size
  | [], _, _, h => ⟨h, rfl⟩
  | v :: r, o, w, h => by
    have := below_cells b hb r (o + 1) (h.setCell (p := ⟨b, o, none⟩) hb v)
    exact ⟨this.1, this.2.trans (by simp)⟩
theorem Fills.start (w : World) (cs : Array Value) (e : TypeId) (x : Nat) (hx : x ≤ cs.size) : Fills w ((w.alloc (.cells cs e)).drewN 2) w.heap.size x 0 where
  below := bel_drewN ((Below.refl _ w).alloc (Nat.le_refl _) _) 2
  size := by simp
  there := fun j hj => by
    rw [World.cell?_drewN, World.cell?_alloc_mark, Array.getElem?_eq_getElem (by omega)]
    rfl
  free := fun j _ => by
    rw [World.frozen?_drewN]
    have := World.frozen?_alloc_mark w cs e 0 0 j
    rw [this]
    simp
  holds := fun j hj => by omega

section
variable {P : Program}
/-- copy of k bytes 255 behind the first p. -/
theorem Fills.copy {w0 wr : World} {h x p : Nat} (f : Fills w0 wr h x p) (t ty e : TypeId) (hu : P.underlying t = some (.slice e)) (hs : (P.info? e).map (·.size) = some 1) (hp : p < x) (a : Addr) (m c : Nat)
    (hm : ∀ j, j < m → wr.cell? (a.add j) = some (.int .u8 255)) (o : Nat) (ho : p = o) (dl dc : Nat) (hdl : x - p = dl) :
    ∃ w', (Builtin.copy_ #[t, t] ty #[.slice (some ⟨h, o, none⟩) dl dc, .slice (some a) m c]).run P wr = .ok (.int .i64 ((min m (x - p) : Nat) : Int)) w' ∧ Fills w0 w' h x (p + min m (x - p)) := by
  subst ho hdl
  have hr := run_copy_cells (P := P) wr t t ty e h p (x - p) dc a m c (List.replicate (min m (x - p)) (.int .u8 255)) hu hs (by simp)
    (fun j u hj => by
      rw [List.getElem?_replicate] at hj
      split at hj
      · injection hj with hj
        rw [← hj]
        exact hm j (by omega)
      · cases hj)
    (fun j hj => by rw [List.length_replicate] at hj; exact f.there _ (by omega)) (fun j hj => by rw [List.length_replicate] at hj; exact f.free _ (by omega))
    (fun u hu' => by rw [List.eq_of_mem_replicate hu']; rfl)
  rw [List.length_replicate] at hr
  have hin := World.cell?_setCells_in h (List.replicate (min m (x - p)) (Value.int .u8 255)) p wr (fun j hj => by rw [List.length_replicate] at hj; exact f.there _ (by omega))
  have hout := World.cell?_setCells_out h (List.replicate (min m (x - p)) (Value.int .u8 255)) p wr
  have hbel := below_cells h (Nat.le_refl _) (List.replicate (min m (x - p)) (Value.int .u8 255)) p f.below
  refine ⟨_, hr, hbel.1, by rw [hbel.2]; exact f.size, ?_, fun j hj => by rw [World.frozen?_setCells]; exact f.free j hj, ?_⟩
  · intro j hj
    by_cases h1 : p ≤ j ∧ j < p + min m (x - p)
    · obtain ⟨d, rfl⟩ : ∃ d, j = p + d := ⟨j - p, by omega⟩
      rw [hin d (by rw [List.length_replicate]; omega)]
      rfl
    · rw [hout ⟨h, j, none⟩ (fun _ _ => by rw [List.length_replicate]; show j < _ ∨ _ ≤ j; omega)]
      exact f.there j hj
  · intro j hj
    by_cases h1 : j < p
    · rw [hout ⟨h, j, none⟩ (fun _ _ => Or.inl h1)]
      exact f.holds j h1
    · obtain ⟨d, rfl⟩ : ∃ d, j = p + d := ⟨j - p, by omega⟩
      rw [hin d (by rw [List.length_replicate]; omega)]
      simp
theorem wpl_copy (w : World) {ops : Array Oper} {rest : List Oper} {o : Oper} {a : Act} {Q : Exit → Act → World → Prop} (hgd : o.guard = none) (d s : Operand) (t t' : TypeId)
    (ho : o.op = .call { callee := .builtin .copy, args := #[d, s], argTypes := #[t, t'] }) (v u : Value) (hd : a.eval d = v) (hs : a.eval s = u) {v' : Value} {w' : World}
    (hr : (Builtin.copy_ #[t, t'] o.type #[v, u]).run P w = .ok v' w') (h : wpList P ops Q rest (a.put o.dst v') w') : wpList P ops Q (o :: rest) a w :=
  wpList_plain hgd fun _ hK => by
    unfold Oper.wp execOp
    simp only [ho, resolve, invoke, builtin, Sem.run_bind, Sem.run_pure, Result.andThen_ok, List.map_toArray, List.map_cons, List.map_nil, hd, hs, hr]
    exact hK _ _ h
theorem step_copyrun {w : World} {ops : Array Oper} {o : Oper} {a : Act} {K : Act → World → Prop} {Q : Exit → Act → World → Prop} {F : Prop} (hgd : o.guard = none) (d s : Operand) (t t' : TypeId)
    (ho : o.op = .call { callee := .builtin .copy, args := #[d, s], argTypes := #[t, t'] }) {v u v' : Value} {w' : World} (hr : (Builtin.copy_ #[t, t'] o.type #[v, u]).run P w = .ok v' w') (hd : a.eval d = v) (hs : a.eval s = u)
    (h : K (a.put o.dst v') w') : if Region.wanted o (yielded ops a.tmps) = true then Oper.wp P o a w K Q else F := by
  have hw : Region.wanted o (yielded ops a.tmps) = true := by simp [Region.wanted, hgd]
  rw [if_pos hw]
  unfold Oper.wp execOp
  simp only [ho, resolve, invoke, builtin, Sem.run_bind, Sem.run_pure, Result.andThen_ok, List.map_toArray, List.map_cons, List.map_nil, hd, hs, hr]
  exact h
end

theorem Fills.lies {w0 wr : World} {h x p : Nat} (f : Fills w0 wr h x p) (n : Nat) (hn : n ≤ p) : Lies wr wr.heap.size (some ⟨h, 0, none⟩) (bys (List.replicate n 255)) :=
  .inr ⟨_, rfl, f.size, fun j u hu => by
    have hj : j < n := by
      have := (List.getElem?_eq_some_iff.1 hu).1
      rwa [bys_len, List.length_replicate] at this
    have e : (⟨h, 0, none⟩ : Addr).add j = ⟨h, j, none⟩ := by unfold Addr.add; split <;> simp_all
    rw [e, f.holds j (by omega), ← hu]
    simp [bys, hj]⟩

set_option maxRecDepth 4000 in
set_option maxHeartbeats 2000000 in
theorem repeat_any (a : Addr) (c x : Nat) (w : World) (hc : w.cell? a = some (.int .u8 255)) (h1 : 1 ≤ x) (h2 : x ≤ 1048576) :
    Calls Try.prog 32 #[.slice (some a) 1 c, .int .i64 (x : Int)] w fun e w' => ∃ A' c', e = .returned (.slice A' x c') ∧ Lies w' w'.heap.size A' (bys (List.replicate x 255)) ∧ Below w.heap.size w w' := by
  have hx0 : ((x : Int) == 0) = false := by rw [beq_eq_false_iff_ne]; omega
  have hx1 : ¬ (x : Int) < 0 := by omega
  have b4 : IntKind.u64.wrap (x : Int) = (x : Int) := IntWalk.u64_in _ (by omega)
  have b6 : ¬ (9223372036854775807 : Int) < (x : Int) := by omega
  have hinfo : (Try.prog.info? 5).map (·.size) = some 1 := by kernel_rfl
  obtain ⟨cs, hrunM, hle, _⟩ := Lib.run_makeNoZero (P := Try.prog) w #[3] 46 5 Try.underlying46 x (by omega)
  have hcall : (callFunc 46 #[.int .i64 (x : Int)]).run Try.prog w = .ok (.value (.slice (some ⟨w.heap.size, 0, none⟩) x cs.size)) ((w.alloc (.cells cs 5)).drewN 2) := by
    rw [run_callFunc_extern Try.func46 (by kernel_rfl) (by kernel_rfl) (by kernel_rfl) (e := Extern.BytealgMakeNoZero.makeNoZero #[3] #[46]) (by kernel_rfl), hrunM]
    rfl
  clear hrunM
  have F0 := Fills.start w cs 5 x hle
  obtain ⟨w1, hr1, F1⟩ := Fills.copy (P := Try.prog) F0 46 3 5 Try.underlying46 hinfo (by omega) a 1 c (fun j hj => by
    obtain rfl : j = 0 := by omega
    have e : a.add 0 = a := by unfold Addr.add; simp
    rw [e, F0.below.cell (World.block_lt_of_cell? w a hc)]
    exact hc) 0 rfl x x rfl
  rw [show min 1 (x - 0) = 1 by omega] at hr1 F1
  have HF1 := hide F1
  clear F0 F1
  have i1 : (x : Int) ≤ (cs.size : Int) := by omega
  by_cases hbig : (8192 : Int) < (x : Int)
  all_goals
    go_enter Try.func32, Try.ntmps32
    go_wp2_with fail
    refine (mul_one x _ h2).mono ?_
    rintro e w2 ⟨rfl, rfl⟩
    go_wp2_with (at_builtin; refine wpl_copy _ rfl _ _ 46 46 rfl _ _ rfl rfl hr1 ?_)
    clear hr1 hcall
    go_loopw [10] (fun q wr => ∃ p : Nat, 1 ≤ p ∧ p ≤ x ∧ q = .int .i64 (p : Int) ∧ Hid (Fills w wr w.heap.size x p)) (fun q _ => x - (intOf q).toNat)
    case atStart => exact ⟨1, Nat.le_refl _, h1, rfl, HF1⟩
    case round =>
      obtain ⟨p, hp1, hpx, rfl, HF⟩ := hrel
      by_cases hlt : p < x
      · have h3 : (p : Int) < (x : Int) := by omega
        have hne : ¬ x = p := by omega
        have hcell : ∀ j, j < p → wr.drew.cell? ((⟨w.heap.size, 0, none⟩ : Addr).add j) = some (.int .u8 255) := fun j hj => by
          have e : (⟨w.heap.size, 0, none⟩ : Addr).add j = ⟨w.heap.size, j, none⟩ := by unfold Addr.add; split <;> simp_all
          rw [e]
          exact HF.out.drew.holds j (by omega)
        have Hcell := hide hcell
        clear hcell
        by_cases hm : p ≤ 8192
        · have hm0 : ¬ (8192 : Int) < (p : Int) := by omega
          obtain ⟨w2, hr2, F2⟩ := Fills.copy (P := Try.prog) HF.out.drew 46 3 5 Try.underlying46 hinfo hlt ⟨w.heap.size, 0, none⟩ p x Hcell.out p rfl (x - p) (x - p) rfl
          obtain ⟨m, hm1⟩ : ∃ m, m = min p (x - p) := ⟨_, rfl⟩
          rw [← hm1] at hr2 F2
          have HF2 := hide F2
          have hm2 : p + m ≤ x ∧ 1 ≤ m := by omega
          have hsum : IntKind.i64.wrap ((p : Int) + (m : Int)) = (p : Int) + (m : Int) := IntWalk.i64_in _ (by omega)
          clear F2 hm1
          go_wp2
          go_region_law (refine step_copyrun rfl (.tmp 70) (.tmp 73) 46 46 rfl hr2 (by simp [Act.eval, Act.put]) (by simp [Act.eval, Act.put]) ?_)
          all_goals
            go_wp2
            go_simp
            go_roundw
            case rel => exact ⟨p + m, by omega, by omega, by go_num, HF2⟩
            case measure => simp [intOf]; omega
        · first
          | (exfalso; omega)
          | (have hm0 : (8192 : Int) < (p : Int) := by omega
             have hm9 : (8192 : Int) ≤ (x : Int) := by omega
             obtain ⟨w2, hr2, F2⟩ := Fills.copy (P := Try.prog) HF.out.drew 46 3 5 Try.underlying46 hinfo hlt ⟨w.heap.size, 0, none⟩ 8192 x (fun j hj => Hcell.out j (by omega)) p rfl (x - p) (x - p) rfl
             obtain ⟨m, hm1⟩ : ∃ m, m = min 8192 (x - p) := ⟨_, rfl⟩
             rw [← hm1] at hr2 F2
             have HF2 := hide F2
             have hm2 : p + m ≤ x ∧ 1 ≤ m := by omega
             have hsum : IntKind.i64.wrap ((p : Int) + (m : Int)) = (p : Int) + (m : Int) := IntWalk.i64_in _ (by omega)
             clear F2 hm1
             go_wp2
             go_region_law (refine step_copyrun rfl (.tmp 70) (.tmp 73) 46 46 rfl hr2 (by simp [Act.eval, Act.put]) (by simp [Act.eval, Act.put]) ?_)
             all_goals
               go_wp2
               go_simp
               go_roundw
               case rel => exact ⟨p + m, by omega, by omega, by go_num, HF2⟩
               case measure => simp [intOf]; omega)
      · obtain rfl : p = x := by omega
        go_wp2
        go_ret
        exact ⟨_, _, rfl, HF.out.lies _ (Nat.le_refl _), HF.out.below⟩

end Go.Proofs.Ytigpplckddnghaa
