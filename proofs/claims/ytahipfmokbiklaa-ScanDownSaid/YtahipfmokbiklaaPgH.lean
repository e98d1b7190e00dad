/-
  CONTRACTS of the reference's Get and Class. (By gen/PgH.gen.py.)
-/
import Derived.Test.YtahipfmokbiklaaPgQ
import Derived.Test.YtahipfmokbiklaaPgF
import Derived.Test.YtahipfmokbiklaaPgG
import Derived.Test.YtahipfmokbiklaaBig
import Derived.Laws.Strings2
namespace Go.Proofs.Ytahipfmokbiklaa
open Go.RowKit
set_option maxRecDepth 8000

/-- What the reference's Get answers. -/
def get15 (b : List UInt8) : Hd × List UInt8 := if rightB b = true then (headOf b, dataOf b) else (zeroHd, [])
theorem str_beqH (a b : List UInt8) : ((str a).toList == (str b).toList) = decide (a = b) := by
  rw [str_toList, str_toList]
  by_cases he : a = b
  · rw [decide_eq_true he, he]; exact beq_self_eq_true _
  · rw [decide_eq_false he]; exact beq_eq_false_iff_ne.2 he
theorem g_nums (n : Nat) (h : (n : Int) ≤ 228) : n ≤ 228 ∧ ∃ m : Nat, m = 24 + n ∧ wrap64 (24 + (n : Int)) = (m : Int) ∧ IntKind.i64.wrap (24 + (n : Int)) = (m : Int) ∧ m ≤ 256 := by
  refine ⟨by omega, 24 + n, rfl, by unfold wrap64; omega, ?_, by omega⟩
  rw [show 24 + (n : Int) = ((24 + n : Nat) : Int) by omega]
  exact IntWalk.i64_in _ (by omega)
theorem slice_str (b : List UInt8) (m n : Nat) (hm : m = 24 + n) (hb : m ≤ b.length) (W : World) : (Instr.slice 9 (.string (str b)) (some (.int .i64 24)) (some (.int .i64 (m : Int))) none).run Try.prog W = .ok (.string (str ((b.drop 24).take n))) W := by
  have h1 := run_slice_string W 9 (str b) .i64 .i64 24 (m : Int) Try.underlying9 (by omega) (by omega) (by rw [str_size]; omega)
  rw [h1]
  have e : (str b).extract (24 : Int).toNat (m : Int).toNat = str ((b.drop 24).take n) := by
    show (ByteArray.mk b.toArray).extract 24 m = _
    rw [ByteArray.extract_mk, show m - 24 = n by omega]
    rfl
  rw [e]
theorem numAt_byte (b : List UInt8) (j : Nat) : numAt b (j : Int) 1 = (b.getD j 0).toNat := by
  simp [numAt, byteAt]
theorem byte_cell {W : World} {g : Nat} {b : List UInt8} (h : Lies W W.heap.size (some ⟨g, 0, none⟩) (bys b)) (j : Nat) (hj : j < b.length) : W.cell? ⟨g, j, none⟩ = some (.int .u8 ((numAt b (j : Int) 1 : Nat) : Int)) := by
  obtain ⟨a, ha, _, hc⟩ := h.byte hj
  injection ha with ha
  subst ha
  rw [at0] at hc
  rw [hc, numAt_byte]
theorem num_at (A : Option Addr) (c B : Nat) (b : List UInt8) (p k : Nat) (W : World) (h : Lies W B A (bys b)) (hb : b.length = 256) (hp : p ≤ 256) (hk : k ≤ 8) :
    Calls Try.prog 38 #[.slice A 256 c, .int .i64 (p : Int), .int .i64 (k : Int)] W fun e w' => e = .returned (.int .u64 (numAt b (p : Int) k : Nat)) ∧ W = w' := by
  have := number_any A 256 c B b (p : Int) (k : Int) W h hb.symm (by omega) (by omega) (by omega)
  rw [if_pos ⟨by omega, by omega⟩, show (min (k : Int) 8).toNat = k by omega] at this
  exact this
theorem setRow_belowP {B : Nat} {w W : World} (h : Below B w W) {g : Nat} (hg : B ≤ g) (cs : Array Value) : Below B w (W.setRow g cs) :=
  h.trans ⟨rfl, rfl, rfl, by simp [World.setRow], fun k hk => setRow_other _ _ _ _ (by omega)⟩
def PhiG (w5 : World) (K I C bt op P n : Nat) (i : Nat) (f : Nat → Value) (W : World) : Prop :=
  (i = 0 ∧ Below w5.heap.size w5 W) ∨ (i = 1 ∧ ∃ k, f 6 = .pointer (some ⟨k, 0, none⟩) ∧ w5.heap.size ≤ k ∧ Below w5.heap.size w5 W ∧ BoxH zeroHd k W) ∨ (2 ≤ i ∧ ∃ k, f 6 = .pointer (some ⟨k, 0, none⟩) ∧ w5.heap.size ≤ k ∧ Below w5.heap.size w5 W ∧ BoxH ⟨K, I, C, bt, op, P, n⟩ k W)
theorem PhiG.loc (w5 : World) (K I C bt op P n : Nat) : ∀ i f g W, (∀ t ∈ [6], f t = g t) → PhiG w5 K I C bt op P n i f W → PhiG w5 K I C bt op P n i g W := by
  intro i f g W h hΦ
  have h6 := h 6 (by simp)
  unfold PhiG at *
  rw [← h6]
  exact hΦ
theorem PhiG.below {w5 W : World} {K I C bt op P n i : Nat} {f : Nat → Value} (h : PhiG w5 K I C bt op P n i f W) : Below w5.heap.size w5 W := by
  rcases h with ⟨_, h⟩ | ⟨_, _, _, _, h, _⟩ | ⟨_, _, _, _, h, _⟩ <;> exact h
theorem PhiG.at1 {w5 W : World} {K I C bt op P n : Nat} {f : Nat → Value} (h : PhiG w5 K I C bt op P n 1 f W) : ∃ k, f 6 = .pointer (some ⟨k, 0, none⟩) ∧ w5.heap.size ≤ k ∧ Below w5.heap.size w5 W ∧ BoxH zeroHd k W := by
  rcases h with ⟨h, _⟩ | ⟨_, h⟩ | ⟨h, _⟩
  · cases h
  · exact h
  · omega
theorem PhiG.at2 {w5 W : World} {K I C bt op P n : Nat} {f : Nat → Value} (h : PhiG w5 K I C bt op P n 2 f W) : ∃ k, f 6 = .pointer (some ⟨k, 0, none⟩) ∧ w5.heap.size ≤ k ∧ Below w5.heap.size w5 W ∧ BoxH ⟨K, I, C, bt, op, P, n⟩ k W := by
  rcases h with ⟨h, _⟩ | ⟨h, _⟩ | ⟨_, h⟩
  · cases h
  · cases h
  · exact h

set_option maxRecDepth 8000 in
set_option maxHeartbeats 8000000 in
theorem get15_any (b : List UInt8) (w : World) (hsm : b.length ≤ 1000000) : Calls Try.prog 12 #[.string (str b)] w fun e w' => e = .returned (.tuple #[(get15 b).1.val, .string (str (get15 b).2), .bool (rightB b)]) ∧ Below w.heap.size w w' := by
  have hb1 := (Below.refl w.heap.size w).alloc (Nat.le_refl _) (.cells #[.int .i64 0, .int .i64 0, .int .i64 0, .int .u64 0, .int .u64 0, .int .i64 0, .int .i64 0] 42)
  have hx1 : BoxH zeroHd w.heap.size (w.alloc (.cells #[.int .i64 0, .int .i64 0, .int .i64 0, .int .u64 0, .int .u64 0, .int .i64 0, .int .i64 0] 42)) := heap_alloc_new w _
  have hsz := str_size b
  have HX := hide hx1
  have HB := hide hb1
  clear hx1 hb1
  by_cases h256 : b.length = 256
  · obtain ⟨cb, w5, hcv, hcap, hb5, hl5⟩ := strBytesP (w.alloc (.cells #[.int .i64 0, .int .i64 0, .int .i64 0, .int .u64 0, .int .u64 0, .int .i64 0, .int .i64 0] 42)) b
    rw [h256] at hcv hcap hsz
    have HL5 := hide hl5
    have HB5 := hide (HB.out.trans (hb5.mono HB.out.size))
    have HX5 := hide (HX.out.below hb5 HX.out.lt)
    have Hlen := hide h256
    obtain ⟨K, eK⟩ : ∃ x, Hid (x = numAt b ((0 : Nat) : Int) 1) := ⟨_, hide rfl⟩
    obtain ⟨I, eI⟩ : ∃ x, Hid (x = numAt b ((1 : Nat) : Int) 1) := ⟨_, hide rfl⟩
    obtain ⟨C, eC⟩ : ∃ x, Hid (x = numAt b ((2 : Nat) : Int) 1) := ⟨_, hide rfl⟩
    obtain ⟨bt, ebt⟩ : ∃ x, Hid (x = numAt b ((4 : Nat) : Int) 8) := ⟨_, hide rfl⟩
    obtain ⟨op, eop⟩ : ∃ x, Hid (x = numAt b ((12 : Nat) : Int) 8) := ⟨_, hide rfl⟩
    obtain ⟨P, eP⟩ : ∃ x, Hid (x = numAt b ((20 : Nat) : Int) 2) := ⟨_, hide rfl⟩
    obtain ⟨n, en⟩ : ∃ x, Hid (x = numAt b ((22 : Nat) : Int) 2) := ⟨_, hide rfl⟩
    have hK : K < 256 := by rw [eK.out]; exact numAt_lt b _ 1
    have hI : I < 256 := by rw [eI.out]; exact numAt_lt b _ 1
    have hC : C < 256 := by rw [eC.out]; exact numAt_lt b _ 1
    have hP : P < 65536 := by rw [eP.out]; exact numAt_lt b _ 2
    have hn : n < 65536 := by rw [en.out]; exact numAt_lt b _ 2
    have x1 : IntKind.i64.wrap (K : Int) = (K : Int) := IntWalk.i64_in _ (by omega)
    have x2 : IntKind.i64.wrap (I : Int) = (I : Int) := IntWalk.i64_in _ (by omega)
    have x3 : IntKind.i64.wrap (C : Int) = (C : Int) := IntWalk.i64_in _ (by omega)
    have x4 : IntKind.i64.wrap (P : Int) = (P : Int) := IntWalk.i64_in _ (by omega)
    have x5 : IntKind.i64.wrap (n : Int) = (n : Int) := IntWalk.i64_in _ (by omega)
    have F1 : Hid (∀ W, Below w5.heap.size w5 W → Calls Try.prog 38 #[.slice (some ⟨(w.alloc (.cells #[.int .i64 0, .int .i64 0, .int .i64 0, .int .u64 0, .int .u64 0, .int .i64 0, .int .i64 0] 42)).heap.size, 0, none⟩) 256 cb, .int .i64 4, .int .i64 8] W fun e w' => e = .returned (.int .u64 (bt : Int)) ∧ W = w') := hide (fun W hW => by rw [ebt.out]; exact num_at _ cb w5.heap.size b 4 8 W (HL5.out.below hW) Hlen.out (by omega) (by omega))
    have F2 : Hid (∀ W, Below w5.heap.size w5 W → Calls Try.prog 38 #[.slice (some ⟨(w.alloc (.cells #[.int .i64 0, .int .i64 0, .int .i64 0, .int .u64 0, .int .u64 0, .int .i64 0, .int .i64 0] 42)).heap.size, 0, none⟩) 256 cb, .int .i64 12, .int .i64 8] W fun e w' => e = .returned (.int .u64 (op : Int)) ∧ W = w') := hide (fun W hW => by rw [eop.out]; exact num_at _ cb w5.heap.size b 12 8 W (HL5.out.below hW) Hlen.out (by omega) (by omega))
    have F3 : Hid (∀ W, Below w5.heap.size w5 W → Calls Try.prog 38 #[.slice (some ⟨(w.alloc (.cells #[.int .i64 0, .int .i64 0, .int .i64 0, .int .u64 0, .int .u64 0, .int .i64 0, .int .i64 0] 42)).heap.size, 0, none⟩) 256 cb, .int .i64 20, .int .i64 2] W fun e w' => e = .returned (.int .u64 (P : Int)) ∧ W = w') := hide (fun W hW => by rw [eP.out]; exact num_at _ cb w5.heap.size b 20 2 W (HL5.out.below hW) Hlen.out (by omega) (by omega))
    have F4 : Hid (∀ W, Below w5.heap.size w5 W → Calls Try.prog 38 #[.slice (some ⟨(w.alloc (.cells #[.int .i64 0, .int .i64 0, .int .i64 0, .int .u64 0, .int .u64 0, .int .i64 0, .int .i64 0] 42)).heap.size, 0, none⟩) 256 cb, .int .i64 22, .int .i64 2] W fun e w' => e = .returned (.int .u64 (n : Int)) ∧ W = w') := hide (fun W hW => by rw [en.out]; exact num_at _ cb w5.heap.size b 22 2 W (HL5.out.below hW) Hlen.out (by omega) (by omega))
    have k0 := byte_cell hl5 0 (by omega)
    have k1 := byte_cell hl5 1 (by omega)
    have k2 := byte_cell hl5 2 (by omega)
    rw [← eK.out] at k0
    rw [← eI.out] at k1
    rw [← eC.out] at k2
    have Hh : Hid (headOf b = ⟨K, I, C, bt, op, P, n⟩) := hide (by rw [eK.out, eI.out, eC.out, ebt.out, eop.out, eP.out, en.out]; rfl)
    have hlt : (w.alloc (.cells #[.int .i64 0, .int .i64 0, .int .i64 0, .int .u64 0, .int .u64 0, .int .i64 0, .int .i64 0] 42)).heap.size < w5.heap.size := World.block_lt_of_cell? w5 _ k0
    have hgb : (w.alloc (.cells #[.int .i64 0, .int .i64 0, .int .i64 0, .int .u64 0, .int .u64 0, .int .i64 0, .int .i64 0] 42)).heap.size = w.heap.size + 1 := by simp
    have Hgl := hide hlt
    rw [hgb] at hcv HL5 F1 F2 F3 F4 k0 k1 k2 Hgl
    have Hn := hide hn
    clear hb5 hl5 hcap h256 hK hI hC hP hn eK eI eC ebt eop eP en hlt hgb
    go_enter Try.func12, Try.ntmps12
    go_upto_region 4 with fail
    generalize w.heap.size + 1 = gb at *
    refine Big.wp_region_big (by kernel_rfl) (fun d v => match d with | 14 => v = .slice (some ⟨gb, 0, none⟩) 256 cb | 15 => v = .pointer (some ⟨gb, 0, none⟩) | 16 => v = .int .u8 (K : Int) | 17 => v = .int .i64 (K : Int) | 18 => v = .slice (some ⟨gb, 0, none⟩) 256 cb | 19 => v = .pointer (some ⟨gb, 1, none⟩) | 20 => v = .int .u8 (I : Int) | 21 => v = .int .i64 (I : Int) | 22 => v = .slice (some ⟨gb, 0, none⟩) 256 cb | 23 => v = .pointer (some ⟨gb, 2, none⟩) | 24 => v = .int .u8 (C : Int) | 25 => v = .int .i64 (C : Int) | 26 => v = .slice (some ⟨gb, 0, none⟩) 256 cb | 27 => v = .int .u64 (bt : Int) | 28 => v = .slice (some ⟨gb, 0, none⟩) 256 cb | 29 => v = .int .u64 (op : Int) | 30 => v = .slice (some ⟨gb, 0, none⟩) 256 cb | 31 => v = .int .u64 (P : Int) | 32 => v = .int .i64 (P : Int) | 33 => v = .slice (some ⟨gb, 0, none⟩) 256 cb | 34 => v = .int .u64 (n : Int) | 35 => v = .int .i64 (n : Int) | 36 => v = .agg #[.int .i64 (K : Int), .int .i64 (I : Int), .int .i64 (C : Int), .int .u64 (bt : Int), .int .u64 (op : Int), .int .i64 (P : Int), .int .i64 (n : Int)] | 6 => ∃ k, v = .pointer (some ⟨k, 0, none⟩) | _ => True) (PhiG w5 K I C bt op P n) [23, 24] [6] (by kernel_rfl) (by kernel_rfl) (by decide) (PhiG.loc _ _ _ _ _ _ _ _) (Or.inl ⟨rfl, (Below.refl _ _).drew⟩) ⟨?_, ?_, ?_, ?_, ?_, ?_, ?_, ?_, ?_, ?_, ?_, ?_, ?_, ?_, ?_, ?_, ?_, ?_, ?_, ?_, ?_, ?_, ?_, ?_, ?_, trivial⟩ ?_
    · refine Big.small (by decide) ?_
      intro i' a' w' hi' hΦ h'
      have hb' := hΦ.below
      have e5 : a'.tmps.getD 5 undef = .slice (some ⟨gb, 0, none⟩) 256 cb := Big.sb h' 5 (by kernel_rfl) (by kernel_rfl) rfl
      exact .val (want0 rfl) rfl (by simp [Act.eval, e5, go_sem]) rfl
    · refine Big.small (by decide) ?_
      intro i' a' w' hi' hΦ h'
      have hb' := hΦ.below
      have e14 : a'.tmps.getD 14 undef = .slice (some ⟨gb, 0, none⟩) 256 cb := Big.sw h' 14 (by kernel_rfl) (by kernel_rfl)
      exact .val (want0 rfl) rfl (by simp [Act.eval, e14, go_sem]) rfl
    · refine Big.small (by decide) ?_
      intro i' a' w' hi' hΦ h'
      have hb' := hΦ.below
      have kk := (hb'.cell (p := ⟨gb, 0, none⟩) Hgl.out).trans k0
      have e15 : a'.tmps.getD 15 undef = .pointer (some ⟨gb, 0, none⟩) := Big.sw h' 15 (by kernel_rfl) (by kernel_rfl)
      exact .val (want0 rfl) rfl (by simp [Act.eval, e15, kk, go_sem]) rfl
    · refine Big.small (by decide) ?_
      intro i' a' w' hi' hΦ h'
      have hb' := hΦ.below
      have e16 : a'.tmps.getD 16 undef = .int .u8 (K : Int) := Big.sw h' 16 (by kernel_rfl) (by kernel_rfl)
      exact .val (want0 rfl) rfl (by simp [Act.eval, e16, x1, go_sem]) rfl
    · refine Big.small (by decide) ?_
      intro i' a' w' hi' hΦ h'
      have hb' := hΦ.below
      have e5 : a'.tmps.getD 5 undef = .slice (some ⟨gb, 0, none⟩) 256 cb := Big.sb h' 5 (by kernel_rfl) (by kernel_rfl) rfl
      exact .val (want0 rfl) rfl (by simp [Act.eval, e5, go_sem]) rfl
    · refine Big.small (by decide) ?_
      intro i' a' w' hi' hΦ h'
      have hb' := hΦ.below
      have e18 : a'.tmps.getD 18 undef = .slice (some ⟨gb, 0, none⟩) 256 cb := Big.sw h' 18 (by kernel_rfl) (by kernel_rfl)
      exact .val (want0 rfl) rfl (by simp [Act.eval, e18, go_sem]) rfl
    · refine Big.small (by decide) ?_
      intro i' a' w' hi' hΦ h'
      have hb' := hΦ.below
      have kk := (hb'.cell (p := ⟨gb, 1, none⟩) Hgl.out).trans k1
      have e19 : a'.tmps.getD 19 undef = .pointer (some ⟨gb, 1, none⟩) := Big.sw h' 19 (by kernel_rfl) (by kernel_rfl)
      exact .val (want0 rfl) rfl (by simp [Act.eval, e19, kk, go_sem]) rfl
    · refine Big.small (by decide) ?_
      intro i' a' w' hi' hΦ h'
      have hb' := hΦ.below
      have e20 : a'.tmps.getD 20 undef = .int .u8 (I : Int) := Big.sw h' 20 (by kernel_rfl) (by kernel_rfl)
      exact .val (want0 rfl) rfl (by simp [Act.eval, e20, x2, go_sem]) rfl
    · refine Big.small (by decide) ?_
      intro i' a' w' hi' hΦ h'
      have hb' := hΦ.below
      have e5 : a'.tmps.getD 5 undef = .slice (some ⟨gb, 0, none⟩) 256 cb := Big.sb h' 5 (by kernel_rfl) (by kernel_rfl) rfl
      exact .val (want0 rfl) rfl (by simp [Act.eval, e5, go_sem]) rfl
    · refine Big.small (by decide) ?_
      intro i' a' w' hi' hΦ h'
      have hb' := hΦ.below
      have e22 : a'.tmps.getD 22 undef = .slice (some ⟨gb, 0, none⟩) 256 cb := Big.sw h' 22 (by kernel_rfl) (by kernel_rfl)
      exact .val (want0 rfl) rfl (by simp [Act.eval, e22, go_sem]) rfl
    · refine Big.small (by decide) ?_
      intro i' a' w' hi' hΦ h'
      have hb' := hΦ.below
      have kk := (hb'.cell (p := ⟨gb, 2, none⟩) Hgl.out).trans k2
      have e23 : a'.tmps.getD 23 undef = .pointer (some ⟨gb, 2, none⟩) := Big.sw h' 23 (by kernel_rfl) (by kernel_rfl)
      exact .val (want0 rfl) rfl (by simp [Act.eval, e23, kk, go_sem]) rfl
    · refine Big.small (by decide) ?_
      intro i' a' w' hi' hΦ h'
      have hb' := hΦ.below
      have e24 : a'.tmps.getD 24 undef = .int .u8 (C : Int) := Big.sw h' 24 (by kernel_rfl) (by kernel_rfl)
      exact .val (want0 rfl) rfl (by simp [Act.eval, e24, x3, go_sem]) rfl
    · refine Big.small (by decide) ?_
      intro i' a' w' hi' hΦ h'
      have hb' := hΦ.below
      have e5 : a'.tmps.getD 5 undef = .slice (some ⟨gb, 0, none⟩) 256 cb := Big.sb h' 5 (by kernel_rfl) (by kernel_rfl) rfl
      exact .val (want0 rfl) rfl (by simp [Act.eval, e5, go_sem]) rfl
    · refine Big.small (by decide) ?_
      intro i' a' w' hi' hΦ h'
      have hb' := hΦ.below
      have e26 : a'.tmps.getD 26 undef = .slice (some ⟨gb, 0, none⟩) 256 cb := Big.sw h' 26 (by kernel_rfl) (by kernel_rfl)
      exact .called (want0 rfl) rfl (by simp [Act.eval, e26, go_sem]) (F1.out w' hb') rfl
    · refine Big.small (by decide) ?_
      intro i' a' w' hi' hΦ h'
      have hb' := hΦ.below
      have e5 : a'.tmps.getD 5 undef = .slice (some ⟨gb, 0, none⟩) 256 cb := Big.sb h' 5 (by kernel_rfl) (by kernel_rfl) rfl
      exact .val (want0 rfl) rfl (by simp [Act.eval, e5, go_sem]) rfl
    · refine Big.small (by decide) ?_
      intro i' a' w' hi' hΦ h'
      have hb' := hΦ.below
      have e28 : a'.tmps.getD 28 undef = .slice (some ⟨gb, 0, none⟩) 256 cb := Big.sw h' 28 (by kernel_rfl) (by kernel_rfl)
      exact .called (want0 rfl) rfl (by simp [Act.eval, e28, go_sem]) (F2.out w' hb') rfl
    · refine Big.small (by decide) ?_
      intro i' a' w' hi' hΦ h'
      have hb' := hΦ.below
      have e5 : a'.tmps.getD 5 undef = .slice (some ⟨gb, 0, none⟩) 256 cb := Big.sb h' 5 (by kernel_rfl) (by kernel_rfl) rfl
      exact .val (want0 rfl) rfl (by simp [Act.eval, e5, go_sem]) rfl
    · refine Big.small (by decide) ?_
      intro i' a' w' hi' hΦ h'
      have hb' := hΦ.below
      have e30 : a'.tmps.getD 30 undef = .slice (some ⟨gb, 0, none⟩) 256 cb := Big.sw h' 30 (by kernel_rfl) (by kernel_rfl)
      exact .called (want0 rfl) rfl (by simp [Act.eval, e30, go_sem]) (F3.out w' hb') rfl
    · refine Big.small (by decide) ?_
      intro i' a' w' hi' hΦ h'
      have hb' := hΦ.below
      have e31 : a'.tmps.getD 31 undef = .int .u64 (P : Int) := Big.sw h' 31 (by kernel_rfl) (by kernel_rfl)
      exact .val (want0 rfl) rfl (by simp [Act.eval, e31, x4, go_sem]) rfl
    · refine Big.small (by decide) ?_
      intro i' a' w' hi' hΦ h'
      have hb' := hΦ.below
      have e5 : a'.tmps.getD 5 undef = .slice (some ⟨gb, 0, none⟩) 256 cb := Big.sb h' 5 (by kernel_rfl) (by kernel_rfl) rfl
      exact .val (want0 rfl) rfl (by simp [Act.eval, e5, go_sem]) rfl
    · refine Big.small (by decide) ?_
      intro i' a' w' hi' hΦ h'
      have hb' := hΦ.below
      have e33 : a'.tmps.getD 33 undef = .slice (some ⟨gb, 0, none⟩) 256 cb := Big.sw h' 33 (by kernel_rfl) (by kernel_rfl)
      exact .called (want0 rfl) rfl (by simp [Act.eval, e33, go_sem]) (F4.out w' hb') rfl
    · refine Big.small (by decide) ?_
      intro i' a' w' hi' hΦ h'
      have hb' := hΦ.below
      have e34 : a'.tmps.getD 34 undef = .int .u64 (n : Int) := Big.sw h' 34 (by kernel_rfl) (by kernel_rfl)
      exact .val (want0 rfl) rfl (by simp [Act.eval, e34, x5, go_sem]) rfl
    · refine Big.small (by decide) ?_
      intro i' a' w' hi' hΦ h'
      have hb' := hΦ.below
      have e17 : a'.tmps.getD 17 undef = .int .i64 (K : Int) := Big.sw h' 17 (by kernel_rfl) (by kernel_rfl)
      have e21 : a'.tmps.getD 21 undef = .int .i64 (I : Int) := Big.sw h' 21 (by kernel_rfl) (by kernel_rfl)
      have e25 : a'.tmps.getD 25 undef = .int .i64 (C : Int) := Big.sw h' 25 (by kernel_rfl) (by kernel_rfl)
      have e27 : a'.tmps.getD 27 undef = .int .u64 (bt : Int) := Big.sw h' 27 (by kernel_rfl) (by kernel_rfl)
      have e29 : a'.tmps.getD 29 undef = .int .u64 (op : Int) := Big.sw h' 29 (by kernel_rfl) (by kernel_rfl)
      have e32 : a'.tmps.getD 32 undef = .int .i64 (P : Int) := Big.sw h' 32 (by kernel_rfl) (by kernel_rfl)
      have e35 : a'.tmps.getD 35 undef = .int .i64 (n : Int) := Big.sw h' 35 (by kernel_rfl) (by kernel_rfl)
      exact .val (want0 rfl) rfl (by simp [Act.eval, (by simpa using e17 : a'.tmps[17]?.getD undef = _), (by simpa using e21 : a'.tmps[21]?.getD undef = _), (by simpa using e25 : a'.tmps[25]?.getD undef = _), (by simpa using e27 : a'.tmps[27]?.getD undef = _), (by simpa using e29 : a'.tmps[29]?.getD undef = _), (by simpa using e32 : a'.tmps[32]?.getD undef = _), (by simpa using e35 : a'.tmps[35]?.getD undef = _), go_sem]) rfl
    · refine Big.great (i := 0) rfl (by decide) ?_
      intro a' w' hsz' hΦ h'
      have hb' := hΦ.below
      exact .made (d := 6) (v := .pointer (some ⟨w'.heap.size, 0, none⟩)) (w' := w'.alloc (.cells #[.int .i64 0, .int .i64 0, .int .i64 0, .int .u64 0, .int .u64 0, .int .i64 0, .int .i64 0] 42)) (want0 rfl) rfl (by simp [go_sem]) ⟨_, rfl⟩ (.inr (.inl ⟨rfl, _, Big.slots_put (by rw [hsz']; simp), hb'.size, hb'.alloc hb'.size _, heap_alloc_new w' _⟩))
    · refine Big.great (i := 1) rfl (by decide) ?_
      intro a' w' hsz' hΦ h'
      have e36 : a'.tmps.getD 36 undef = .agg #[.int .i64 (K : Int), .int .i64 (I : Int), .int .i64 (C : Int), .int .u64 (bt : Int), .int .u64 (op : Int), .int .i64 (P : Int), .int .i64 (n : Int)] := Big.sw h' 36 (by kernel_rfl) (by kernel_rfl)
      obtain ⟨k, e6, hk, hb', hz⟩ := hΦ.at1
      have e6' : a'.tmps.getD 6 undef = .pointer (some ⟨k, 0, none⟩) := e6
      intro K' Q hK
      rw [if_pos (want0 rfl)]
      exact wp_store_row 42 (.tmp 6) (.tmp 36) rfl k #[.int .i64 (K : Int), .int .i64 (I : Int), .int .i64 (C : Int), .int .u64 (bt : Int), .int .u64 (op : Int), .int .i64 (P : Int), .int .i64 (n : Int)] e6' e36 42 _ hz infoHd rfl (by simp [Value.oneCell']) (hK undef _ (fun d hd => by cases hd) (.inr (.inr ⟨Nat.le_refl _, k, e6, hk, setRow_belowP hb' hk _, setRow_heap _ _ _ _ _ _ hz⟩)))
    · intro a' w' hdf hsz hwr hkp hΦ
      obtain ⟨k, e6, hk, hb', hz⟩ := hΦ.at2
      have e6' : a'.tmps.getD 6 undef = .pointer (some ⟨k, 0, none⟩) := e6
      have f14 : a'.tmps.getD 14 undef = .slice (some ⟨gb, 0, none⟩) 256 cb := hwr 14 (by kernel_rfl)
      have f15 : a'.tmps.getD 15 undef = .pointer (some ⟨gb, 0, none⟩) := hwr 15 (by kernel_rfl)
      have f16 : a'.tmps.getD 16 undef = .int .u8 (K : Int) := hwr 16 (by kernel_rfl)
      have f17 : a'.tmps.getD 17 undef = .int .i64 (K : Int) := hwr 17 (by kernel_rfl)
      have f18 : a'.tmps.getD 18 undef = .slice (some ⟨gb, 0, none⟩) 256 cb := hwr 18 (by kernel_rfl)
      have f19 : a'.tmps.getD 19 undef = .pointer (some ⟨gb, 1, none⟩) := hwr 19 (by kernel_rfl)
      have f20 : a'.tmps.getD 20 undef = .int .u8 (I : Int) := hwr 20 (by kernel_rfl)
      have f21 : a'.tmps.getD 21 undef = .int .i64 (I : Int) := hwr 21 (by kernel_rfl)
      have f22 : a'.tmps.getD 22 undef = .slice (some ⟨gb, 0, none⟩) 256 cb := hwr 22 (by kernel_rfl)
      have f23 : a'.tmps.getD 23 undef = .pointer (some ⟨gb, 2, none⟩) := hwr 23 (by kernel_rfl)
      have f24 : a'.tmps.getD 24 undef = .int .u8 (C : Int) := hwr 24 (by kernel_rfl)
      have f25 : a'.tmps.getD 25 undef = .int .i64 (C : Int) := hwr 25 (by kernel_rfl)
      have f26 : a'.tmps.getD 26 undef = .slice (some ⟨gb, 0, none⟩) 256 cb := hwr 26 (by kernel_rfl)
      have f27 : a'.tmps.getD 27 undef = .int .u64 (bt : Int) := hwr 27 (by kernel_rfl)
      have f28 : a'.tmps.getD 28 undef = .slice (some ⟨gb, 0, none⟩) 256 cb := hwr 28 (by kernel_rfl)
      have f29 : a'.tmps.getD 29 undef = .int .u64 (op : Int) := hwr 29 (by kernel_rfl)
      have f30 : a'.tmps.getD 30 undef = .slice (some ⟨gb, 0, none⟩) 256 cb := hwr 30 (by kernel_rfl)
      have f31 : a'.tmps.getD 31 undef = .int .u64 (P : Int) := hwr 31 (by kernel_rfl)
      have f32 : a'.tmps.getD 32 undef = .int .i64 (P : Int) := hwr 32 (by kernel_rfl)
      have f33 : a'.tmps.getD 33 undef = .slice (some ⟨gb, 0, none⟩) 256 cb := hwr 33 (by kernel_rfl)
      have f34 : a'.tmps.getD 34 undef = .int .u64 (n : Int) := hwr 34 (by kernel_rfl)
      have f35 : a'.tmps.getD 35 undef = .int .i64 (n : Int) := hwr 35 (by kernel_rfl)
      have f36 : a'.tmps.getD 36 undef = .agg #[.int .i64 (K : Int), .int .i64 (I : Int), .int .i64 (C : Int), .int .u64 (bt : Int), .int .u64 (op : Int), .int .i64 (P : Int), .int .i64 (n : Int)] := hwr 36 (by kernel_rfl)
      have hfr := Flo2.frame_eq [(14, .slice (some ⟨gb, 0, none⟩) 256 cb), (15, .pointer (some ⟨gb, 0, none⟩)), (16, .int .u8 (K : Int)), (17, .int .i64 (K : Int)), (18, .slice (some ⟨gb, 0, none⟩) 256 cb), (19, .pointer (some ⟨gb, 1, none⟩)), (20, .int .u8 (I : Int)), (21, .int .i64 (I : Int)), (22, .slice (some ⟨gb, 0, none⟩) 256 cb), (23, .pointer (some ⟨gb, 2, none⟩)), (24, .int .u8 (C : Int)), (25, .int .i64 (C : Int)), (26, .slice (some ⟨gb, 0, none⟩) 256 cb), (27, .int .u64 (bt : Int)), (28, .slice (some ⟨gb, 0, none⟩) 256 cb), (29, .int .u64 (op : Int)), (30, .slice (some ⟨gb, 0, none⟩) 256 cb), (31, .int .u64 (P : Int)), (32, .int .i64 (P : Int)), (33, .slice (some ⟨gb, 0, none⟩) 256 cb), (34, .int .u64 (n : Int)), (35, .int .i64 (n : Int)), (36, .agg #[.int .i64 (K : Int), .int .i64 (I : Int), .int .i64 (C : Int), .int .u64 (bt : Int), .int .u64 (op : Int), .int .i64 (P : Int), .int .i64 (n : Int)]), (6, .pointer (some ⟨k, 0, none⟩))] a'.tmps _ hsz (by
        intro x hx
        simp only [List.mem_cons, List.not_mem_nil, or_false] at hx
        rcases hx with h | h | h | h | h | h | h | h | h | h | h | h | h | h | h | h | h | h | h | h | h | h | h | h <;> subst h
        · exact f14
        · exact f15
        · exact f16
        · exact f17
        · exact f18
        · exact f19
        · exact f20
        · exact f21
        · exact f22
        · exact f23
        · exact f24
        · exact f25
        · exact f26
        · exact f27
        · exact f28
        · exact f29
        · exact f30
        · exact f31
        · exact f32
        · exact f33
        · exact f34
        · exact f35
        · exact f36
        · exact e6') (fun t ht => hkp t (Flo3.writes_not _ _ (by kernel_rfl) ht))
      have ha := Flo3.act_ext hfr hdf
      have HBk := hide (HB5.out.trans (hb'.mono HB5.out.size))
      have HXk := hide (HX5.out.below hb' HX5.out.lt)
      have HYk := hide (show BoxH ⟨K, I, C, bt, op, P, n⟩ k w' from hz)
      have Hkn := hide (Nat.ne_of_lt (Nat.lt_of_lt_of_le HX5.out.lt hk))
      clear hfr hwr hkp hsz hdf e6 e6' hz hb' hk hΦ k0 k1 k2 x1 x2 x3 x4 x5 F1 F2 F3 F4 HB5 HX5 HL5 Hgl hcv f14 f15 f16 f17 f18 f19 f20 f21 f22 f23 f24 f25 f26 f27 f28 f29 f30 f31 f32 f33 f34 f35 f36
      subst ha
      simp only [Flo2.puts, List.foldl_cons, List.foldl_nil, List.setIfInBounds_toArray, List.set, Exit.inBlock, Exit.then]
      generalize w' = w6 at *
      by_cases hm : Hd.May ⟨K, I, C, bt, op, P, n⟩
      · have Fm := fun W => may15_any ⟨K, I, C, bt, op, P, n⟩ W
        rw [decide_eq_true hm] at Fm
        have Fm := hide Fm
        have h12 := hm.2.2.2.2.2.2.2.2.2.2.2
        dsimp only at h12
        obtain ⟨hn228, m, hmm, e1, e2, hm256⟩ := g_nums n h12
        obtain ⟨d, hd⟩ : ∃ d, d = (b.drop 24).take n := ⟨_, rfl⟩
        have hdl : (d.length : Int) = (n : Int) := by rw [hd, data_len b n Hlen.out hn228]
        have hsl := slice_str b m n hmm (by rw [Hlen.out]; exact hm256)
        rw [← hd] at hsl
        have Fq := hide (fun W => put15_any ⟨K, I, C, bt, op, P, n⟩ d W hm hdl)
        have Hright := hide (right_is b d ⟨K, I, C, bt, op, P, n⟩ Hlen.out Hh.out hm (by rw [hd]; rfl))
        have Hdata : Hid (dataOf b = d) := hide (by unfold dataOf; rw [Hh.out, hd]; rfl)
        obtain ⟨s, hs⟩ : ∃ s, Hid (s = pageB ⟨K, I, C, bt, op, P, n⟩ d) := ⟨_, hide rfl⟩
        rw [← hs.out] at Fq Hright
        clear hm h12 hn228 hmm hd hdl hm256 hs
        unfold Hd.val at Fm Fq
        dsimp only at Fm Fq
        have R := HYk.out.range
        unfold Hd.cells at R
        dsimp only at R
        go_wp2_with (with_reducible refine wpl_load_mid rfl 42 (.tmp 6) rfl k 0 _ R rfl _ Try.underlying42 rfl 7 infoHd (by with_unfolding_all rfl) ?_)
        (with_reducible refine (Fm.out _).mono ?_)
        rintro e w7 ⟨rfl, hb⟩
        have HB7 := hide (HBk.out.trans (hb.mono HBk.out.size))
        have HX7 := hide (HXk.out.below hb HXk.out.lt)
        have HY7 := hide (HYk.out.below hb HYk.out.lt)
        have c6 := HY7.out.c 6 _ rfl
        have R := HY7.out.range
        unfold Hd.cells at R
        dsimp only at R c6
        clear hb HBk HXk HYk Fm
        go_wp2_with (with_reducible refine wpl_load_mid rfl 42 (.tmp 6) rfl k 0 _ R rfl _ Try.underlying42 rfl 7 infoHd (by with_unfolding_all rfl) ?_)
        (with_reducible refine (Fq.out _).mono ?_)
        rintro e w8 ⟨rfl, hb⟩
        have HB8 := hide (HB7.out.trans (hb.mono HB7.out.size))
        have HX8 := hide (HX7.out.below hb HX7.out.lt)
        have HY8 := hide (HY7.out.below hb HY7.out.lt)
        clear hb HB7 HX7 HY7 Fq c6 R hsl e1 e2
        have z0 := HX8.out.c 0 _ rfl
        have z1 := HX8.out.c 1 _ rfl
        have z2 := HX8.out.c 2 _ rfl
        have z3 := HX8.out.c 3 _ rfl
        have z4 := HX8.out.c 4 _ rfl
        have z5 := HX8.out.c 5 _ rfl
        have z6 := HX8.out.c 6 _ rfl
        have y0 := HX8.out.free 0
        have y1 := HX8.out.free 1
        have y2 := HX8.out.free 2
        have y3 := HX8.out.free 3
        have y4 := HX8.out.free 4
        have y5 := HX8.out.free 5
        have y6 := HX8.out.free 6
        have hbq := str_beqH s b
        by_cases he : s = b
        · rw [decide_eq_true he] at hbq
          have hr : rightB b = true := by rw [Hright.out, decide_eq_true he]
          have hg : get15 b = (⟨K, I, C, bt, op, P, n⟩, d) := by unfold get15; rw [if_pos hr, Hh.out, Hdata.out]
          have HG := hide hg
          have HR := hide hr
          have R := HY8.out.range
          unfold Hd.cells at R
          dsimp only at R
          clear he hr hg
          go_wp2_with (with_reducible refine wpl_load_mid rfl 42 (.tmp 6) rfl k 0 _ R rfl _ Try.underlying42 rfl 7 infoHd (by with_unfolding_all rfl) ?_)
          refine bodyPost_ret (results_head2 rfl _ _ ⟨K, I, C, bt, op, P, n⟩ w.heap.size rfl (box7 HX8.out K I C bt op P n)) rfl ⟨by rw [HG.out, HR.out]; rfl, below7 HB8.out (Nat.le_refl _) K I C bt op P n⟩
        · rw [decide_eq_false he] at hbq
          have hr : rightB b = false := by rw [Hright.out, decide_eq_false he]
          have hg : get15 b = (zeroHd, []) := by unfold get15; rw [if_neg (by rw [hr]; decide)]
          have HG := hide hg
          have HR := hide hr
          clear he hr hg
          go_wp2
          refine bodyPost_ret (results_head2 rfl _ _ zeroHd w.heap.size rfl (box7 HX8.out 0 0 0 0 0 0 0)) rfl ⟨by rw [HG.out, HR.out]; rfl, below7 HB8.out (Nat.le_refl _) 0 0 0 0 0 0 0⟩
      · have Fm := fun W => may15_any ⟨K, I, C, bt, op, P, n⟩ W
        rw [decide_eq_false hm] at Fm
        have Fm := hide Fm
        have hr : rightB b = false := by
          unfold rightB
          rw [Hh.out]
          exact decide_eq_false fun hx => hm hx.2.1
        have hg : get15 b = (zeroHd, []) := by unfold get15; rw [if_neg (by rw [hr]; decide)]
        have HG := hide hg
        have HR := hide hr
        clear hm hr hg
        unfold Hd.val at Fm
        dsimp only at Fm
        have R := HYk.out.range
        unfold Hd.cells at R
        dsimp only at R
        go_wp2_with (with_reducible refine wpl_load_mid rfl 42 (.tmp 6) rfl k 0 _ R rfl _ Try.underlying42 rfl 7 infoHd (by with_unfolding_all rfl) ?_)
        (with_reducible refine (Fm.out _).mono ?_)
        rintro e w7 ⟨rfl, hb⟩
        have HB7 := hide (HBk.out.trans (hb.mono HBk.out.size))
        have HX7 := hide (HXk.out.below hb HXk.out.lt)
        clear hb HBk HXk HYk Fm R
        have z0 := HX7.out.c 0 _ rfl
        have z1 := HX7.out.c 1 _ rfl
        have z2 := HX7.out.c 2 _ rfl
        have z3 := HX7.out.c 3 _ rfl
        have z4 := HX7.out.c 4 _ rfl
        have z5 := HX7.out.c 5 _ rfl
        have z6 := HX7.out.c 6 _ rfl
        have y0 := HX7.out.free 0
        have y1 := HX7.out.free 1
        have y2 := HX7.out.free 2
        have y3 := HX7.out.free 3
        have y4 := HX7.out.free 4
        have y5 := HX7.out.free 5
        have y6 := HX7.out.free 6
        go_wp2
        refine bodyPost_ret (results_head2 rfl _ _ zeroHd w.heap.size rfl (box7 HX7.out 0 0 0 0 0 0 0)) rfl ⟨by rw [HG.out, HR.out]; rfl, below7 HB7.out (Nat.le_refl _) 0 0 0 0 0 0 0⟩
  · have h1 : ((b.length : Int) != 256) = true := by rw [bne_iff_ne]; omega
    have h2 : ¬ (b.length : Int) = 256 := by omega
    have hr : rightB b = false := by
      unfold rightB
      exact decide_eq_false fun hx => h256 hx.1
    have hg : get15 b = (zeroHd, []) := by unfold get15; rw [if_neg (by rw [hr]; decide)]
    rw [hg, hr]
    generalize b.length = n at *
    clear h256 hr hg hsm
    have z0 := HX.out.c 0 _ rfl
    have z1 := HX.out.c 1 _ rfl
    have z2 := HX.out.c 2 _ rfl
    have z3 := HX.out.c 3 _ rfl
    have z4 := HX.out.c 4 _ rfl
    have z5 := HX.out.c 5 _ rfl
    have z6 := HX.out.c 6 _ rfl
    have y0 := HX.out.free 0
    have y1 := HX.out.free 1
    have y2 := HX.out.free 2
    have y3 := HX.out.free 3
    have y4 := HX.out.free 4
    have y5 := HX.out.free 5
    have y6 := HX.out.free 6
    go_enter Try.func12, Try.ntmps12
    go_wp2
    refine bodyPost_ret (results_head2 rfl _ _ zeroHd w.heap.size rfl HX.out) rfl ⟨rfl, HB.out⟩
end Go.Proofs.Ytahipfmokbiklaa
