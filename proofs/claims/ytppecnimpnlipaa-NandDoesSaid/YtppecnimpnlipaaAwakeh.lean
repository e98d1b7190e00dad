/-
  LAYER 14's awake, walked.
-/
import Derived.Test.YtppecnimpnlipaaDev7
import Derived.Test.YtppecnimpnlipaaDev10
namespace Go.Proofs.Ytppecnimpnlipaa
open Go.RowKit

/-- A device and the bytes that are programmed, while awake goes on. -/
structure AwS (w W : World) (B0 B : Nat) (D : Dv) (k kb kp km g : Nat) : Prop where
  dev : DevAt W B0 B D k kb kp km
  low : w.heap.size ≤ B0
  big : B ≤ W.heap.size
  below : Below w.heap.size w W
  lies : LiesT W W.heap.size (some ⟨g, 0, none⟩) (List.replicate 256 0)
section
variable {w W W' : World} {B0 B : Nat} {D D' : Dv} {k kb kp km g : Nat}
theorem AwS.next (h : AwS w W B0 B D k kb kp km g) (hb : Below W.heap.size W W') : AwS w W' B0 B D k kb kp km g :=
  ⟨h.dev.below (hb.mono h.big), h.low, Nat.le_trans h.big hb.size, h.below.trans (hb.mono h.below.size), (h.lies.kept fun b hB _ => hb.block b hB).up hb.size⟩
theorem AwS.turn (h : AwS w W B0 B D k kb kp km g) (hd : DevAt W' B0 B D' k kb kp km) (ht : Tch [k, kb, kp] W W') : AwS w W' B0 B D' k kb kp km g := by
  have hlo := h.dev.lo
  have h1 := h.low
  refine ⟨hd, h.low, Nat.le_trans h.big ht.size, h.below.trans (ht.below h.below.size ?_), (h.dev.lies_tch (Nat.le_refl _) h.lies ht).up ht.size⟩
  intro q hq
  simp only [List.mem_cons, List.not_mem_nil, or_false] at hq
  omega
end

def awF (A : Option Addr) : Flt := ⟨1, 2, A, 1, 1, [15]⟩
def awD (A : Option Addr) : Dv := Dv.fresh ⟨8, 4, 0⟩ [3] [awF A]
def zer : List UInt8 := List.replicate 256 0
def awD1 (A : Option Addr) : Dv := (awD A).progd 2 zer
def awD2 (A : Option Addr) : Dv := (awD1 A).progd 2 zer
def awD3 (A : Option Addr) : Dv := { awD2 A with dn := false }
theorem awErr (A : Option Addr) : (awD A).err = 0 := rfl
theorem awKind1 (A : Option Addr) : (awD1 A).kind = 2 := by
  show (firstF [awF A] 1).1 = 2
  rfl
theorem awErr1 (A : Option Addr) : (awD1 A).err = 9 := by
  unfold Dv.err
  rw [awKind1]
  rfl
theorem awMask1 (A : Option Addr) : (awD1 A).mask = [15] := by
  unfold Dv.mask
  rw [awKind1, if_pos (.inr rfl)]
  show (firstF [awF A] 1).2 = [15]
  rfl
theorem awDn2 (A : Option Addr) : (awD2 A).dn = true := by
  show (if (awD1 A).kind = 1 then (awD1 A).dn else if (awD1 A).kind = 2 then true else (awD1 A).dn) = true
  rw [awKind1]
  rfl
theorem progd_pg (D : Dv) (x : Nat) (b : List UInt8) (i : Nat) : (D.progd x b).pg i = upd D.pg (x * D.np + D.nx x) (progL (D.pg (x * D.np + D.nx x)) b D.mask) i := rfl
theorem awByte (A : Option Addr) : ((awD3 A).pg 9).getD 0 0 = 240 := by
  have h1 : (awD1 A).nx 2 = 1 := rfl
  have h2 : (awD1 A).pg 9 = List.replicate 256 255 := by
    unfold awD1
    rw [progd_pg, show 2 * (awD A).np + (awD A).nx 2 = 8 from rfl, upd_other (by decide)]
    rfl
  have h : (awD3 A).pg 9 = progL (List.replicate 256 255) zer [15] := by
    unfold awD3 awD2
    dsimp only
    rw [progd_pg, h1, awMask1, show 2 * (awD1 A).np + 1 = 9 from rfl, upd_same, h2]
  rw [h]
  unfold progL
  rw [range_getD _ _ _ (by rw [List.length_replicate]; decide)]
  unfold progB zer
  rw [List.length_replicate, if_pos (by decide), List.getD_eq_getElem?_getD, List.getD_eq_getElem?_getD, List.getElem?_replicate, List.getElem?_replicate]
  rfl

theorem make_bytes : ∃ Z : Array Value, Z.toList = bys (List.replicate 256 0) ∧ ∀ W, (Instr.makeSlice 40 (.int .i64 256) (.int .i64 256)).run Try.prog W = .ok (.slice (some ⟨W.heap.size, 0, none⟩) 256 256) (W.alloc (.cells Z 5)) := by
  obtain ⟨i0, hi, hz0, hz1, hz2⟩ := info_parts u8info
  refine ⟨madeCells (Value.cells (.int .u8 0)) 256, ?_, fun W => ?_⟩
  · apply List.ext_getElem?
    intro j
    rw [Array.getElem?_toList]
    by_cases hj : j < 256
    · rw [made_at _ _ _ hj, bys_at _ _ (by rw [List.length_replicate]; exact hj)]
      have h1 : (Value.cells (.int .u8 0)).size = 1 := rfl
      rw [h1, Nat.mod_one]
      rw [List.getElem_replicate]
      rfl
    · rw [Array.getElem?_eq_none (by rw [size_madeCells]; omega), List.getElem?_eq_none (by rw [bys_len, List.length_replicate]; omega)]
  · have := run_make (P := Try.prog) W 40 5 i0 _ Try.underlying40 hi hz0 .i64 .i64 256 256 (by omega) (Int.le_refl _) (by rw [hz2]; omega) (by omega)
    rw [hz1] at this
    exact this

set_option maxRecDepth 4000 in
set_option maxHeartbeats 4000000 in
theorem awake14_any (w : World) : Calls Try.prog 9 #[] w fun e w' => e = .returned (.bool true) ∧ Below w.heap.size w w' := by
  obtain ⟨Z, hZ, hmk⟩ := make_bytes
  have HZ := hide hZ
  clear hZ
  have FN := hide (new_ok ⟨8, 4, 0⟩ (some ⟨w.heap.size, 0, none⟩) (some ⟨w.heap.size + 1 + 1, 0, none⟩) 1 1 1 1 (w.heap.size + 3) [3] [awF (some ⟨w.heap.size + 1, 0, none⟩)]
    (((w.alloc (.cells #[.int .i64 3] 3)).alloc (.cells #[.int .u8 15] 5)).alloc (.cells #[.int .i64 1, .int .i64 2, .slice (some ⟨w.heap.size + 1, 0, none⟩) 1 1] 84)) (by decide)
    ((((Lies.new w #[.int .i64 3] 3 (0, 0) (w.heap.size + 1) (by omega)).below (((Below.refl _ _).alloc (by simp) _).alloc (by simp) _)).up (by omega)))
    rfl (by decide)
    (by
      have := Lies.new ((w.alloc (.cells #[.int .i64 3] 3)).alloc (.cells #[.int .u8 15] 5)) #[.int .i64 1, .int .i64 2, .slice (some ⟨w.heap.size + 1, 0, none⟩) 1 1] 84 (0, 0) (w.heap.size + 3) (by simp)
      rw [show ((w.alloc (.cells #[.int .i64 3] 3)).alloc (.cells #[.int .u8 15] 5)).heap.size = w.heap.size + 1 + 1 by simp] at this
      exact this)
    rfl (by decide)
    (fun f hf => by
      simp only [List.mem_singleton] at hf
      subst hf
      refine ⟨?_, rfl, (show (1 : Nat) ≤ 1 from Nat.le_refl _), ⟨(show (-9223372036854775808 : Int) ≤ 1 by omega), (show (1 : Int) ≤ 9223372036854775807 by omega)⟩⟩
      have := Lies.new (w.alloc (.cells #[.int .i64 3] 3)) #[.int .u8 15] 5 (0, 0) (w.heap.size + 2) (by simp)
      have := (this.below ((Below.refl _ _).alloc (by simp) (.cells #[.int .i64 1, .int .i64 2, .slice (some ⟨w.heap.size + 1, 0, none⟩) 1 1] 84))).up (show w.heap.size + 2 ≤ w.heap.size + 3 by omega)
      rw [show (w.alloc (.cells #[.int .i64 3] 3)).heap.size = w.heap.size + 1 by simp] at this
      exact this)
    (by simp))
  rw [show Gm.val ⟨8, 4, 0⟩ = .agg #[.int .i64 8, .int .i64 4, .int .i64 0] from rfl] at FN
  have Hb0 := hide (((((Below.refl w.heap.size w).alloc (Nat.le_refl _) (.cells #[.int .i64 3] 3)).alloc (by simp) (.cells #[.int .u8 15] 5))).alloc (by simp; omega) (.cells #[.int .i64 1, .int .i64 2, .slice (some ⟨w.heap.size + 1, 0, none⟩) 1 1] 84))
  go_enter Try.func9, Try.ntmps9
  go_wp2_with fail
  (with_reducible refine FN.out.mono ?_)
  rintro e w1 ⟨k, kb, kp, km, rfl, hd, hb⟩
  change DevAt w1 _ _ (awD _) k kb kp km at hd
  generalize hq : some (⟨w.heap.size + 1, 0, none⟩ : Addr) = Aq at *
  clear hq
  have b1 := Hb0.out.trans (hb.mono (by simp; omega))
  have hs1 : w.heap.size ≤ (((w.alloc (.cells #[.int .i64 3] 3)).alloc (.cells #[.int .u8 15] 5)).alloc (.cells #[.int .i64 1, .int .i64 2, .slice Aq 1 1] 84)).heap.size := by simp; omega
  generalize hB0 : (((w.alloc (.cells #[.int .i64 3] 3)).alloc (.cells #[.int .u8 15] 5)).alloc (.cells #[.int .i64 1, .int .i64 2, .slice Aq 1 1] 84)).heap.size = B0 at *
  have b2 := (Below.refl w1.heap.size w1).alloc (Nat.le_refl _) (.cells Z 5)
  have S0 := hide (show AwS w (w1.alloc (.cells Z 5)) B0 w1.heap.size (awD Aq) k kb kp km w1.heap.size from
    ⟨hd.below b2, hs1, by simp, b1.trans (b2.mono b1.size), LiesT.new w1 _ _ HZ.out _ _ rfl (by simp)⟩)
  clear hd b1 b2 hs1 hB0 hb FN Hb0
  generalize hz1 : w1.heap.size = g at *
  go_wp2_with fail
  clear hz1 hmk HZ
  generalize w1.alloc (.cells Z 5) = w2 at *
  have F1 := prog_order S0.out.dev S0.out.big 2 1 (some ⟨g, 0, none⟩) 256 rfl (show 2 < 8 by decide) (show 1 < 4 by decide) rfl (show 1 ≠ 0 by decide)
  rw [show ((2 : Nat) : Int) = 2 from rfl, show ((1 : Nat) : Int) = 1 from rfl] at F1
  (with_reducible refine F1.mono ?_)
  rintro e w3 ⟨rfl, hb⟩
  have S1 := hide (S0.out.next hb)
  clear hb F1 S0
  go_wp2_with fail
  have F1 := prog_ok S1.out.dev S1.out.big 2 (some ⟨g, 0, none⟩) 256 zer rfl (show 2 < 8 by decide) (show 0 < 4 by decide) rfl (show 0 < 1000000 by decide) S1.out.lies List.length_replicate
  rw [show ((2 : Nat) : Int) = 2 from rfl, show (((awD Aq).nx 2 : Nat) : Int) = 0 from rfl, awErr] at F1
  (with_reducible refine F1.mono ?_)
  rintro e w4 ⟨rfl, hd, ht⟩
  change DevAt w4 _ _ (awD1 Aq) k kb kp km at hd
  have S2 := hide (S1.out.turn hd ht)
  clear hd ht F1 S1
  go_wp2_with fail
  have F1 := prog_ok S2.out.dev S2.out.big 2 (some ⟨g, 0, none⟩) 256 zer rfl (show 2 < 8 by decide) (show 1 < 4 by decide) rfl (show 1 < 1000000 by decide) S2.out.lies List.length_replicate
  rw [show ((2 : Nat) : Int) = 2 from rfl, show (((awD1 Aq).nx 2 : Nat) : Int) = 1 from rfl, awErr1] at F1
  (with_reducible refine F1.mono ?_)
  rintro e w5 ⟨rfl, hd, ht⟩
  change DevAt w5 _ _ (awD2 Aq) k kb kp km at hd
  have S3 := hide (S2.out.turn hd ht)
  clear hd ht F1 S2
  go_wp2_with fail
  have F1 := down_any S3.out.dev
  rw [show (awD2 Aq).dn = true from awDn2 Aq] at F1
  (with_reducible refine F1.mono ?_)
  rintro e w6 ⟨rfl, rfl⟩
  clear F1
  go_wp2_with fail
  (with_reducible refine (power_any S3.out.dev S3.out.big).mono ?_)
  rintro e w6 ⟨rfl, hd, ht⟩
  change DevAt w6 _ _ (awD3 Aq) k kb kp km at hd
  have S4 := hide (S3.out.turn hd ht)
  clear hd ht S3
  go_wp2_with fail
  have F1 := read_ok S4.out.dev S4.out.big 2 1 rfl (show 2 < 8 by decide) (show 1 < 4 by decide)
  rw [show ((2 : Nat) : Int) = 2 from rfl, show ((1 : Nat) : Int) = 1 from rfl, show 2 * (awD3 Aq).np + 1 = 9 from rfl] at F1
  (with_reducible refine F1.mono ?_)
  rintro e w7 ⟨A7, c7, rfl, ho, hb⟩
  have S5 := hide (S4.out.next hb)
  obtain ⟨g7, rfl, _⟩ := own_addr ho (by decide)
  have c0 : w7.cell? ⟨g7, 0, none⟩ = some (.int .u8 240) := by
    have h := ho.cellAt 0 (by decide)
    rw [h, bys_at _ _ (by rw [S4.out.dev.plen 9 (show 9 < 8 * 4 by decide)]; decide)]
    have h2 := awByte Aq
    rw [List.getD_eq_getElem?_getD, List.getElem?_eq_getElem (by rw [S4.out.dev.plen 9 (show 9 < 8 * 4 by decide)]; decide)] at h2
    show some (Value.int .u8 ((((awD3 Aq).pg 9)[0]'_).toNat : Int)) = _
    simp only [Option.getD_some] at h2
    rw [h2]
    rfl
  clear ho hb F1 S4
  have G1 := marked_some S5.out.dev 3 (show 3 < 8 by decide)
  have G2 := next_some S5.out.dev 2 (show 2 < 8 by decide)
  have G3 := ops_any S5.out.dev
  have G4 := era_marked S5.out.dev S5.out.big 3 rfl (show 3 < 8 by decide) rfl
  rw [show ((3 : Nat) : Int) = 3 from rfl] at G1 G4
  rw [show ((2 : Nat) : Int) = 2 from rfl] at G2
  rw [show (awD3 Aq).bad 3 = true from rfl] at G1
  rw [show (((awD3 Aq).nx 2 : Nat) : Int) = 2 from rfl] at G2
  rw [show (((awD3 Aq).ops : Nat) : Int) = 2 from rfl] at G3
  go_wp2_with (first
    | (go_at_call 42; (with_reducible refine G1.mono ?_); rintro e w8 ⟨rfl, rfl⟩; clear G1)
    | (go_at_call 43; (with_reducible refine G2.mono ?_); rintro e w8 ⟨rfl, rfl⟩; clear G2)
    | (go_at_call 44; (with_reducible refine G3.mono ?_); rintro e w8 ⟨rfl, rfl⟩; clear G3)
    | (go_at_call 17; (with_reducible refine G4.mono ?_); rintro e w8 ⟨rfl, hb⟩; have S6 := hide (S5.out.next hb); clear G4 hb))
  go_ret
  exact ⟨rfl, S6.out.below⟩
end Go.Proofs.Ytppecnimpnlipaa
