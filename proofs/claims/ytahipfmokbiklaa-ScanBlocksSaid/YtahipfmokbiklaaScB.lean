/-
  CONTRACT of awake of layer 18's statements. (By gen/ScB.gen.py.)
-/
import Derived.Test.YtahipfmokbiklaaScF
import Derived.Test.YtahipfmokbiklaaScG
import Derived.Test.YtahipfmokbiklaaFlo4
import Derived.Test.YtahipfmokbiklaaOnes
import Derived.Test.YtahipfmokbiklaaRd9
import Derived.Test.YtahipfmokbiklaaPgP
namespace Go.Proofs.Ytahipfmokbiklaa
open Go.RowKit
set_option maxRecDepth 8000

/-- A slice of these numbers. -/
def RowI (l : List Int) : Value → World → Prop := fun v w => ∃ A c, v = .slice A l.length c ∧ Lies w w.heap.size A (i64s l)
theorem RowI.keeps {l : List Int} {A : Option Addr} {c : Nat} {w : World} (h : Lies w w.heap.size A (i64s l)) : Keeps (RowI l) (.slice A l.length c) w := fun W hW => ⟨A, c, rfl, (h.below hW).up hW.size⟩
theorem RowI.new (w : World) (l : List Int) : Keeps (RowI l) (.slice (some ⟨w.heap.size, 0, none⟩) l.length l.length) (w.alloc (.cells (i64s l).toArray 3)) :=
  RowI.keeps (by have := Lies.new w (i64s l).toArray 3 (0, 0) (w.alloc (.cells (i64s l).toArray 3)).heap.size (by simp); simpa using this)
theorem RowI.made {f : FuncId} {args : Array Value} {w : World} {l : List Int} (h : Calls Try.prog f args w fun e w' => ∃ A c, e = .returned (.slice A l.length c) ∧ w'.ownsRow w.heap.size 3 1 (.slice A l.length c) l.length (i64s l) ∧ Below w.heap.size w w') : Calls Try.prog f args w fun e w' => ∃ v, e = .returned v ∧ Below w.heap.size w w' ∧ Keeps (RowI l) v w' :=
  h.mono fun _ _ ⟨A, c, he, ho, hb⟩ => ⟨_, he, hb, RowI.keeps (Lies.of_own ho)⟩
/-- What awake knows ahead of its last region. -/
structure AwS (w : World) (k kb kp km B0 B hk g : Nat) (W : World) : Prop where
  dev : DevAt W B0 B sD1 k kb kp km
  big : B ≤ W.heap.size
  box : BoxH awH hk W
  glt : g < W.heap.size
  row : ∀ j v, (Fd.cells ⟨2, 0, awH⟩)[j]? = some v → W.cell? ⟨g, j, none⟩ = some v
  below : Below w.heap.size w W
theorem AwS.next {w W W' : World} {k kb kp km B0 B hk g : Nat} (h : AwS w k kb kp km B0 B hk g W) (hb : Below W.heap.size W W') : AwS w k kb kp km B0 B hk g W' :=
  ⟨h.dev.below (hb.mono h.big), Nat.le_trans h.big hb.size, h.box.below hb h.box.lt, Nat.lt_of_lt_of_le h.glt hb.size, fun j v hj => (hb.cell (p := ⟨g, j, none⟩) h.glt).trans (h.row j v hj), h.below.trans (hb.mono h.below.size)⟩
section
variable {w W : World} {k kb kp km B0 B hk g : Nat}
theorem AwS.blank2 (hS : AwS w k kb kp km B0 B hk g W) : Calls Try.prog 18 #[.pointer (some ⟨k, 0, none⟩), .int .i64 2] W fun e w' => e = .returned (.bool false) ∧ Below W.heap.size W w' := by
  have h := sblank_any hS.dev hS.big 2
  rw [sBlank2] at h
  exact h
theorem AwS.blank3 (hS : AwS w k kb kp km B0 B hk g W) : Calls Try.prog 18 #[.pointer (some ⟨k, 0, none⟩), .int .i64 3] W fun e w' => e = .returned (.bool true) ∧ Below W.heap.size W w' := by
  have h := sblank_any hS.dev hS.big 3
  rw [sBlank3] at h
  exact h
theorem AwS.blocks (hS : AwS w k kb kp km B0 B hk g W) : Calls Try.prog 16 #[.pointer (some ⟨k, 0, none⟩)] W fun e w' => ∃ A c, e = .returned (.slice A [(2 : Int), 3, 5, 6, 7].length c) ∧ w'.ownsRow W.heap.size 3 1 (.slice A [(2 : Int), 3, 5, 6, 7].length c) [(2 : Int), 3, 5, 6, 7].length (i64s [2, 3, 5, 6, 7]) ∧ Below W.heap.size W w' := by
  have h := sBlocks_any hS.dev hS.big
  rw [show sD1.blocks false = [2, 3, 5, 6, 7] from sBlocks false] at h
  exact h
theorem AwS.marked (hS : AwS w k kb kp km B0 B hk g W) : Calls Try.prog 17 #[.pointer (some ⟨k, 0, none⟩)] W fun e w' => ∃ A c, e = .returned (.slice A [(4 : Int)].length c) ∧ w'.ownsRow W.heap.size 3 1 (.slice A [(4 : Int)].length c) [(4 : Int)].length (i64s [4]) ∧ Below W.heap.size W w' := by
  have h := sMarked_any hS.dev hS.big
  rw [show sD1.blocks true = [4] from sBlocks true] at h
  exact h
end
set_option maxHeartbeats 8000000 in
theorem awake18_any (w : World) : Calls Try.prog 6 #[] w fun e w' => e = .returned (.bool true) ∧ Below w.heap.size w w' := by
  have hb0 := (Below.refl w.heap.size w).alloc (Nat.le_refl _) (.cells #[.int .i64 4] 3)
  have FN := hide (new_ok ⟨8, 4, 0⟩ (some ⟨w.heap.size, 0, none⟩) none 1 1 0 0 (w.heap.size + 1) [4] [] (w.alloc (.cells #[.int .i64 4] 3)) (by decide) (Lies.new w #[.int .i64 4] 3 (0, 0) (w.heap.size + 1) (Nat.lt_succ_self _)) rfl (by decide) Lies.nil rfl (by decide) (fun f hf => absurd hf (by simp)) (by simp))
  rw [show Gm.val ⟨8, 4, 0⟩ = .agg #[.int .i64 8, .int .i64 4, .int .i64 0] from rfl] at FN
  have FP : Hid (∀ W, Calls Try.prog 23 #[.agg #[.int .i64 3, .int .i64 0, .int .i64 1, .int .u64 0, .int .u64 0, .int .i64 3, .int .i64 1], .string ⟨#[120]⟩] W fun e w' => ∃ A' c', e = .returned (.tuple #[.slice A' 256 c', .int .i64 0]) ∧ w'.ownsRow W.heap.size 5 1 (.slice A' 256 c') 256 (bys awP) ∧ Below W.heap.size W w') :=
    hide (fun W => pput_ok awH [120] W (by decide) rfl)
  have Hb0 := hide hb0
  have HNX : Hid ((sD0.progR 2 0 awP).1 = 0) := hide sErr
  clear hb0
  go_enter Try.func6, Try.ntmps6
  go_wp2_with fail
  (with_reducible refine FN.out.mono ?_)
  rintro e w1 ⟨k, kb, kp, km, rfl, hd, hb⟩
  change DevAt w1 _ _ sD0 k kb kp km at hd
  have Hd1 := hide hd
  have Hb1 := hide (Hb0.out.trans (hb.mono Hb0.out.size))
  clear hd hb FN Hb0
  have HB0 := hide (show w.heap.size ≤ (w.alloc (.cells #[.int .i64 4] 3)).heap.size by simp)
  generalize (w.alloc (.cells #[.int .i64 4] 3)).heap.size = B0 at *
  go_wp2_with fail
  (with_reducible refine (FP.out _).mono ?_)
  rintro e w2 ⟨A2, c2, rfl, ho, hb⟩
  have HL2 := hide (LiesT.of_own ho)
  have Hd2 := hide (Hd1.out.below hb)
  have Hb2 := hide (Hb1.out.trans (hb.mono Hb1.out.size))
  have Hs2 := hide hb.size
  clear hb ho FP Hd1
  go_wp2_with fail
  have F := dprog_any Hd2.out Hs2.out (show sD0.ops < 1000000 by decide) 2 0 A2 c2 awP HL2.out awP_len
  rw [HNX.out] at F
  (with_reducible refine F.mono ?_)
  rintro e w3 ⟨rfl, hd, ht⟩
  change DevAt w3 _ _ sD1 k kb kp km at hd
  have Hd3 := hide hd
  have Hs3 := hide (Nat.le_trans Hs2.out ht.size)
  have Hb3 := hide (Hb2.out.trans (ht.below Hb2.out.size (fun b hb => by
    have h := Hd2.out.lo
    have h2 := HB0.out
    simp only [List.mem_cons, List.not_mem_nil, or_false] at hb
    rcases hb with rfl | rfl | rfl <;> omega)))
  clear hd ht F Hd2 Hb2 HL2 HNX
  generalize w1.heap.size = B at *
  have F := all_any Hd3.out Hs3.out sDn
  rw [sFindsAll] at F
  have F := hide (show Calls Try.prog 8 #[.pointer (some ⟨k, 0, none⟩)] w3 fun e w' => ∃ A c, e = .returned (.tuple #[.slice A 1 c, .int .i64 0]) ∧ w'.ownsRow w3.heap.size 48 9 (.slice A 1 c) 1 (rowD [⟨2, 0, awH⟩]) ∧ Below w3.heap.size w3 w' from F)
  go_wp2_with fail
  (with_reducible refine F.out.mono ?_)
  rintro e w4 ⟨A4, c4, rfl, ho, hb⟩
  obtain ⟨g, rfl, _⟩ := own_addr ho (by decide)
  have HR4 : Hid (g < w4.heap.size ∧ ∀ j v, (Fd.cells ⟨2, 0, awH⟩)[j]? = some v → w4.cell? ⟨g, j, none⟩ = some v) := hide (by
    rcases Lies.of_own ho with h | ⟨a, ha, hlt, hc⟩
    · exact absurd (congrArg List.length h) (by decide)
    · injection ha with ha
      subst ha
      refine ⟨hlt, fun j v hj => ?_⟩
      have e : (⟨g, 0, none⟩ : Addr).add j = ⟨g, j, none⟩ := by unfold Addr.add; split <;> simp_all
      rw [← e]
      exact hc j v (by rw [show rowD [(⟨2, 0, awH⟩ : Fd)] = Fd.cells ⟨2, 0, awH⟩ from List.append_nil _]; exact hj))
  have Hd4 := hide (Hd3.out.below (hb.mono Hs3.out))
  have Hs4 := hide (Nat.le_trans Hs3.out hb.size)
  have Hb4 := hide (Hb3.out.trans (hb.mono Hb3.out.size))
  clear hb ho F Hd3 Hb3
  have F := sdata_any Hd4.out Hs4.out 2 0
  rw [sData] at F
  have F := hide (show Calls Try.prog 11 #[.pointer (some ⟨k, 0, none⟩), .agg #[.int .i64 2, .int .i64 0]] w4 fun e w' => e = .returned (.tuple #[.agg #[.int .i64 3, .int .i64 0, .int .i64 1, .int .u64 0, .int .u64 0, .int .i64 3, .int .i64 1], .string ⟨#[120]⟩, .int .i64 0]) ∧ Below w4.heap.size w4 w' from F)
  go_wp2_with fail
  (with_reducible refine F.out.mono ?_)
  rintro e w5 ⟨rfl, hb⟩
  have HS : Hid (AwS w k kb kp km B0 B w5.heap.size g (w5.alloc (.cells #[.int .i64 3, .int .i64 0, .int .i64 1, .int .u64 0, .int .u64 0, .int .i64 3, .int .i64 1] 42))) := hide (by
    have hb6 := hb.alloc hb.size (.cells #[.int .i64 3, .int .i64 0, .int .i64 1, .int .u64 0, .int .u64 0, .int .i64 3, .int .i64 1] 42)
    exact ⟨Hd4.out.below (hb6.mono Hs4.out), Nat.le_trans Hs4.out hb6.size, heap_alloc_new w5 _, Nat.lt_of_lt_of_le HR4.out.1 hb6.size, fun j v hj => (hb6.cell (p := ⟨g, j, none⟩) HR4.out.1).trans (HR4.out.2 j v hj), Hb4.out.trans (hb6.mono Hb4.out.size)⟩)
  clear hb F Hd4 HR4 Hb4 Hs4 Hs3 Hs2 HB0
  go_upto_region 6 with fail
  generalize w5.alloc (.cells #[.int .i64 3, .int .i64 0, .int .i64 1, .int .u64 0, .int .u64 0, .int .i64 3, .int .i64 1] 42) = w6 at *
  generalize w5.heap.size = hk at *
  have Hb1 := hide HS.out.below
  have e256 : (256 : Nat) = 256 := rfl
  clear e256
  generalize c4 = c at *
  refine wp_region_flow (by kernel_rfl) (fun d => if d = 0 then is (.bool true) else List.getD [is (.int .i64 0), is (.bool true), is (.bool true), is (.int .i64 0), is (.bool true), is (.bool true), is (.bool true), is (.int .i64 0), is (.bool true), is (.bool true), is (.bool true), is (.slice (some ⟨g, 0, none⟩) 1 c), is (.int .i64 1), is (.bool true), is (.bool true), is (.bool true), is (.slice (some ⟨g, 0, none⟩) 1 c), is (.pointer (some ⟨g, 0, none⟩)), is (.pointer (some ⟨g, 2, none⟩)), is (.agg #[.int .i64 3, .int .i64 0, .int .i64 1, .int .u64 0, .int .u64 0, .int .i64 3, .int .i64 1]), is (.agg #[.int .i64 3, .int .i64 0, .int .i64 1, .int .u64 0, .int .u64 0, .int .i64 3, .int .i64 1]), is (.bool true), is (.bool true), is (.bool true), is (.pointer (some ⟨hk, 5, none⟩)), is (.int .i64 3), is (.bool true), is (.bool true), is (.bool true), is (.string ⟨#[120]⟩), is (.bool true), is (.bool true), is (.bool true), is (.pointer (some ⟨k, 0, none⟩)), is (.bool false), is (.bool true), is (.bool true), is (.bool true), is (.pointer (some ⟨k, 0, none⟩)), is (.bool true), is (.bool true), is (.bool true), is (.pointer (some ⟨k, 0, none⟩)), RowI [2, 3, 5, 6, 7], RowI [2, 3, 5, 6, 7], is (.bool true), is (.bool true), is (.bool true), is (.pointer (some ⟨k, 0, none⟩)), RowI [4], RowI [4], is (.bool true), is (.bool true)] (d - 38) (fun _ _ => True)) 0 (by kernel_rfl) (by kernel_rfl) ?_ ?_
  · refine And.intro ?_ (And.intro ?_ (And.intro ?_ (And.intro ?_ (And.intro ?_ (And.intro ?_ (And.intro ?_ (And.intro ?_ (And.intro ?_ (And.intro ?_ (And.intro ?_ (And.intro ?_ (And.intro ?_ (And.intro ?_ (And.intro ?_ (And.intro ?_ (And.intro ?_ (And.intro ?_ (And.intro ?_ (And.intro ?_ (And.intro ?_ (And.intro ?_ (And.intro ?_ (And.intro ?_ (And.intro ?_ (And.intro ?_ (And.intro ?_ (And.intro ?_ (And.intro ?_ (And.intro ?_ (And.intro ?_ (And.intro ?_ (And.intro ?_ (And.intro ?_ (And.intro ?_ (And.intro ?_ (And.intro ?_ (And.intro ?_ (And.intro ?_ (And.intro ?_ (And.intro ?_ (And.intro ?_ (And.intro ?_ (And.intro ?_ (And.intro ?_ (And.intro ?_ (And.intro ?_ (And.intro ?_ (And.intro ?_ (And.intro ?_ (And.intro ?_ (And.intro ?_ (And.intro ?_ (And.intro ?_ trivial)))))))))))))))))))))))))))))))))))))))))))))))))))))
    · intro a w hb h
      have e5 : a.tmps.getD 5 undef = .int .i64 0 := sb h 5 (by kernel_rfl) (by kernel_rfl) rfl
      exact .val (want0 rfl) rfl (by simp [Act.eval, e5, go_sem]) (Keeps.is rfl)
    · intro a w hb h
      have e38 := (sw h 38 (by kernel_rfl) (by kernel_rfl)).eq
      exact .val (want0 rfl) rfl (by simp [Act.eval, e38, go_sem]) (Keeps.is rfl)
    · intro a w hb h
      have e39 := (sw h 39 (by kernel_rfl) (by kernel_rfl)).eq
      exact .val (want0 rfl) rfl (by simp [Act.eval, e39, go_sem]) (Keeps.is rfl)
    · intro a w hb h
      have eg := (sw h 40 (by kernel_rfl) (by kernel_rfl)).eq
      have e7 : a.tmps.getD 7 undef = .int .i64 0 := sb h 7 (by kernel_rfl) (by kernel_rfl) rfl
      exact .val (wantg rfl (by kernel_rfl) eg) rfl (by simp [Act.eval, e7, go_sem]) (Keeps.is rfl)
    · intro a w hb h
      have eg := (sw h 40 (by kernel_rfl) (by kernel_rfl)).eq
      have e41 := (sw h 41 (by kernel_rfl) (by kernel_rfl)).eq
      exact .val (wantg rfl (by kernel_rfl) eg) rfl (by simp [Act.eval, e41, go_sem]) (Keeps.is rfl)
    · intro a w hb h
      have e40 := (sw h 40 (by kernel_rfl) (by kernel_rfl)).eq
      have e42 := (sw h 42 (by kernel_rfl) (by kernel_rfl)).eq
      exact .val (want0 rfl) rfl (by simp [Act.eval, e40, e42, go_sem]) (Keeps.is rfl)
    · intro a w hb h
      have e43 := (sw h 43 (by kernel_rfl) (by kernel_rfl)).eq
      exact .val (want0 rfl) rfl (by simp [Act.eval, e43, go_sem]) (Keeps.is rfl)
    · intro a w hb h
      have eg := (sw h 44 (by kernel_rfl) (by kernel_rfl)).eq
      have e10 : a.tmps.getD 10 undef = .int .i64 0 := sb h 10 (by kernel_rfl) (by kernel_rfl) rfl
      exact .val (wantg rfl (by kernel_rfl) eg) rfl (by simp [Act.eval, e10, go_sem]) (Keeps.is rfl)
    · intro a w hb h
      have eg := (sw h 44 (by kernel_rfl) (by kernel_rfl)).eq
      have e45 := (sw h 45 (by kernel_rfl) (by kernel_rfl)).eq
      exact .val (wantg rfl (by kernel_rfl) eg) rfl (by simp [Act.eval, e45, go_sem]) (Keeps.is rfl)
    · intro a w hb h
      have e44 := (sw h 44 (by kernel_rfl) (by kernel_rfl)).eq
      have e46 := (sw h 46 (by kernel_rfl) (by kernel_rfl)).eq
      exact .val (want0 rfl) rfl (by simp [Act.eval, e44, e46, go_sem]) (Keeps.is rfl)
    · intro a w hb h
      have e47 := (sw h 47 (by kernel_rfl) (by kernel_rfl)).eq
      exact .val (want0 rfl) rfl (by simp [Act.eval, e47, go_sem]) (Keeps.is rfl)
    · intro a w hb h
      have eg := (sw h 48 (by kernel_rfl) (by kernel_rfl)).eq
      have e6 : a.tmps.getD 6 undef = .slice (some ⟨g, 0, none⟩) 1 c := sb h 6 (by kernel_rfl) (by kernel_rfl) rfl
      exact .val (wantg rfl (by kernel_rfl) eg) rfl (by simp [Act.eval, e6, go_sem]) (Keeps.is rfl)
    · intro a w hb h
      have eg := (sw h 48 (by kernel_rfl) (by kernel_rfl)).eq
      have e49 := (sw h 49 (by kernel_rfl) (by kernel_rfl)).eq
      exact .val (wantg rfl (by kernel_rfl) eg) rfl (by simp [Act.eval, e49, go_sem]) (Keeps.is rfl)
    · intro a w hb h
      have eg := (sw h 48 (by kernel_rfl) (by kernel_rfl)).eq
      have e50 := (sw h 50 (by kernel_rfl) (by kernel_rfl)).eq
      exact .val (wantg rfl (by kernel_rfl) eg) rfl (by simp [Act.eval, e50, go_sem]) (Keeps.is rfl)
    · intro a w hb h
      have e48 := (sw h 48 (by kernel_rfl) (by kernel_rfl)).eq
      have e51 := (sw h 51 (by kernel_rfl) (by kernel_rfl)).eq
      exact .val (want0 rfl) rfl (by simp [Act.eval, e48, e51, go_sem]) (Keeps.is rfl)
    · intro a w hb h
      have e52 := (sw h 52 (by kernel_rfl) (by kernel_rfl)).eq
      exact .val (want0 rfl) rfl (by simp [Act.eval, e52, go_sem]) (Keeps.is rfl)
    · intro a w hb h
      have eg := (sw h 53 (by kernel_rfl) (by kernel_rfl)).eq
      have e6 : a.tmps.getD 6 undef = .slice (some ⟨g, 0, none⟩) 1 c := sb h 6 (by kernel_rfl) (by kernel_rfl) rfl
      exact .val (wantg rfl (by kernel_rfl) eg) rfl (by simp [Act.eval, e6, go_sem]) (Keeps.is rfl)
    · intro a w hb h
      have eg := (sw h 53 (by kernel_rfl) (by kernel_rfl)).eq
      have e54 := (sw h 54 (by kernel_rfl) (by kernel_rfl)).eq
      exact .val (wantg rfl (by kernel_rfl) eg) rfl (by simp [Act.eval, e54, go_sem]) (Keeps.is rfl)
    · intro a w hb h
      have eg := (sw h 53 (by kernel_rfl) (by kernel_rfl)).eq
      have e55 := (sw h 55 (by kernel_rfl) (by kernel_rfl)).eq
      exact .val (wantg rfl (by kernel_rfl) eg) rfl (by simp [Act.eval, e55, go_sem]) (Keeps.is rfl)
    · intro a w hb h
      have eg := (sw h 53 (by kernel_rfl) (by kernel_rfl)).eq
      have e56 := (sw h 56 (by kernel_rfl) (by kernel_rfl)).eq
      have hS := HS.out.next hb
      have r0 : w.cell? ⟨g, 2, none⟩ = some (.int .i64 3) := hS.row 2 _ rfl
      have r1 : w.cell? ⟨g, 3, none⟩ = some (.int .i64 0) := hS.row 3 _ rfl
      have r2 : w.cell? ⟨g, 4, none⟩ = some (.int .i64 1) := hS.row 4 _ rfl
      have r3 : w.cell? ⟨g, 5, none⟩ = some (.int .u64 0) := hS.row 5 _ rfl
      have r4 : w.cell? ⟨g, 6, none⟩ = some (.int .u64 0) := hS.row 6 _ rfl
      have r5 : w.cell? ⟨g, 7, none⟩ = some (.int .i64 3) := hS.row 7 _ rfl
      have r6 : w.cell? ⟨g, 8, none⟩ = some (.int .i64 1) := hS.row 8 _ rfl
      exact .val (wantg rfl (by kernel_rfl) eg) rfl (by simp [Act.eval, e56, r0, r1, r2, r3, r4, r5, r6, go_sem]) (Keeps.is rfl)
    · intro a w hb h
      have eg := (sw h 53 (by kernel_rfl) (by kernel_rfl)).eq
      have e8 : a.tmps.getD 8 undef = .pointer (some ⟨hk, 0, none⟩) := sb h 8 (by kernel_rfl) (by kernel_rfl) rfl
      have hS := HS.out.next hb
      have h0 : w.cell? ⟨hk, 0, none⟩ = some (.int .i64 3) := hS.box.c 0 _ rfl
      have h1 : w.cell? ⟨hk, 1, none⟩ = some (.int .i64 0) := hS.box.c 1 _ rfl
      have h2 : w.cell? ⟨hk, 2, none⟩ = some (.int .i64 1) := hS.box.c 2 _ rfl
      have h3 : w.cell? ⟨hk, 3, none⟩ = some (.int .u64 0) := hS.box.c 3 _ rfl
      have h4 : w.cell? ⟨hk, 4, none⟩ = some (.int .u64 0) := hS.box.c 4 _ rfl
      have h5 : w.cell? ⟨hk, 5, none⟩ = some (.int .i64 3) := hS.box.c 5 _ rfl
      have h6 : w.cell? ⟨hk, 6, none⟩ = some (.int .i64 1) := hS.box.c 6 _ rfl
      exact .val (wantg rfl (by kernel_rfl) eg) rfl (by simp [Act.eval, e8, h0, h1, h2, h3, h4, h5, h6, go_sem]) (Keeps.is rfl)
    · intro a w hb h
      have eg := (sw h 53 (by kernel_rfl) (by kernel_rfl)).eq
      have e57 := (sw h 57 (by kernel_rfl) (by kernel_rfl)).eq
      have e58 := (sw h 58 (by kernel_rfl) (by kernel_rfl)).eq
      exact .val (wantg rfl (by kernel_rfl) eg) rfl (by simp [Act.eval, e57, e58, go_sem]) (Keeps.is rfl)
    · intro a w hb h
      have e53 := (sw h 53 (by kernel_rfl) (by kernel_rfl)).eq
      have e59 := (sw h 59 (by kernel_rfl) (by kernel_rfl)).eq
      exact .val (want0 rfl) rfl (by simp [Act.eval, e53, e59, go_sem]) (Keeps.is rfl)
    · intro a w hb h
      have e60 := (sw h 60 (by kernel_rfl) (by kernel_rfl)).eq
      exact .val (want0 rfl) rfl (by simp [Act.eval, e60, go_sem]) (Keeps.is rfl)
    · intro a w hb h
      have eg := (sw h 61 (by kernel_rfl) (by kernel_rfl)).eq
      have e8 : a.tmps.getD 8 undef = .pointer (some ⟨hk, 0, none⟩) := sb h 8 (by kernel_rfl) (by kernel_rfl) rfl
      exact .val (wantg rfl (by kernel_rfl) eg) rfl (by simp [Act.eval, e8, go_sem]) (Keeps.is rfl)
    · intro a w hb h
      have eg := (sw h 61 (by kernel_rfl) (by kernel_rfl)).eq
      have e62 := (sw h 62 (by kernel_rfl) (by kernel_rfl)).eq
      have hS := HS.out.next hb
      have h5 : w.cell? ⟨hk, 5, none⟩ = some (.int .i64 3) := hS.box.c 5 _ rfl
      exact .val (wantg rfl (by kernel_rfl) eg) rfl (by simp [Act.eval, e62, h5, go_sem]) (Keeps.is rfl)
    · intro a w hb h
      have eg := (sw h 61 (by kernel_rfl) (by kernel_rfl)).eq
      have e63 := (sw h 63 (by kernel_rfl) (by kernel_rfl)).eq
      exact .val (wantg rfl (by kernel_rfl) eg) rfl (by simp [Act.eval, e63, go_sem]) (Keeps.is rfl)
    · intro a w hb h
      have e61 := (sw h 61 (by kernel_rfl) (by kernel_rfl)).eq
      have e64 := (sw h 64 (by kernel_rfl) (by kernel_rfl)).eq
      exact .val (want0 rfl) rfl (by simp [Act.eval, e61, e64, go_sem]) (Keeps.is rfl)
    · intro a w hb h
      have e65 := (sw h 65 (by kernel_rfl) (by kernel_rfl)).eq
      exact .val (want0 rfl) rfl (by simp [Act.eval, e65, go_sem]) (Keeps.is rfl)
    · intro a w hb h
      have eg := (sw h 66 (by kernel_rfl) (by kernel_rfl)).eq
      have e9 : a.tmps.getD 9 undef = .string ⟨#[120]⟩ := sb h 9 (by kernel_rfl) (by kernel_rfl) rfl
      exact .val (wantg rfl (by kernel_rfl) eg) rfl (by simp [Act.eval, e9, go_sem]) (Keeps.is rfl)
    · intro a w hb h
      have eg := (sw h 66 (by kernel_rfl) (by kernel_rfl)).eq
      have e67 := (sw h 67 (by kernel_rfl) (by kernel_rfl)).eq
      exact .val (wantg rfl (by kernel_rfl) eg) rfl (by simp [Act.eval, e67, go_sem]) (Keeps.is rfl)
    · intro a w hb h
      have e66 := (sw h 66 (by kernel_rfl) (by kernel_rfl)).eq
      have e68 := (sw h 68 (by kernel_rfl) (by kernel_rfl)).eq
      exact .val (want0 rfl) rfl (by simp [Act.eval, e66, e68, go_sem]) (Keeps.is rfl)
    · intro a w hb h
      have e69 := (sw h 69 (by kernel_rfl) (by kernel_rfl)).eq
      exact .val (want0 rfl) rfl (by simp [Act.eval, e69, go_sem]) (Keeps.is rfl)
    · intro a w hb h
      have eg := (sw h 70 (by kernel_rfl) (by kernel_rfl)).eq
      have e1 : a.tmps.getD 1 undef = .pointer (some ⟨k, 0, none⟩) := sb h 1 (by kernel_rfl) (by kernel_rfl) rfl
      exact .val (wantg rfl (by kernel_rfl) eg) rfl (by simp [Act.eval, e1, go_sem]) (Keeps.is rfl)
    · intro a w hb h
      have eg := (sw h 70 (by kernel_rfl) (by kernel_rfl)).eq
      have e71 := (sw h 71 (by kernel_rfl) (by kernel_rfl)).eq
      have hS := HS.out.next hb
      exact .called (wantg rfl (by kernel_rfl) eg) rfl (by simp [Act.eval, e71, go_sem]) (belowF hS.blank2)
    · intro a w hb h
      have eg := (sw h 70 (by kernel_rfl) (by kernel_rfl)).eq
      have e72 := (sw h 72 (by kernel_rfl) (by kernel_rfl)).eq
      exact .val (wantg rfl (by kernel_rfl) eg) rfl (by simp [Act.eval, e72, go_sem]) (Keeps.is rfl)
    · intro a w hb h
      have e70 := (sw h 70 (by kernel_rfl) (by kernel_rfl)).eq
      have e73 := (sw h 73 (by kernel_rfl) (by kernel_rfl)).eq
      exact .val (want0 rfl) rfl (by simp [Act.eval, e70, e73, go_sem]) (Keeps.is rfl)
    · intro a w hb h
      have e74 := (sw h 74 (by kernel_rfl) (by kernel_rfl)).eq
      exact .val (want0 rfl) rfl (by simp [Act.eval, e74, go_sem]) (Keeps.is rfl)
    · intro a w hb h
      have eg := (sw h 75 (by kernel_rfl) (by kernel_rfl)).eq
      have e1 : a.tmps.getD 1 undef = .pointer (some ⟨k, 0, none⟩) := sb h 1 (by kernel_rfl) (by kernel_rfl) rfl
      exact .val (wantg rfl (by kernel_rfl) eg) rfl (by simp [Act.eval, e1, go_sem]) (Keeps.is rfl)
    · intro a w hb h
      have eg := (sw h 75 (by kernel_rfl) (by kernel_rfl)).eq
      have e76 := (sw h 76 (by kernel_rfl) (by kernel_rfl)).eq
      have hS := HS.out.next hb
      exact .called (wantg rfl (by kernel_rfl) eg) rfl (by simp [Act.eval, e76, go_sem]) (belowF hS.blank3)
    · intro a w hb h
      have e75 := (sw h 75 (by kernel_rfl) (by kernel_rfl)).eq
      have e77 := (sw h 77 (by kernel_rfl) (by kernel_rfl)).eq
      exact .val (want0 rfl) rfl (by simp [Act.eval, e75, e77, go_sem]) (Keeps.is rfl)
    · intro a w hb h
      have e78 := (sw h 78 (by kernel_rfl) (by kernel_rfl)).eq
      exact .val (want0 rfl) rfl (by simp [Act.eval, e78, go_sem]) (Keeps.is rfl)
    · intro a w hb h
      have eg := (sw h 79 (by kernel_rfl) (by kernel_rfl)).eq
      have e1 : a.tmps.getD 1 undef = .pointer (some ⟨k, 0, none⟩) := sb h 1 (by kernel_rfl) (by kernel_rfl) rfl
      exact .val (wantg rfl (by kernel_rfl) eg) rfl (by simp [Act.eval, e1, go_sem]) (Keeps.is rfl)
    · intro a w hb h
      have eg := (sw h 79 (by kernel_rfl) (by kernel_rfl)).eq
      have e80 := (sw h 80 (by kernel_rfl) (by kernel_rfl)).eq
      have hS := HS.out.next hb
      exact .called (wantg rfl (by kernel_rfl) eg) rfl (by simp [Act.eval, e80, go_sem]) (RowI.made hS.blocks)
    · intro a w hb h
      have eg := (sw h 79 (by kernel_rfl) (by kernel_rfl)).eq
      exact .made (v := .slice (some ⟨w.heap.size, 0, none⟩) 5 5) (w' := w.alloc (.cells #[.int .i64 2, .int .i64 3, .int .i64 5, .int .i64 6, .int .i64 7] 3)) (wantg rfl (by kernel_rfl) eg) rfl (by simp [go_sem]) ((Below.refl _ _).alloc (Nat.le_refl _) _) (RowI.new w [2, 3, 5, 6, 7])
    · intro a w hb h
      have eg := (sw h 79 (by kernel_rfl) (by kernel_rfl)).eq
      have e81 := sw h 81 (by kernel_rfl) (by kernel_rfl)
      have e82 := sw h 82 (by kernel_rfl) (by kernel_rfl)
      obtain ⟨A1, c1, f1, L1⟩ := e81.now
      obtain ⟨A2, c2, f2, L2⟩ := e82.now
      have g1 : a.tmps[81]?.getD undef = _ := (by simpa using f1)
      have g2 : a.tmps[82]?.getD undef = _ := (by simpa using f2)
      exact .called (wantg rfl (by kernel_rfl) eg) rfl (by simp [Act.eval, g1, g2, go_sem]) (belowF (ints_same A1 A2 5 c1 c2 w.heap.size [2, 3, 5, 6, 7] w L1 L2 rfl (by decide) (Nat.le_refl _)))
    · intro a w hb h
      have e79 := (sw h 79 (by kernel_rfl) (by kernel_rfl)).eq
      have e83 := (sw h 83 (by kernel_rfl) (by kernel_rfl)).eq
      exact .val (want0 rfl) rfl (by simp [Act.eval, e79, e83, go_sem]) (Keeps.is rfl)
    · intro a w hb h
      have e84 := (sw h 84 (by kernel_rfl) (by kernel_rfl)).eq
      exact .val (want0 rfl) rfl (by simp [Act.eval, e84, go_sem]) (Keeps.is rfl)
    · intro a w hb h
      have eg := (sw h 85 (by kernel_rfl) (by kernel_rfl)).eq
      have e1 : a.tmps.getD 1 undef = .pointer (some ⟨k, 0, none⟩) := sb h 1 (by kernel_rfl) (by kernel_rfl) rfl
      exact .val (wantg rfl (by kernel_rfl) eg) rfl (by simp [Act.eval, e1, go_sem]) (Keeps.is rfl)
    · intro a w hb h
      have eg := (sw h 85 (by kernel_rfl) (by kernel_rfl)).eq
      have e86 := (sw h 86 (by kernel_rfl) (by kernel_rfl)).eq
      have hS := HS.out.next hb
      exact .called (wantg rfl (by kernel_rfl) eg) rfl (by simp [Act.eval, e86, go_sem]) (RowI.made hS.marked)
    · intro a w hb h
      have eg := (sw h 85 (by kernel_rfl) (by kernel_rfl)).eq
      exact .made (v := .slice (some ⟨w.heap.size, 0, none⟩) 1 1) (w' := w.alloc (.cells #[.int .i64 4] 3)) (wantg rfl (by kernel_rfl) eg) rfl (by simp [go_sem]) ((Below.refl _ _).alloc (Nat.le_refl _) _) (RowI.new w [4])
    · intro a w hb h
      have eg := (sw h 85 (by kernel_rfl) (by kernel_rfl)).eq
      have e87 := sw h 87 (by kernel_rfl) (by kernel_rfl)
      have e88 := sw h 88 (by kernel_rfl) (by kernel_rfl)
      obtain ⟨A1, c1, f1, L1⟩ := e87.now
      obtain ⟨A2, c2, f2, L2⟩ := e88.now
      have g1 : a.tmps[87]?.getD undef = _ := (by simpa using f1)
      have g2 : a.tmps[88]?.getD undef = _ := (by simpa using f2)
      exact .called (wantg rfl (by kernel_rfl) eg) rfl (by simp [Act.eval, g1, g2, go_sem]) (belowF (ints_same A1 A2 1 c1 c2 w.heap.size [4] w L1 L2 rfl (by decide) (Nat.le_refl _)))
    · intro a w hb h
      have e85 := (sw h 85 (by kernel_rfl) (by kernel_rfl)).eq
      have e89 := (sw h 89 (by kernel_rfl) (by kernel_rfl)).eq
      exact .val (want0 rfl) rfl (by simp [Act.eval, e85, e89, go_sem]) (Keeps.is rfl)
    · intro a w hb h
      have e90 := (sw h 90 (by kernel_rfl) (by kernel_rfl)).eq
      exact .val (want0 rfl) rfl (by simp [Act.eval, e90, go_sem]) (Keeps.is rfl)
  · intro a w2 hd hb hv
    have er := hv.eq
    clear hv
    simp only [Exit.then]
    go_wp2
    exact ⟨hd, _, results_tmp rfl _ _ _, by rw [er], Hb1.out.trans (hb.mono Hb1.out.size)⟩
end Go.Proofs.Ytahipfmokbiklaa
