/-
  CONTRACT of the page statements' awake.
-/
import Derived.Test.YtppecnimpnlipaaPgG
import Derived.Test.YtppecnimpnlipaaRef2o
namespace Go.Proofs.Ytppecnimpnlipaa
open Go.RowKit

def awkH : Hd := ⟨3, 1, 2, 7, 3, 5, 2⟩
def awkB : List UInt8 := pageB awkH [97, 98]
theorem awkB_get : getR awkB = (awkH, [97, 98], 0) := by
  have hm : awkH.May := by decide
  have h1 : classN awkB = 1 := class_page awkH [97, 98] hm rfl
  obtain ⟨h2, h3⟩ := page_back awkH [97, 98] hm rfl
  unfold getR
  rw [if_neg (by omega), if_pos h1]
  show (headOf (pageB awkH [97, 98]), dataOf (pageB awkH [97, 98]), (0 : Int)) = _
  rw [h2, h3]
theorem class_other (b : List UInt8) (h256 : b.length ≠ 256) : classN b = 2 := by
  unfold classN
  rw [if_neg (fun h => h256 (by rw [h, List.length_replicate])), if_neg]
  intro h
  unfold rightB at h
  rw [decide_eq_true_eq] at h
  exact h256 h.1
set_option maxRecDepth 4000 in
set_option maxHeartbeats 4000000 in
theorem awake15_any (w : World) : Calls Try.prog 23 #[] w fun e w' => e = .returned (.bool true) ∧ Below w.heap.size w w' := by
  have FP : Hid (∀ W, Calls Try.prog 24 #[.agg #[.int .i64 3, .int .i64 1, .int .i64 2, .int .u64 7, .int .u64 3, .int .i64 5, .int .i64 2], .string ⟨#[97, 98]⟩] W fun e w' => ∃ A' c', e = .returned (.tuple #[.slice A' 256 c', .int .i64 0]) ∧ w'.ownsRow W.heap.size 5 1 (.slice A' 256 c') 256 (bys awkB) ∧ Below W.heap.size W w') :=
    hide (fun W => pput_ok awkH [97, 98] W (by decide) rfl)
  have hlen : awkB.length = 256 := pageB_len _ _ (by decide)
  have FG : Hid (∀ A c W, Lies W W.heap.size A (bys awkB) → 256 ≤ c → Calls Try.prog 27 #[.slice A 256 c] W fun e w' => e = .returned (.tuple #[.agg #[.int .i64 3, .int .i64 1, .int .i64 2, .int .u64 7, .int .u64 3, .int .i64 5, .int .i64 2], .string ⟨#[97, 98]⟩, .int .i64 0]) ∧ Below W.heap.size W w') :=
    hide (fun A c W hl hc => by
      have := pget_any A 256 c W.heap.size awkB W hl hlen.symm hc (Nat.le_refl _)
      rw [awkB_get] at this
      exact this)
  have FC : Hid (∀ A c W, Lies W W.heap.size A (bys awkB) → 256 ≤ c → Calls Try.prog 29 #[.slice A 256 c] W fun e w' => e = .returned (.int .i64 1) ∧ Below W.heap.size W w') :=
    hide (fun A c W hl hc => by
      have := pclass_any A 256 c W.heap.size awkB W hl hlen.symm hc (Nat.le_refl _)
      rw [show classN awkB = 1 from class_page awkH [97, 98] (by decide) rfl] at this
      exact this)
  have FO : Hid (∀ W, Calls Try.prog 32 #[.int .i64 256] W fun e w' => ∃ A' c', e = .returned (.slice A' 256 c') ∧ w'.ownsRow W.heap.size 5 1 (.slice A' 256 c') 256 (bys (List.replicate 256 255)) ∧ Below W.heap.size W w') := hide (fun W => ones2_any 256 W (by omega))
  have FC0 : Hid (∀ A c W, Lies W W.heap.size A (bys (List.replicate 256 255)) → 256 ≤ c → Calls Try.prog 29 #[.slice A 256 c] W fun e w' => e = .returned (.int .i64 0) ∧ Below W.heap.size W w') :=
    hide (fun A c W hl hc => by
      have := pclass_any A 256 c W.heap.size (List.replicate 256 255) W hl (by rw [List.length_replicate]) hc (Nat.le_refl _)
      rw [show classN (List.replicate 256 255) = 0 by unfold classN; rw [if_pos rfl]] at this
      exact this)
  have FC9 : Hid (∀ A c W, Lies W W.heap.size A (bys awkB) → 256 ≤ c → Calls Try.prog 29 #[.slice A 9 c] W fun e w' => e = .returned (.int .i64 2) ∧ Below W.heap.size W w') :=
    hide (fun A c W hl hc => by
      have hl2 : ((awkB.take 9).length) = 9 := by rw [List.length_take, hlen]; rfl
      have := pclass_any A 9 c W.heap.size (awkB.take 9) W (by rw [bys_take]; exact hl.take 9) hl2.symm (by omega) (Nat.le_refl _)
      rw [class_other _ (by rw [hl2]; decide)] at this
      exact this)
  have hb1 := (Below.refl w.heap.size w).alloc (Nat.le_refl _) (.cells #[.int .i64 3, .int .i64 1, .int .i64 2, .int .u64 7, .int .u64 3, .int .i64 5, .int .i64 2] 57)
  have hx1 : BoxH awkH w.heap.size (w.alloc (.cells #[.int .i64 3, .int .i64 1, .int .i64 2, .int .u64 7, .int .u64 3, .int .i64 5, .int .i64 2] 57)) := heap_alloc_new w _
  have HB := hide hb1
  have HX := hide hx1
  clear hb1 hx1 hlen
  go_enter Try.func23, Try.ntmps23
  go_wp2_with fail
  (with_reducible refine (FP.out _).mono ?_)
  rintro e w2 ⟨A2, c2, rfl, ho, hb⟩
  have hc2 : 256 ≤ c2 := by obtain ⟨_, _, h1, h2, _⟩ := own_form ho; injection h1 with _ _ h3; omega
  have HL := hide (Lies.of_own ho)
  have HB2 := hide (HB.out.trans (hb.mono HB.out.size))
  have HX2 := hide (HX.out.below hb HX.out.lt)
  have HC := hide hc2
  have i9 : (9 : Int) ≤ (c2 : Int) := by omega
  clear ho hb HB HX hc2 FP
  go_wp2_with fail
  (with_reducible refine (FG.out _ _ _ HL.out HC.out).mono ?_)
  rintro e w3 ⟨rfl, hb⟩
  have hb3 := HB2.out.trans (hb.mono HB2.out.size)
  have hl3 := (HL.out.below hb).up hb.size
  have hx3 := HX2.out.below hb HX2.out.lt
  have hb4 : Below w3.heap.size w3 (w3.alloc (.cells #[.int .i64 3, .int .i64 1, .int .i64 2, .int .u64 7, .int .u64 3, .int .i64 5, .int .i64 2] 57)) := (Below.refl _ _).alloc (Nat.le_refl _) _
  have HX4 := hide (hx3.below hb4 hx3.lt)
  have HY4 : Hid (BoxH awkH w3.heap.size (w3.alloc (.cells #[.int .i64 3, .int .i64 1, .int .i64 2, .int .u64 7, .int .u64 3, .int .i64 5, .int .i64 2] 57))) := hide (heap_alloc_new w3 _)
  have HB4 := hide (hb3.trans (hb4.mono hb3.size))
  have HL4 := hide ((hl3.below hb4).up hb4.size)
  clear hb hb3 hl3 hx3 hb4 HB2 HX2 HL FG
  go_upto_region 4 with fail
  generalize hw4 : w3.alloc (.cells #[.int .i64 3, .int .i64 1, .int .i64 2, .int .u64 7, .int .u64 3, .int .i64 5, .int .i64 2] 57) = w4 at *
  clear hw4
  generalize w3.heap.size = hk at *
  have a0 : w4.cell? ⟨hk, 0, none⟩ = some (.int .i64 3) := HY4.out.c 0 _ rfl
  have z0 : w4.cell? ⟨w.heap.size, 0, none⟩ = some (.int .i64 3) := HX4.out.c 0 _ rfl
  have a1 : w4.cell? ⟨hk, 1, none⟩ = some (.int .i64 1) := HY4.out.c 1 _ rfl
  have z1 : w4.cell? ⟨w.heap.size, 1, none⟩ = some (.int .i64 1) := HX4.out.c 1 _ rfl
  have a2 : w4.cell? ⟨hk, 2, none⟩ = some (.int .i64 2) := HY4.out.c 2 _ rfl
  have z2 : w4.cell? ⟨w.heap.size, 2, none⟩ = some (.int .i64 2) := HX4.out.c 2 _ rfl
  have a3 : w4.cell? ⟨hk, 3, none⟩ = some (.int .u64 7) := HY4.out.c 3 _ rfl
  have z3 : w4.cell? ⟨w.heap.size, 3, none⟩ = some (.int .u64 7) := HX4.out.c 3 _ rfl
  have a4 : w4.cell? ⟨hk, 4, none⟩ = some (.int .u64 3) := HY4.out.c 4 _ rfl
  have z4 : w4.cell? ⟨w.heap.size, 4, none⟩ = some (.int .u64 3) := HX4.out.c 4 _ rfl
  have a5 : w4.cell? ⟨hk, 5, none⟩ = some (.int .i64 5) := HY4.out.c 5 _ rfl
  have z5 : w4.cell? ⟨w.heap.size, 5, none⟩ = some (.int .i64 5) := HX4.out.c 5 _ rfl
  have a6 : w4.cell? ⟨hk, 6, none⟩ = some (.int .i64 2) := HY4.out.c 6 _ rfl
  have z6 : w4.cell? ⟨w.heap.size, 6, none⟩ = some (.int .i64 2) := HX4.out.c 6 _ rfl
  go_wp2_with fail
  clear a0 a1 a2 a3 a4 a5 a6 z0 z1 z2 z3 z4 z5 z6 HX4 HY4
  (with_reducible refine (FO.out _).mono ?_)
  rintro e w5 ⟨A5, c5, rfl, ho, hb⟩
  have hc5 : 256 ≤ c5 := by obtain ⟨_, _, h1, h2, _⟩ := own_form ho; injection h1 with _ _ h3; omega
  have HC5 := hide hc5
  have HL5 := hide (Lies.of_own ho)
  have HB5 := hide (HB4.out.trans (hb.mono HB4.out.size))
  have HL6 := hide ((HL4.out.below hb).up hb.size)
  clear ho hb hc5 HB4 HL4 FO
  go_wp2_with fail
  (with_reducible refine (FC0.out _ _ _ HL5.out HC5.out).mono ?_)
  rintro e w6 ⟨rfl, hb⟩
  have HB6 := hide (HB5.out.trans (hb.mono HB5.out.size))
  have HL7 := hide ((HL6.out.below hb).up hb.size)
  clear hb HB5 HL6 HL5 FC0
  go_wp2_with fail
  (with_reducible refine (FC.out _ _ _ HL7.out HC.out).mono ?_)
  rintro e w7 ⟨rfl, hb⟩
  have HB7 := hide (HB6.out.trans (hb.mono HB6.out.size))
  have HL8 := hide ((HL7.out.below hb).up hb.size)
  clear hb HB6 HL7 FC
  go_wp2_with fail
  (with_reducible refine (FC9.out _ _ _ HL8.out HC.out).mono ?_)
  rintro e w8 ⟨rfl, hb⟩
  have HB8 := hide (HB7.out.trans (hb.mono HB7.out.size))
  clear hb HB7 HL8 FC9
  go_wp2
  go_ret
  exact ⟨rfl, HB8.out⟩
end Go.Proofs.Ytppecnimpnlipaa
