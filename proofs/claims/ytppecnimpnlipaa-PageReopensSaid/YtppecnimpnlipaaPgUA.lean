/-
  The walk of PageReopens: a blank page, a whole page. (By gen/PgU.gen.py.)
-/
import Derived.Test.YtppecnimpnlipaaPgU
namespace Go.Proofs.Ytppecnimpnlipaa
open Go.RowKit

set_option maxRecDepth 60000 in
set_option maxHeartbeats 8000000 in
theorem reopens_0n_m0 (h : Hd) (dt : List UInt8) (opn : Nat) (A : Option Addr) (n c : Nat) (b : List UInt8) (w : World) (hl : Lies w w.heap.size A (bys b)) (hn : n = b.length) (hc : n ≤ c) (hsm : n ≤ 300) (hk : classN b = 0) (hne : n ≠ 252) (hm : ¬ h.May) :
    Calls Try.prog 7 #[.agg (fourC h dt opn A n c).toArray] w fun e w' => e = .returned (.bool true) ∧ Below w.heap.size w w' := by
  have h4 : ¬ (300 : Int) < (n : Int) := by omega
  have HL := hide hl
  have Hn := hide hn
  have Hc := hide hc
  have hs := fun W (hW : Below w.heap.size w W) => strU8 c (hl.below hW) hn
  have FO : Hid (∀ W, Calls Try.prog 32 #[.int .i64 256] W fun e w' => ∃ A' c', e = .returned (.slice A' 256 c') ∧ w'.ownsRow W.heap.size 5 1 (.slice A' 256 c') 256 (bys (List.replicate 256 255)) ∧ Below W.heap.size W w') := hide (fun W => ones2_any 256 W (by omega))
  obtain ⟨r, hrep⟩ : ∃ r : List UInt8, Hid (r = List.replicate 256 255) := ⟨_, hide rfl⟩
  have hrl : Hid (r.length = 256) := hide (by rw [hrep.out, List.length_replicate])
  have hr0 : Hid (classN r = 0) := hide (by unfold classN; rw [if_pos hrep.out])
  rw [← hrep.out] at FO
  have F5 := fun W => class15_any b W (by omega)
  rw [hk] at F5
  have F5 : Hid (∀ W, Calls Try.prog 30 #[.string (str b)] W fun e w' => e = .returned (.int .i64 0) ∧ Below W.heap.size W w') := hide F5
  have HK := hide hk
  have Hs := hide hs
  clear hl hn hc hk hs hrep hsm
  have Hne := hide hne
  have e1 : ¬ (n : Int) = 252 := by omega
  have e2 : ((n : Int) == 252) = false := by rw [beq_eq_false_iff_ne]; omega
  have e3 : ((n : Int) != 252) = true := by rw [bne_iff_ne]; omega
  clear hne
  have Fm := fun W => may15_any h W
  rw [decide_eq_false hm] at Fm
  have Fm := hide Fm
  clear hm
  rcases h with ⟨kd, ix, ct, bt, op, lp, ln⟩
  have hx1 := heap_alloc_new w (.cells #[.int .i64 kd, .int .i64 ix, .int .i64 ct, .int .u64 (bt : Int), .int .u64 (op : Int), .int .i64 lp, .int .i64 ln, .string (str dt), .int .u64 (opn : Int), .slice A n c] 77)
  have hb1 := (Below.refl w.heap.size w).alloc (Nat.le_refl _) (.cells #[.int .i64 kd, .int .i64 ix, .int .i64 ct, .int .u64 (bt : Int), .int .u64 (op : Int), .int .i64 lp, .int .i64 ln, .string (str dt), .int .u64 (opn : Int), .slice A n c] 77)
  have hs1 : w.heap.size < (w.alloc (.cells #[.int .i64 kd, .int .i64 ix, .int .i64 ct, .int .u64 (bt : Int), .int .u64 (op : Int), .int .i64 lp, .int .i64 ln, .string (str dt), .int .u64 (opn : Int), .slice A n c] 77)).heap.size := by simp
  unfold fourC at *
  unfold Hd.cells at *
  try unfold Hd.val at *
  simp only [List.cons_append, List.nil_append] at *
  have HX1 := hide hx1
  have HB1 := hide hb1
  have Hg := hide hs1
  clear hx1 hb1 hs1
  go_enter Try.func7, Try.ntmps7
  go_upto_region 1 with fail
  generalize w.alloc (.cells #[.int .i64 kd, .int .i64 ix, .int .i64 ct, .int .u64 (bt : Int), .int .u64 (op : Int), .int .i64 lp, .int .i64 ln, .string (str dt), .int .u64 (opn : Int), .slice A n c] 77) = w1 at *
  have c0 : w1.cell? ⟨w.heap.size, 0, none⟩ = some (.int .i64 kd) := World.news_of_block HX1.out 0 _ rfl
  have c1 : w1.cell? ⟨w.heap.size, 1, none⟩ = some (.int .i64 ix) := World.news_of_block HX1.out 1 _ rfl
  have c2 : w1.cell? ⟨w.heap.size, 2, none⟩ = some (.int .i64 ct) := World.news_of_block HX1.out 2 _ rfl
  have c3 : w1.cell? ⟨w.heap.size, 3, none⟩ = some (.int .u64 (bt : Int)) := World.news_of_block HX1.out 3 _ rfl
  have c4 : w1.cell? ⟨w.heap.size, 4, none⟩ = some (.int .u64 (op : Int)) := World.news_of_block HX1.out 4 _ rfl
  have c5 : w1.cell? ⟨w.heap.size, 5, none⟩ = some (.int .i64 lp) := World.news_of_block HX1.out 5 _ rfl
  have c6 : w1.cell? ⟨w.heap.size, 6, none⟩ = some (.int .i64 ln) := World.news_of_block HX1.out 6 _ rfl
  have c7 : w1.cell? ⟨w.heap.size, 7, none⟩ = some (.string (str dt)) := World.news_of_block HX1.out 7 _ rfl
  have c8 : w1.cell? ⟨w.heap.size, 8, none⟩ = some (.int .u64 (opn : Int)) := World.news_of_block HX1.out 8 _ rfl
  have c9 : w1.cell? ⟨w.heap.size, 9, none⟩ = some (.slice A n c) := World.news_of_block HX1.out 9 _ rfl
  refine Big.wp_region_big (by kernel_rfl) (fun d v => match d with | 17 => v = .pointer (some ⟨w.heap.size, 0, none⟩) | 18 => v = .agg #[.int .i64 kd, .int .i64 ix, .int .i64 ct, .int .u64 (bt : Int), .int .u64 (op : Int), .int .i64 lp, .int .i64 ln] | 19 => v = .pointer (some ⟨w.heap.size, 7, none⟩) | 20 => v = .string (str dt) | 21 => v = .pointer (some ⟨w.heap.size, 8, none⟩) | 22 => v = .int .u64 (opn : Int) | 23 => v = .pointer (some ⟨w.heap.size, 9, none⟩) | 24 => v = .slice A n c | 3 => ∃ k, v = .pointer (some ⟨k, 0, none⟩) | 4 => v = .string (str dt) | 5 => v = .int .u64 (opn : Int) | 6 => v = .slice A n c | _ => True) (PhiP w1 ⟨kd, ix, ct, bt, op, lp, ln⟩) [8, 9] [3] (by kernel_rfl) (by kernel_rfl) (by decide) (PhiP.loc _ _) (Or.inl ⟨rfl, (Below.refl _ _).drew⟩) ⟨?_, ?_, ?_, ?_, ?_, ?_, ?_, ?_, ?_, ?_, ?_, ?_, ?_, trivial⟩ ?_
  · refine Big.small (by decide) ?_
    intro i' a' w' hi' hΦ h'
    have hb' := hΦ.below
    have e1 : a'.tmps.getD 1 undef = .pointer (some ⟨w.heap.size, 0, none⟩) := Big.sb h' 1 (by kernel_rfl) (by kernel_rfl) rfl
    exact .val (want0 rfl) rfl (by simp [Act.eval, e1, go_sem]) rfl
  · refine Big.small (by decide) ?_
    intro i' a' w' hi' hΦ h'
    have hb' := hΦ.below
    have q0 := (hb'.cell (p := ⟨w.heap.size, 0, none⟩) Hg.out).trans c0
    have q1 := (hb'.cell (p := ⟨w.heap.size, 1, none⟩) Hg.out).trans c1
    have q2 := (hb'.cell (p := ⟨w.heap.size, 2, none⟩) Hg.out).trans c2
    have q3 := (hb'.cell (p := ⟨w.heap.size, 3, none⟩) Hg.out).trans c3
    have q4 := (hb'.cell (p := ⟨w.heap.size, 4, none⟩) Hg.out).trans c4
    have q5 := (hb'.cell (p := ⟨w.heap.size, 5, none⟩) Hg.out).trans c5
    have q6 := (hb'.cell (p := ⟨w.heap.size, 6, none⟩) Hg.out).trans c6
    have e17 : a'.tmps.getD 17 undef = .pointer (some ⟨w.heap.size, 0, none⟩) := Big.sw h' 17 (by kernel_rfl) (by kernel_rfl)
    exact .val (want0 rfl) rfl (by simp [Act.eval, e17, q0, q1, q2, q3, q4, q5, q6, go_sem]) rfl
  · refine Big.small (by decide) ?_
    intro i' a' w' hi' hΦ h'
    have hb' := hΦ.below
    have e1 : a'.tmps.getD 1 undef = .pointer (some ⟨w.heap.size, 0, none⟩) := Big.sb h' 1 (by kernel_rfl) (by kernel_rfl) rfl
    exact .val (want0 rfl) rfl (by simp [Act.eval, e1, go_sem]) rfl
  · refine Big.small (by decide) ?_
    intro i' a' w' hi' hΦ h'
    have hb' := hΦ.below
    have q7 := (hb'.cell (p := ⟨w.heap.size, 7, none⟩) Hg.out).trans c7
    have e19 : a'.tmps.getD 19 undef = .pointer (some ⟨w.heap.size, 7, none⟩) := Big.sw h' 19 (by kernel_rfl) (by kernel_rfl)
    exact .val (want0 rfl) rfl (by simp [Act.eval, e19, q7, go_sem]) rfl
  · refine Big.small (by decide) ?_
    intro i' a' w' hi' hΦ h'
    have hb' := hΦ.below
    have e1 : a'.tmps.getD 1 undef = .pointer (some ⟨w.heap.size, 0, none⟩) := Big.sb h' 1 (by kernel_rfl) (by kernel_rfl) rfl
    exact .val (want0 rfl) rfl (by simp [Act.eval, e1, go_sem]) rfl
  · refine Big.small (by decide) ?_
    intro i' a' w' hi' hΦ h'
    have hb' := hΦ.below
    have q8 := (hb'.cell (p := ⟨w.heap.size, 8, none⟩) Hg.out).trans c8
    have e21 : a'.tmps.getD 21 undef = .pointer (some ⟨w.heap.size, 8, none⟩) := Big.sw h' 21 (by kernel_rfl) (by kernel_rfl)
    exact .val (want0 rfl) rfl (by simp [Act.eval, e21, q8, go_sem]) rfl
  · refine Big.small (by decide) ?_
    intro i' a' w' hi' hΦ h'
    have hb' := hΦ.below
    have e1 : a'.tmps.getD 1 undef = .pointer (some ⟨w.heap.size, 0, none⟩) := Big.sb h' 1 (by kernel_rfl) (by kernel_rfl) rfl
    exact .val (want0 rfl) rfl (by simp [Act.eval, e1, go_sem]) rfl
  · refine Big.small (by decide) ?_
    intro i' a' w' hi' hΦ h'
    have hb' := hΦ.below
    have q9 := (hb'.cell (p := ⟨w.heap.size, 9, none⟩) Hg.out).trans c9
    have e23 : a'.tmps.getD 23 undef = .pointer (some ⟨w.heap.size, 9, none⟩) := Big.sw h' 23 (by kernel_rfl) (by kernel_rfl)
    exact .val (want0 rfl) rfl (by simp [Act.eval, e23, q9, go_sem]) rfl
  · refine Big.great (i := 0) rfl (by decide) ?_
    intro a' w' hsz' hΦ h'
    have hb' := hΦ.below
    exact .made (d := 3) (v := .pointer (some ⟨w'.heap.size, 0, none⟩)) (w' := w'.alloc (.cells #[.int .i64 0, .int .i64 0, .int .i64 0, .int .u64 0, .int .u64 0, .int .i64 0, .int .i64 0] 57)) (want0 rfl) rfl (by simp [go_sem]) ⟨_, rfl⟩ (.inr (.inl ⟨rfl, _, Big.slots_put (by rw [hsz']; simp), hb'.size, hb'.alloc hb'.size _, heap_alloc_new w' _⟩))
  · refine Big.great (i := 1) rfl (by decide) ?_
    intro a' w' hsz' hΦ h'
    have e18 : a'.tmps.getD 18 undef = .agg #[.int .i64 kd, .int .i64 ix, .int .i64 ct, .int .u64 (bt : Int), .int .u64 (op : Int), .int .i64 lp, .int .i64 ln] := Big.sw h' 18 (by kernel_rfl) (by kernel_rfl)
    obtain ⟨k, e3, hk, hb', hz⟩ := hΦ.at1
    have e3' : a'.tmps.getD 3 undef = .pointer (some ⟨k, 0, none⟩) := e3
    intro K' Q hK
    rw [if_pos (want0 rfl)]
    exact wp_store_row 57 (.tmp 3) (.tmp 18) rfl k #[.int .i64 kd, .int .i64 ix, .int .i64 ct, .int .u64 (bt : Int), .int .u64 (op : Int), .int .i64 lp, .int .i64 ln] e3' e18 57 _ hz infoHd rfl (by simp [Value.oneCell']) (hK undef _ (fun d hd => by cases hd) (.inr (.inr ⟨Nat.le_refl _, k, e3, hk, setRow_belowP hb' hk _, setRow_heap _ _ _ _ _ _ hz⟩)))
  · refine Big.small (by decide) ?_
    intro i' a' w' hi' hΦ h'
    have hb' := hΦ.below
    have e20 : a'.tmps.getD 20 undef = .string (str dt) := Big.sw h' 20 (by kernel_rfl) (by kernel_rfl)
    exact .val (want0 rfl) rfl (by simp [Act.eval, e20, go_sem]) rfl
  · refine Big.small (by decide) ?_
    intro i' a' w' hi' hΦ h'
    have hb' := hΦ.below
    have e22 : a'.tmps.getD 22 undef = .int .u64 (opn : Int) := Big.sw h' 22 (by kernel_rfl) (by kernel_rfl)
    exact .val (want0 rfl) rfl (by simp [Act.eval, e22, go_sem]) rfl
  · refine Big.small (by decide) ?_
    intro i' a' w' hi' hΦ h'
    have hb' := hΦ.below
    have e24 : a'.tmps.getD 24 undef = .slice A n c := Big.sw h' 24 (by kernel_rfl) (by kernel_rfl)
    exact .val (want0 rfl) rfl (by simp [Act.eval, e24, go_sem]) rfl
  · intro a' w' hdf hsz hwr hkp hΦ
    obtain ⟨k, e3, hk, hb', hz⟩ := hΦ.at2
    have e3' : a'.tmps.getD 3 undef = .pointer (some ⟨k, 0, none⟩) := e3
    have f17 : a'.tmps.getD 17 undef = .pointer (some ⟨w.heap.size, 0, none⟩) := hwr 17 (by kernel_rfl)
    have f18 : a'.tmps.getD 18 undef = .agg #[.int .i64 kd, .int .i64 ix, .int .i64 ct, .int .u64 (bt : Int), .int .u64 (op : Int), .int .i64 lp, .int .i64 ln] := hwr 18 (by kernel_rfl)
    have f19 : a'.tmps.getD 19 undef = .pointer (some ⟨w.heap.size, 7, none⟩) := hwr 19 (by kernel_rfl)
    have f20 : a'.tmps.getD 20 undef = .string (str dt) := hwr 20 (by kernel_rfl)
    have f21 : a'.tmps.getD 21 undef = .pointer (some ⟨w.heap.size, 8, none⟩) := hwr 21 (by kernel_rfl)
    have f22 : a'.tmps.getD 22 undef = .int .u64 (opn : Int) := hwr 22 (by kernel_rfl)
    have f23 : a'.tmps.getD 23 undef = .pointer (some ⟨w.heap.size, 9, none⟩) := hwr 23 (by kernel_rfl)
    have f24 : a'.tmps.getD 24 undef = .slice A n c := hwr 24 (by kernel_rfl)
    have f4 : a'.tmps.getD 4 undef = .string (str dt) := hwr 4 (by kernel_rfl)
    have f5 : a'.tmps.getD 5 undef = .int .u64 (opn : Int) := hwr 5 (by kernel_rfl)
    have f6 : a'.tmps.getD 6 undef = .slice A n c := hwr 6 (by kernel_rfl)
    have hfr := Flo2.frame_eq [(17, .pointer (some ⟨w.heap.size, 0, none⟩)), (18, .agg #[.int .i64 kd, .int .i64 ix, .int .i64 ct, .int .u64 (bt : Int), .int .u64 (op : Int), .int .i64 lp, .int .i64 ln]), (19, .pointer (some ⟨w.heap.size, 7, none⟩)), (20, .string (str dt)), (21, .pointer (some ⟨w.heap.size, 8, none⟩)), (22, .int .u64 (opn : Int)), (23, .pointer (some ⟨w.heap.size, 9, none⟩)), (24, .slice A n c), (3, .pointer (some ⟨k, 0, none⟩)), (4, .string (str dt)), (5, .int .u64 (opn : Int)), (6, .slice A n c)] a'.tmps _ hsz (by
      intro x hx
      simp only [List.mem_cons, List.not_mem_nil, or_false] at hx
      rcases hx with h | h | h | h | h | h | h | h | h | h | h | h <;> subst h
      · exact f17
      · exact f18
      · exact f19
      · exact f20
      · exact f21
      · exact f22
      · exact f23
      · exact f24
      · exact e3'
      · exact f4
      · exact f5
      · exact f6) (fun t ht => hkp t (Flo3.writes_not _ _ (by kernel_rfl) ht))
    have ha := Flo3.act_ext hfr hdf
    have HB2 := hide (HB1.out.trans (hb'.mono HB1.out.size))
    have HX2 := hide (show BoxH ⟨kd, ix, ct, bt, op, lp, ln⟩ k w' from hz)
    clear hfr hwr hkp hsz hdf e3 e3' hz hb' hk hΦ HX1 HB1 Hg c0 c1 c2 c3 c4 c5 c6 c7 c8 c9 f17 f18 f19 f20 f21 f22 f23 f24 f4 f5 f6
    subst ha
    simp only [Flo2.puts, List.foldl_cons, List.foldl_nil, List.setIfInBounds_toArray, List.set, Exit.inBlock, Exit.then]
    generalize w' = w2 at *
    go_wp2_with fail
    (with_reducible refine (FO.out _).mono ?_)
    rintro e w3 ⟨A2, c2, rfl, ho, hb⟩
    have hc2 : 256 ≤ c2 := by obtain ⟨_, _, h1, h2, _⟩ := own_form ho; injection h1 with _ _ h3; omega
    have HC2 := hide hc2
    have HL3 := hide (Lies.of_own ho)
    have HB3 := hide (HB2.out.trans (hb.mono HB2.out.size))
    have HX3 := hide (HX2.out.below hb HX2.out.lt)
    clear ho hb hc2 HB2 HX2
    go_wp2_with fail
    have hb4 := (Below.refl w3.heap.size w3).alloc (Nat.le_refl _) (.cells #[.slice A n c, .slice A2 256 c2] 40)
    have hx4 := heap_alloc_new w3 (.cells #[.slice A n c, .slice A2 256 c2] 40)
    have HB4 := HB3.out.trans (hb4.mono HB3.out.size)
    have hlt4 : w3.heap.size < (w3.alloc (.cells #[.slice A n c, .slice A2 256 c2] 40)).heap.size := by simp
    have FC := pclasses_0 ⟨w3.heap.size, 0, none⟩ 2 A A2 n c 256 c2 b r (w3.alloc (.cells #[.slice A n c, .slice A2 256 c2] 40)) hlt4 (World.news_of_block hx4 0 _ rfl) (World.news_of_block hx4 1 _ rfl) ((HL.out.below HB4).up HB4.size) Hn.out Hc.out ((HL3.out.below hb4).up hb4.size) hrl.out.symm HC2.out HK.out hr0.out
    have HX4 := HX3.out.below hb4 HX3.out.lt
    (with_reducible refine FC.mono ?_)
    rintro e w5 ⟨rfl, hb⟩
    have hb5 := HB4.trans (hb.mono HB4.size)
    have hx5 := HX4.below hb HX4.lt
    have hb6 := (Below.refl w5.heap.size w5).alloc (Nat.le_refl _) (.cells #[.int .i64 2, .int .i64 0, .int .i64 0] 78)
    have HB6 : Hid (Below w.heap.size w (w5.alloc (.cells #[.int .i64 2, .int .i64 0, .int .i64 0] 78))) := hide (hb5.trans (hb6.mono hb5.size))
    have HX6 : Hid (BoxH ⟨kd, ix, ct, bt, op, lp, ln⟩ k (w5.alloc (.cells #[.int .i64 2, .int .i64 0, .int .i64 0] 78))) := hide (hx5.below hb6 hx5.lt)
    have HW6 : Hid (Box3 2 0 0 w5.heap.size (w5.alloc (.cells #[.int .i64 2, .int .i64 0, .int .i64 0] 78))) := hide (heap_alloc_new w5 _)
    have hsb := Hs.out (w5.alloc (.cells #[.int .i64 2, .int .i64 0, .int .i64 0] 78)) HB6.out
    clear hb4 hx4 HB4 hlt4 FC HX4 hb hb5 hx5 hb6 HB3 HX3 HL3 HC2
    go_wp2_with fail
    (with_reducible refine (F5.out _).mono ?_)
    rintro e w7 ⟨rfl, hb⟩
    have HB7 := HB6.out.trans (hb.mono HB6.out.size)
    have HX7 := HX6.out.below hb HX6.out.lt
    have HW7 := HW6.out.below hb HW6.out.lt
    have hb8 := (Below.refl w7.heap.size w7).alloc (Nat.le_refl _) (.cells #[.int .i64 2, .int .i64 0, .int .i64 0] 78)
    have HB8 : Hid (Below w.heap.size w (w7.alloc (.cells #[.int .i64 2, .int .i64 0, .int .i64 0] 78))) := hide (HB7.trans (hb8.mono HB7.size))
    have HX8 : Hid (BoxH ⟨kd, ix, ct, bt, op, lp, ln⟩ k (w7.alloc (.cells #[.int .i64 2, .int .i64 0, .int .i64 0] 78))) := hide (HX7.below hb8 HX7.lt)
    have HW8 : Hid (Box3 2 0 0 w5.heap.size (w7.alloc (.cells #[.int .i64 2, .int .i64 0, .int .i64 0] 78))) := hide (HW7.below hb8 HW7.lt)
    have HV8 : Hid (Box3 2 0 0 w7.heap.size (w7.alloc (.cells #[.int .i64 2, .int .i64 0, .int .i64 0] 78))) := hide (heap_alloc_new w7 _)
    clear hb HB7 HX7 HW7 hb8 HB6 HX6 HW6 hsb F5
    go_wp2_with fail
    (with_reducible refine (seal_none A n c _ Hne.out).mono ?_)
    rintro e w9 ⟨rfl, rfl⟩
    generalize w7.alloc (.cells #[.int .i64 2, .int .i64 0, .int .i64 0] 78) = w9 at *
    have a0 := HW8.out.c 0 _ rfl
    have a1 := HW8.out.c 1 _ rfl
    have a2 := HW8.out.c 2 _ rfl
    have b0 := HV8.out.c 0 _ rfl
    have b1 := HV8.out.c 1 _ rfl
    have b2 := HV8.out.c 2 _ rfl
    have hsb := Hs.out _ HB8.out
    have hN := neq3 2 0 0
    clear HW8 HV8
    have HB9 := HB8
    have HX9 := HX8
    clear HB8 HX8
    go_wp2_with fail
    (with_reducible refine (FO.out _).mono ?_)
    rintro e w10 ⟨A4, c4, rfl, ho, hb⟩
    have hc4 : 256 ≤ c4 := by obtain ⟨_, _, h1, h2, _⟩ := own_form ho; injection h1 with _ _ h3; omega
    have HC4 := hide hc4
    have HL4 := hide (Lies.of_own ho)
    have HB10 := hide (HB9.out.trans (hb.mono HB9.out.size))
    have HX10 := hide (HX9.out.below hb HX9.out.lt)
    clear ho hb hc4 HB9 HX9 FO
    go_wp2_with fail
    (with_reducible refine (preopen_bad A4 256 c4 w10.heap.size r opn w10 HL4.out hrl.out.symm HC4.out (Nat.le_refl _) (by rw [hr0.out]; decide)).mono ?_)
    rintro e w11 ⟨rfl, hb⟩
    have HB11 := hide (HB10.out.trans (hb.mono HB10.out.size))
    have HX11 := hide (HX10.out.below hb HX10.out.lt)
    clear hb HB10 HX10 HL4 HC4 hrl hr0
    have R := HX11.out.range
    unfold Hd.cells at R
    dsimp only at R
    go_wp2_with (with_reducible refine wpl_load_mid rfl 57 (.tmp 3) rfl k 0 _ R rfl _ Try.underlying57 rfl 7 infoHd (by with_unfolding_all rfl) ?_)
    (with_reducible refine (Fm.out _).mono ?_)
    rintro e w12 ⟨rfl, hb⟩
    have HB12 := hide (HB11.out.trans (hb.mono HB11.out.size))
    have HX12 := hide (HX11.out.below hb HX11.out.lt)
    clear hb HB11 HX11 Fm R
    have d6 := HX12.out.c 6 _ rfl
    dsimp only at d6
    go_wp2_with fail
    (with_reducible refine (awake15_any _).mono ?_)
    rintro e w13 ⟨rfl, hb⟩
    have HB13 := hide (HB12.out.trans (hb.mono HB12.out.size))
    clear hb
    go_wp2
    go_ret
    exact ⟨rfl, HB13.out⟩

set_option maxRecDepth 60000 in
set_option maxHeartbeats 8000000 in
theorem reopens_0n_m1 (h : Hd) (dt : List UInt8) (opn : Nat) (A : Option Addr) (n c : Nat) (b : List UInt8) (w : World) (hl : Lies w w.heap.size A (bys b)) (hn : n = b.length) (hc : n ≤ c) (hsm : n ≤ 300) (hk : classN b = 0) (hne : n ≠ 252) (hm : h.May) (hd : ¬ (dt.length : Int) = h.len) :
    Calls Try.prog 7 #[.agg (fourC h dt opn A n c).toArray] w fun e w' => e = .returned (.bool true) ∧ Below w.heap.size w w' := by
  have h4 : ¬ (300 : Int) < (n : Int) := by omega
  have HL := hide hl
  have Hn := hide hn
  have Hc := hide hc
  have hs := fun W (hW : Below w.heap.size w W) => strU8 c (hl.below hW) hn
  have FO : Hid (∀ W, Calls Try.prog 32 #[.int .i64 256] W fun e w' => ∃ A' c', e = .returned (.slice A' 256 c') ∧ w'.ownsRow W.heap.size 5 1 (.slice A' 256 c') 256 (bys (List.replicate 256 255)) ∧ Below W.heap.size W w') := hide (fun W => ones2_any 256 W (by omega))
  obtain ⟨r, hrep⟩ : ∃ r : List UInt8, Hid (r = List.replicate 256 255) := ⟨_, hide rfl⟩
  have hrl : Hid (r.length = 256) := hide (by rw [hrep.out, List.length_replicate])
  have hr0 : Hid (classN r = 0) := hide (by unfold classN; rw [if_pos hrep.out])
  rw [← hrep.out] at FO
  have F5 := fun W => class15_any b W (by omega)
  rw [hk] at F5
  have F5 : Hid (∀ W, Calls Try.prog 30 #[.string (str b)] W fun e w' => e = .returned (.int .i64 0) ∧ Below W.heap.size W w') := hide F5
  have HK := hide hk
  have Hs := hide hs
  clear hl hn hc hk hs hrep hsm
  have Hne := hide hne
  have e1 : ¬ (n : Int) = 252 := by omega
  have e2 : ((n : Int) == 252) = false := by rw [beq_eq_false_iff_ne]; omega
  have e3 : ((n : Int) != 252) = true := by rw [bne_iff_ne]; omega
  clear hne
  have Fm := fun W => may15_any h W
  rw [decide_eq_true hm] at Fm
  have Fm := hide Fm
  have hsz := str_size dt
  have hnl : ((dt.length : Int) != h.len) = true := bne_iff_ne.2 hd
  generalize dt.length = nd at *
  clear hm hd
  rcases h with ⟨kd, ix, ct, bt, op, lp, ln⟩
  have hx1 := heap_alloc_new w (.cells #[.int .i64 kd, .int .i64 ix, .int .i64 ct, .int .u64 (bt : Int), .int .u64 (op : Int), .int .i64 lp, .int .i64 ln, .string (str dt), .int .u64 (opn : Int), .slice A n c] 77)
  have hb1 := (Below.refl w.heap.size w).alloc (Nat.le_refl _) (.cells #[.int .i64 kd, .int .i64 ix, .int .i64 ct, .int .u64 (bt : Int), .int .u64 (op : Int), .int .i64 lp, .int .i64 ln, .string (str dt), .int .u64 (opn : Int), .slice A n c] 77)
  have hs1 : w.heap.size < (w.alloc (.cells #[.int .i64 kd, .int .i64 ix, .int .i64 ct, .int .u64 (bt : Int), .int .u64 (op : Int), .int .i64 lp, .int .i64 ln, .string (str dt), .int .u64 (opn : Int), .slice A n c] 77)).heap.size := by simp
  unfold fourC at *
  unfold Hd.cells at *
  try unfold Hd.val at *
  simp only [List.cons_append, List.nil_append] at *
  have HX1 := hide hx1
  have HB1 := hide hb1
  have Hg := hide hs1
  clear hx1 hb1 hs1
  go_enter Try.func7, Try.ntmps7
  go_upto_region 1 with fail
  generalize w.alloc (.cells #[.int .i64 kd, .int .i64 ix, .int .i64 ct, .int .u64 (bt : Int), .int .u64 (op : Int), .int .i64 lp, .int .i64 ln, .string (str dt), .int .u64 (opn : Int), .slice A n c] 77) = w1 at *
  have c0 : w1.cell? ⟨w.heap.size, 0, none⟩ = some (.int .i64 kd) := World.news_of_block HX1.out 0 _ rfl
  have c1 : w1.cell? ⟨w.heap.size, 1, none⟩ = some (.int .i64 ix) := World.news_of_block HX1.out 1 _ rfl
  have c2 : w1.cell? ⟨w.heap.size, 2, none⟩ = some (.int .i64 ct) := World.news_of_block HX1.out 2 _ rfl
  have c3 : w1.cell? ⟨w.heap.size, 3, none⟩ = some (.int .u64 (bt : Int)) := World.news_of_block HX1.out 3 _ rfl
  have c4 : w1.cell? ⟨w.heap.size, 4, none⟩ = some (.int .u64 (op : Int)) := World.news_of_block HX1.out 4 _ rfl
  have c5 : w1.cell? ⟨w.heap.size, 5, none⟩ = some (.int .i64 lp) := World.news_of_block HX1.out 5 _ rfl
  have c6 : w1.cell? ⟨w.heap.size, 6, none⟩ = some (.int .i64 ln) := World.news_of_block HX1.out 6 _ rfl
  have c7 : w1.cell? ⟨w.heap.size, 7, none⟩ = some (.string (str dt)) := World.news_of_block HX1.out 7 _ rfl
  have c8 : w1.cell? ⟨w.heap.size, 8, none⟩ = some (.int .u64 (opn : Int)) := World.news_of_block HX1.out 8 _ rfl
  have c9 : w1.cell? ⟨w.heap.size, 9, none⟩ = some (.slice A n c) := World.news_of_block HX1.out 9 _ rfl
  refine Big.wp_region_big (by kernel_rfl) (fun d v => match d with | 17 => v = .pointer (some ⟨w.heap.size, 0, none⟩) | 18 => v = .agg #[.int .i64 kd, .int .i64 ix, .int .i64 ct, .int .u64 (bt : Int), .int .u64 (op : Int), .int .i64 lp, .int .i64 ln] | 19 => v = .pointer (some ⟨w.heap.size, 7, none⟩) | 20 => v = .string (str dt) | 21 => v = .pointer (some ⟨w.heap.size, 8, none⟩) | 22 => v = .int .u64 (opn : Int) | 23 => v = .pointer (some ⟨w.heap.size, 9, none⟩) | 24 => v = .slice A n c | 3 => ∃ k, v = .pointer (some ⟨k, 0, none⟩) | 4 => v = .string (str dt) | 5 => v = .int .u64 (opn : Int) | 6 => v = .slice A n c | _ => True) (PhiP w1 ⟨kd, ix, ct, bt, op, lp, ln⟩) [8, 9] [3] (by kernel_rfl) (by kernel_rfl) (by decide) (PhiP.loc _ _) (Or.inl ⟨rfl, (Below.refl _ _).drew⟩) ⟨?_, ?_, ?_, ?_, ?_, ?_, ?_, ?_, ?_, ?_, ?_, ?_, ?_, trivial⟩ ?_
  · refine Big.small (by decide) ?_
    intro i' a' w' hi' hΦ h'
    have hb' := hΦ.below
    have e1 : a'.tmps.getD 1 undef = .pointer (some ⟨w.heap.size, 0, none⟩) := Big.sb h' 1 (by kernel_rfl) (by kernel_rfl) rfl
    exact .val (want0 rfl) rfl (by simp [Act.eval, e1, go_sem]) rfl
  · refine Big.small (by decide) ?_
    intro i' a' w' hi' hΦ h'
    have hb' := hΦ.below
    have q0 := (hb'.cell (p := ⟨w.heap.size, 0, none⟩) Hg.out).trans c0
    have q1 := (hb'.cell (p := ⟨w.heap.size, 1, none⟩) Hg.out).trans c1
    have q2 := (hb'.cell (p := ⟨w.heap.size, 2, none⟩) Hg.out).trans c2
    have q3 := (hb'.cell (p := ⟨w.heap.size, 3, none⟩) Hg.out).trans c3
    have q4 := (hb'.cell (p := ⟨w.heap.size, 4, none⟩) Hg.out).trans c4
    have q5 := (hb'.cell (p := ⟨w.heap.size, 5, none⟩) Hg.out).trans c5
    have q6 := (hb'.cell (p := ⟨w.heap.size, 6, none⟩) Hg.out).trans c6
    have e17 : a'.tmps.getD 17 undef = .pointer (some ⟨w.heap.size, 0, none⟩) := Big.sw h' 17 (by kernel_rfl) (by kernel_rfl)
    exact .val (want0 rfl) rfl (by simp [Act.eval, e17, q0, q1, q2, q3, q4, q5, q6, go_sem]) rfl
  · refine Big.small (by decide) ?_
    intro i' a' w' hi' hΦ h'
    have hb' := hΦ.below
    have e1 : a'.tmps.getD 1 undef = .pointer (some ⟨w.heap.size, 0, none⟩) := Big.sb h' 1 (by kernel_rfl) (by kernel_rfl) rfl
    exact .val (want0 rfl) rfl (by simp [Act.eval, e1, go_sem]) rfl
  · refine Big.small (by decide) ?_
    intro i' a' w' hi' hΦ h'
    have hb' := hΦ.below
    have q7 := (hb'.cell (p := ⟨w.heap.size, 7, none⟩) Hg.out).trans c7
    have e19 : a'.tmps.getD 19 undef = .pointer (some ⟨w.heap.size, 7, none⟩) := Big.sw h' 19 (by kernel_rfl) (by kernel_rfl)
    exact .val (want0 rfl) rfl (by simp [Act.eval, e19, q7, go_sem]) rfl
  · refine Big.small (by decide) ?_
    intro i' a' w' hi' hΦ h'
    have hb' := hΦ.below
    have e1 : a'.tmps.getD 1 undef = .pointer (some ⟨w.heap.size, 0, none⟩) := Big.sb h' 1 (by kernel_rfl) (by kernel_rfl) rfl
    exact .val (want0 rfl) rfl (by simp [Act.eval, e1, go_sem]) rfl
  · refine Big.small (by decide) ?_
    intro i' a' w' hi' hΦ h'
    have hb' := hΦ.below
    have q8 := (hb'.cell (p := ⟨w.heap.size, 8, none⟩) Hg.out).trans c8
    have e21 : a'.tmps.getD 21 undef = .pointer (some ⟨w.heap.size, 8, none⟩) := Big.sw h' 21 (by kernel_rfl) (by kernel_rfl)
    exact .val (want0 rfl) rfl (by simp [Act.eval, e21, q8, go_sem]) rfl
  · refine Big.small (by decide) ?_
    intro i' a' w' hi' hΦ h'
    have hb' := hΦ.below
    have e1 : a'.tmps.getD 1 undef = .pointer (some ⟨w.heap.size, 0, none⟩) := Big.sb h' 1 (by kernel_rfl) (by kernel_rfl) rfl
    exact .val (want0 rfl) rfl (by simp [Act.eval, e1, go_sem]) rfl
  · refine Big.small (by decide) ?_
    intro i' a' w' hi' hΦ h'
    have hb' := hΦ.below
    have q9 := (hb'.cell (p := ⟨w.heap.size, 9, none⟩) Hg.out).trans c9
    have e23 : a'.tmps.getD 23 undef = .pointer (some ⟨w.heap.size, 9, none⟩) := Big.sw h' 23 (by kernel_rfl) (by kernel_rfl)
    exact .val (want0 rfl) rfl (by simp [Act.eval, e23, q9, go_sem]) rfl
  · refine Big.great (i := 0) rfl (by decide) ?_
    intro a' w' hsz' hΦ h'
    have hb' := hΦ.below
    exact .made (d := 3) (v := .pointer (some ⟨w'.heap.size, 0, none⟩)) (w' := w'.alloc (.cells #[.int .i64 0, .int .i64 0, .int .i64 0, .int .u64 0, .int .u64 0, .int .i64 0, .int .i64 0] 57)) (want0 rfl) rfl (by simp [go_sem]) ⟨_, rfl⟩ (.inr (.inl ⟨rfl, _, Big.slots_put (by rw [hsz']; simp), hb'.size, hb'.alloc hb'.size _, heap_alloc_new w' _⟩))
  · refine Big.great (i := 1) rfl (by decide) ?_
    intro a' w' hsz' hΦ h'
    have e18 : a'.tmps.getD 18 undef = .agg #[.int .i64 kd, .int .i64 ix, .int .i64 ct, .int .u64 (bt : Int), .int .u64 (op : Int), .int .i64 lp, .int .i64 ln] := Big.sw h' 18 (by kernel_rfl) (by kernel_rfl)
    obtain ⟨k, e3, hk, hb', hz⟩ := hΦ.at1
    have e3' : a'.tmps.getD 3 undef = .pointer (some ⟨k, 0, none⟩) := e3
    intro K' Q hK
    rw [if_pos (want0 rfl)]
    exact wp_store_row 57 (.tmp 3) (.tmp 18) rfl k #[.int .i64 kd, .int .i64 ix, .int .i64 ct, .int .u64 (bt : Int), .int .u64 (op : Int), .int .i64 lp, .int .i64 ln] e3' e18 57 _ hz infoHd rfl (by simp [Value.oneCell']) (hK undef _ (fun d hd => by cases hd) (.inr (.inr ⟨Nat.le_refl _, k, e3, hk, setRow_belowP hb' hk _, setRow_heap _ _ _ _ _ _ hz⟩)))
  · refine Big.small (by decide) ?_
    intro i' a' w' hi' hΦ h'
    have hb' := hΦ.below
    have e20 : a'.tmps.getD 20 undef = .string (str dt) := Big.sw h' 20 (by kernel_rfl) (by kernel_rfl)
    exact .val (want0 rfl) rfl (by simp [Act.eval, e20, go_sem]) rfl
  · refine Big.small (by decide) ?_
    intro i' a' w' hi' hΦ h'
    have hb' := hΦ.below
    have e22 : a'.tmps.getD 22 undef = .int .u64 (opn : Int) := Big.sw h' 22 (by kernel_rfl) (by kernel_rfl)
    exact .val (want0 rfl) rfl (by simp [Act.eval, e22, go_sem]) rfl
  · refine Big.small (by decide) ?_
    intro i' a' w' hi' hΦ h'
    have hb' := hΦ.below
    have e24 : a'.tmps.getD 24 undef = .slice A n c := Big.sw h' 24 (by kernel_rfl) (by kernel_rfl)
    exact .val (want0 rfl) rfl (by simp [Act.eval, e24, go_sem]) rfl
  · intro a' w' hdf hsz hwr hkp hΦ
    obtain ⟨k, e3, hk, hb', hz⟩ := hΦ.at2
    have e3' : a'.tmps.getD 3 undef = .pointer (some ⟨k, 0, none⟩) := e3
    have f17 : a'.tmps.getD 17 undef = .pointer (some ⟨w.heap.size, 0, none⟩) := hwr 17 (by kernel_rfl)
    have f18 : a'.tmps.getD 18 undef = .agg #[.int .i64 kd, .int .i64 ix, .int .i64 ct, .int .u64 (bt : Int), .int .u64 (op : Int), .int .i64 lp, .int .i64 ln] := hwr 18 (by kernel_rfl)
    have f19 : a'.tmps.getD 19 undef = .pointer (some ⟨w.heap.size, 7, none⟩) := hwr 19 (by kernel_rfl)
    have f20 : a'.tmps.getD 20 undef = .string (str dt) := hwr 20 (by kernel_rfl)
    have f21 : a'.tmps.getD 21 undef = .pointer (some ⟨w.heap.size, 8, none⟩) := hwr 21 (by kernel_rfl)
    have f22 : a'.tmps.getD 22 undef = .int .u64 (opn : Int) := hwr 22 (by kernel_rfl)
    have f23 : a'.tmps.getD 23 undef = .pointer (some ⟨w.heap.size, 9, none⟩) := hwr 23 (by kernel_rfl)
    have f24 : a'.tmps.getD 24 undef = .slice A n c := hwr 24 (by kernel_rfl)
    have f4 : a'.tmps.getD 4 undef = .string (str dt) := hwr 4 (by kernel_rfl)
    have f5 : a'.tmps.getD 5 undef = .int .u64 (opn : Int) := hwr 5 (by kernel_rfl)
    have f6 : a'.tmps.getD 6 undef = .slice A n c := hwr 6 (by kernel_rfl)
    have hfr := Flo2.frame_eq [(17, .pointer (some ⟨w.heap.size, 0, none⟩)), (18, .agg #[.int .i64 kd, .int .i64 ix, .int .i64 ct, .int .u64 (bt : Int), .int .u64 (op : Int), .int .i64 lp, .int .i64 ln]), (19, .pointer (some ⟨w.heap.size, 7, none⟩)), (20, .string (str dt)), (21, .pointer (some ⟨w.heap.size, 8, none⟩)), (22, .int .u64 (opn : Int)), (23, .pointer (some ⟨w.heap.size, 9, none⟩)), (24, .slice A n c), (3, .pointer (some ⟨k, 0, none⟩)), (4, .string (str dt)), (5, .int .u64 (opn : Int)), (6, .slice A n c)] a'.tmps _ hsz (by
      intro x hx
      simp only [List.mem_cons, List.not_mem_nil, or_false] at hx
      rcases hx with h | h | h | h | h | h | h | h | h | h | h | h <;> subst h
      · exact f17
      · exact f18
      · exact f19
      · exact f20
      · exact f21
      · exact f22
      · exact f23
      · exact f24
      · exact e3'
      · exact f4
      · exact f5
      · exact f6) (fun t ht => hkp t (Flo3.writes_not _ _ (by kernel_rfl) ht))
    have ha := Flo3.act_ext hfr hdf
    have HB2 := hide (HB1.out.trans (hb'.mono HB1.out.size))
    have HX2 := hide (show BoxH ⟨kd, ix, ct, bt, op, lp, ln⟩ k w' from hz)
    clear hfr hwr hkp hsz hdf e3 e3' hz hb' hk hΦ HX1 HB1 Hg c0 c1 c2 c3 c4 c5 c6 c7 c8 c9 f17 f18 f19 f20 f21 f22 f23 f24 f4 f5 f6
    subst ha
    simp only [Flo2.puts, List.foldl_cons, List.foldl_nil, List.setIfInBounds_toArray, List.set, Exit.inBlock, Exit.then]
    generalize w' = w2 at *
    go_wp2_with fail
    (with_reducible refine (FO.out _).mono ?_)
    rintro e w3 ⟨A2, c2, rfl, ho, hb⟩
    have hc2 : 256 ≤ c2 := by obtain ⟨_, _, h1, h2, _⟩ := own_form ho; injection h1 with _ _ h3; omega
    have HC2 := hide hc2
    have HL3 := hide (Lies.of_own ho)
    have HB3 := hide (HB2.out.trans (hb.mono HB2.out.size))
    have HX3 := hide (HX2.out.below hb HX2.out.lt)
    clear ho hb hc2 HB2 HX2
    go_wp2_with fail
    have hb4 := (Below.refl w3.heap.size w3).alloc (Nat.le_refl _) (.cells #[.slice A n c, .slice A2 256 c2] 40)
    have hx4 := heap_alloc_new w3 (.cells #[.slice A n c, .slice A2 256 c2] 40)
    have HB4 := HB3.out.trans (hb4.mono HB3.out.size)
    have hlt4 : w3.heap.size < (w3.alloc (.cells #[.slice A n c, .slice A2 256 c2] 40)).heap.size := by simp
    have FC := pclasses_0 ⟨w3.heap.size, 0, none⟩ 2 A A2 n c 256 c2 b r (w3.alloc (.cells #[.slice A n c, .slice A2 256 c2] 40)) hlt4 (World.news_of_block hx4 0 _ rfl) (World.news_of_block hx4 1 _ rfl) ((HL.out.below HB4).up HB4.size) Hn.out Hc.out ((HL3.out.below hb4).up hb4.size) hrl.out.symm HC2.out HK.out hr0.out
    have HX4 := HX3.out.below hb4 HX3.out.lt
    (with_reducible refine FC.mono ?_)
    rintro e w5 ⟨rfl, hb⟩
    have hb5 := HB4.trans (hb.mono HB4.size)
    have hx5 := HX4.below hb HX4.lt
    have hb6 := (Below.refl w5.heap.size w5).alloc (Nat.le_refl _) (.cells #[.int .i64 2, .int .i64 0, .int .i64 0] 78)
    have HB6 : Hid (Below w.heap.size w (w5.alloc (.cells #[.int .i64 2, .int .i64 0, .int .i64 0] 78))) := hide (hb5.trans (hb6.mono hb5.size))
    have HX6 : Hid (BoxH ⟨kd, ix, ct, bt, op, lp, ln⟩ k (w5.alloc (.cells #[.int .i64 2, .int .i64 0, .int .i64 0] 78))) := hide (hx5.below hb6 hx5.lt)
    have HW6 : Hid (Box3 2 0 0 w5.heap.size (w5.alloc (.cells #[.int .i64 2, .int .i64 0, .int .i64 0] 78))) := hide (heap_alloc_new w5 _)
    have hsb := Hs.out (w5.alloc (.cells #[.int .i64 2, .int .i64 0, .int .i64 0] 78)) HB6.out
    clear hb4 hx4 HB4 hlt4 FC HX4 hb hb5 hx5 hb6 HB3 HX3 HL3 HC2
    go_wp2_with fail
    (with_reducible refine (F5.out _).mono ?_)
    rintro e w7 ⟨rfl, hb⟩
    have HB7 := HB6.out.trans (hb.mono HB6.out.size)
    have HX7 := HX6.out.below hb HX6.out.lt
    have HW7 := HW6.out.below hb HW6.out.lt
    have hb8 := (Below.refl w7.heap.size w7).alloc (Nat.le_refl _) (.cells #[.int .i64 2, .int .i64 0, .int .i64 0] 78)
    have HB8 : Hid (Below w.heap.size w (w7.alloc (.cells #[.int .i64 2, .int .i64 0, .int .i64 0] 78))) := hide (HB7.trans (hb8.mono HB7.size))
    have HX8 : Hid (BoxH ⟨kd, ix, ct, bt, op, lp, ln⟩ k (w7.alloc (.cells #[.int .i64 2, .int .i64 0, .int .i64 0] 78))) := hide (HX7.below hb8 HX7.lt)
    have HW8 : Hid (Box3 2 0 0 w5.heap.size (w7.alloc (.cells #[.int .i64 2, .int .i64 0, .int .i64 0] 78))) := hide (HW7.below hb8 HW7.lt)
    have HV8 : Hid (Box3 2 0 0 w7.heap.size (w7.alloc (.cells #[.int .i64 2, .int .i64 0, .int .i64 0] 78))) := hide (heap_alloc_new w7 _)
    clear hb HB7 HX7 HW7 hb8 HB6 HX6 HW6 hsb F5
    go_wp2_with fail
    (with_reducible refine (seal_none A n c _ Hne.out).mono ?_)
    rintro e w9 ⟨rfl, rfl⟩
    generalize w7.alloc (.cells #[.int .i64 2, .int .i64 0, .int .i64 0] 78) = w9 at *
    have a0 := HW8.out.c 0 _ rfl
    have a1 := HW8.out.c 1 _ rfl
    have a2 := HW8.out.c 2 _ rfl
    have b0 := HV8.out.c 0 _ rfl
    have b1 := HV8.out.c 1 _ rfl
    have b2 := HV8.out.c 2 _ rfl
    have hsb := Hs.out _ HB8.out
    have hN := neq3 2 0 0
    clear HW8 HV8
    have HB9 := HB8
    have HX9 := HX8
    clear HB8 HX8
    go_wp2_with fail
    (with_reducible refine (FO.out _).mono ?_)
    rintro e w10 ⟨A4, c4, rfl, ho, hb⟩
    have hc4 : 256 ≤ c4 := by obtain ⟨_, _, h1, h2, _⟩ := own_form ho; injection h1 with _ _ h3; omega
    have HC4 := hide hc4
    have HL4 := hide (Lies.of_own ho)
    have HB10 := hide (HB9.out.trans (hb.mono HB9.out.size))
    have HX10 := hide (HX9.out.below hb HX9.out.lt)
    clear ho hb hc4 HB9 HX9 FO
    go_wp2_with fail
    (with_reducible refine (preopen_bad A4 256 c4 w10.heap.size r opn w10 HL4.out hrl.out.symm HC4.out (Nat.le_refl _) (by rw [hr0.out]; decide)).mono ?_)
    rintro e w11 ⟨rfl, hb⟩
    have HB11 := hide (HB10.out.trans (hb.mono HB10.out.size))
    have HX11 := hide (HX10.out.below hb HX10.out.lt)
    clear hb HB10 HX10 HL4 HC4 hrl hr0
    have R := HX11.out.range
    unfold Hd.cells at R
    dsimp only at R
    go_wp2_with (with_reducible refine wpl_load_mid rfl 57 (.tmp 3) rfl k 0 _ R rfl _ Try.underlying57 rfl 7 infoHd (by with_unfolding_all rfl) ?_)
    (with_reducible refine (Fm.out _).mono ?_)
    rintro e w12 ⟨rfl, hb⟩
    have HB12 := hide (HB11.out.trans (hb.mono HB11.out.size))
    have HX12 := hide (HX11.out.below hb HX11.out.lt)
    clear hb HB11 HX11 Fm R
    have d6 := HX12.out.c 6 _ rfl
    dsimp only at d6
    go_wp2_with fail
    (with_reducible refine (awake15_any _).mono ?_)
    rintro e w13 ⟨rfl, hb⟩
    have HB13 := hide (HB12.out.trans (hb.mono HB12.out.size))
    clear hb
    go_wp2
    go_ret
    exact ⟨rfl, HB13.out⟩

set_option maxRecDepth 60000 in
set_option maxHeartbeats 8000000 in
theorem reopens_0n_m2 (h : Hd) (dt : List UInt8) (opn : Nat) (A : Option Addr) (n c : Nat) (b : List UInt8) (w : World) (hl : Lies w w.heap.size A (bys b)) (hn : n = b.length) (hc : n ≤ c) (hsm : n ≤ 300) (hk : classN b = 0) (hne : n ≠ 252) (hm : h.May) (hd : (dt.length : Int) = h.len) (ho : ¬ opn < 2147483648) :
    Calls Try.prog 7 #[.agg (fourC h dt opn A n c).toArray] w fun e w' => e = .returned (.bool true) ∧ Below w.heap.size w w' := by
  have h4 : ¬ (300 : Int) < (n : Int) := by omega
  have HL := hide hl
  have Hn := hide hn
  have Hc := hide hc
  have hs := fun W (hW : Below w.heap.size w W) => strU8 c (hl.below hW) hn
  have FO : Hid (∀ W, Calls Try.prog 32 #[.int .i64 256] W fun e w' => ∃ A' c', e = .returned (.slice A' 256 c') ∧ w'.ownsRow W.heap.size 5 1 (.slice A' 256 c') 256 (bys (List.replicate 256 255)) ∧ Below W.heap.size W w') := hide (fun W => ones2_any 256 W (by omega))
  obtain ⟨r, hrep⟩ : ∃ r : List UInt8, Hid (r = List.replicate 256 255) := ⟨_, hide rfl⟩
  have hrl : Hid (r.length = 256) := hide (by rw [hrep.out, List.length_replicate])
  have hr0 : Hid (classN r = 0) := hide (by unfold classN; rw [if_pos hrep.out])
  rw [← hrep.out] at FO
  have F5 := fun W => class15_any b W (by omega)
  rw [hk] at F5
  have F5 : Hid (∀ W, Calls Try.prog 30 #[.string (str b)] W fun e w' => e = .returned (.int .i64 0) ∧ Below W.heap.size W w') := hide F5
  have HK := hide hk
  have Hs := hide hs
  clear hl hn hc hk hs hrep hsm
  have Hne := hide hne
  have e1 : ¬ (n : Int) = 252 := by omega
  have e2 : ((n : Int) == 252) = false := by rw [beq_eq_false_iff_ne]; omega
  have e3 : ((n : Int) != 252) = true := by rw [bne_iff_ne]; omega
  clear hne
  have Fm := fun W => may15_any h W
  rw [decide_eq_true hm] at Fm
  have Fm := hide Fm
  have hsz := str_size dt
  have hnl : ((dt.length : Int) != h.len) = false := by rw [hd]; simp
  have Fq := hide (fun W => put15_any h dt W hm hd)
  have h12 := hm.2.2.2.2.2.2.2.2.2.2.2
  have hlen : (pageB h dt).length = 256 := pageB_len h dt (by omega)
  have Fr := hide (fun A c B W => reopen_over h dt A c B opn W hm hd (by omega))
  have o1 : (2147483648 : Int) ≤ (opn : Int) := by omega
  generalize pageB h dt = s1 at *
  have HLen1 := hide hlen
  generalize dt.length = nd at *
  clear hlen h12 hm hd ho
  rcases h with ⟨kd, ix, ct, bt, op, lp, ln⟩
  have hx1 := heap_alloc_new w (.cells #[.int .i64 kd, .int .i64 ix, .int .i64 ct, .int .u64 (bt : Int), .int .u64 (op : Int), .int .i64 lp, .int .i64 ln, .string (str dt), .int .u64 (opn : Int), .slice A n c] 77)
  have hb1 := (Below.refl w.heap.size w).alloc (Nat.le_refl _) (.cells #[.int .i64 kd, .int .i64 ix, .int .i64 ct, .int .u64 (bt : Int), .int .u64 (op : Int), .int .i64 lp, .int .i64 ln, .string (str dt), .int .u64 (opn : Int), .slice A n c] 77)
  have hs1 : w.heap.size < (w.alloc (.cells #[.int .i64 kd, .int .i64 ix, .int .i64 ct, .int .u64 (bt : Int), .int .u64 (op : Int), .int .i64 lp, .int .i64 ln, .string (str dt), .int .u64 (opn : Int), .slice A n c] 77)).heap.size := by simp
  unfold fourC at *
  unfold Hd.cells at *
  try unfold Hd.val at *
  simp only [List.cons_append, List.nil_append] at *
  have HX1 := hide hx1
  have HB1 := hide hb1
  have Hg := hide hs1
  clear hx1 hb1 hs1
  go_enter Try.func7, Try.ntmps7
  go_upto_region 1 with fail
  generalize w.alloc (.cells #[.int .i64 kd, .int .i64 ix, .int .i64 ct, .int .u64 (bt : Int), .int .u64 (op : Int), .int .i64 lp, .int .i64 ln, .string (str dt), .int .u64 (opn : Int), .slice A n c] 77) = w1 at *
  have c0 : w1.cell? ⟨w.heap.size, 0, none⟩ = some (.int .i64 kd) := World.news_of_block HX1.out 0 _ rfl
  have c1 : w1.cell? ⟨w.heap.size, 1, none⟩ = some (.int .i64 ix) := World.news_of_block HX1.out 1 _ rfl
  have c2 : w1.cell? ⟨w.heap.size, 2, none⟩ = some (.int .i64 ct) := World.news_of_block HX1.out 2 _ rfl
  have c3 : w1.cell? ⟨w.heap.size, 3, none⟩ = some (.int .u64 (bt : Int)) := World.news_of_block HX1.out 3 _ rfl
  have c4 : w1.cell? ⟨w.heap.size, 4, none⟩ = some (.int .u64 (op : Int)) := World.news_of_block HX1.out 4 _ rfl
  have c5 : w1.cell? ⟨w.heap.size, 5, none⟩ = some (.int .i64 lp) := World.news_of_block HX1.out 5 _ rfl
  have c6 : w1.cell? ⟨w.heap.size, 6, none⟩ = some (.int .i64 ln) := World.news_of_block HX1.out 6 _ rfl
  have c7 : w1.cell? ⟨w.heap.size, 7, none⟩ = some (.string (str dt)) := World.news_of_block HX1.out 7 _ rfl
  have c8 : w1.cell? ⟨w.heap.size, 8, none⟩ = some (.int .u64 (opn : Int)) := World.news_of_block HX1.out 8 _ rfl
  have c9 : w1.cell? ⟨w.heap.size, 9, none⟩ = some (.slice A n c) := World.news_of_block HX1.out 9 _ rfl
  refine Big.wp_region_big (by kernel_rfl) (fun d v => match d with | 17 => v = .pointer (some ⟨w.heap.size, 0, none⟩) | 18 => v = .agg #[.int .i64 kd, .int .i64 ix, .int .i64 ct, .int .u64 (bt : Int), .int .u64 (op : Int), .int .i64 lp, .int .i64 ln] | 19 => v = .pointer (some ⟨w.heap.size, 7, none⟩) | 20 => v = .string (str dt) | 21 => v = .pointer (some ⟨w.heap.size, 8, none⟩) | 22 => v = .int .u64 (opn : Int) | 23 => v = .pointer (some ⟨w.heap.size, 9, none⟩) | 24 => v = .slice A n c | 3 => ∃ k, v = .pointer (some ⟨k, 0, none⟩) | 4 => v = .string (str dt) | 5 => v = .int .u64 (opn : Int) | 6 => v = .slice A n c | _ => True) (PhiP w1 ⟨kd, ix, ct, bt, op, lp, ln⟩) [8, 9] [3] (by kernel_rfl) (by kernel_rfl) (by decide) (PhiP.loc _ _) (Or.inl ⟨rfl, (Below.refl _ _).drew⟩) ⟨?_, ?_, ?_, ?_, ?_, ?_, ?_, ?_, ?_, ?_, ?_, ?_, ?_, trivial⟩ ?_
  · refine Big.small (by decide) ?_
    intro i' a' w' hi' hΦ h'
    have hb' := hΦ.below
    have e1 : a'.tmps.getD 1 undef = .pointer (some ⟨w.heap.size, 0, none⟩) := Big.sb h' 1 (by kernel_rfl) (by kernel_rfl) rfl
    exact .val (want0 rfl) rfl (by simp [Act.eval, e1, go_sem]) rfl
  · refine Big.small (by decide) ?_
    intro i' a' w' hi' hΦ h'
    have hb' := hΦ.below
    have q0 := (hb'.cell (p := ⟨w.heap.size, 0, none⟩) Hg.out).trans c0
    have q1 := (hb'.cell (p := ⟨w.heap.size, 1, none⟩) Hg.out).trans c1
    have q2 := (hb'.cell (p := ⟨w.heap.size, 2, none⟩) Hg.out).trans c2
    have q3 := (hb'.cell (p := ⟨w.heap.size, 3, none⟩) Hg.out).trans c3
    have q4 := (hb'.cell (p := ⟨w.heap.size, 4, none⟩) Hg.out).trans c4
    have q5 := (hb'.cell (p := ⟨w.heap.size, 5, none⟩) Hg.out).trans c5
    have q6 := (hb'.cell (p := ⟨w.heap.size, 6, none⟩) Hg.out).trans c6
    have e17 : a'.tmps.getD 17 undef = .pointer (some ⟨w.heap.size, 0, none⟩) := Big.sw h' 17 (by kernel_rfl) (by kernel_rfl)
    exact .val (want0 rfl) rfl (by simp [Act.eval, e17, q0, q1, q2, q3, q4, q5, q6, go_sem]) rfl
  · refine Big.small (by decide) ?_
    intro i' a' w' hi' hΦ h'
    have hb' := hΦ.below
    have e1 : a'.tmps.getD 1 undef = .pointer (some ⟨w.heap.size, 0, none⟩) := Big.sb h' 1 (by kernel_rfl) (by kernel_rfl) rfl
    exact .val (want0 rfl) rfl (by simp [Act.eval, e1, go_sem]) rfl
  · refine Big.small (by decide) ?_
    intro i' a' w' hi' hΦ h'
    have hb' := hΦ.below
    have q7 := (hb'.cell (p := ⟨w.heap.size, 7, none⟩) Hg.out).trans c7
    have e19 : a'.tmps.getD 19 undef = .pointer (some ⟨w.heap.size, 7, none⟩) := Big.sw h' 19 (by kernel_rfl) (by kernel_rfl)
    exact .val (want0 rfl) rfl (by simp [Act.eval, e19, q7, go_sem]) rfl
  · refine Big.small (by decide) ?_
    intro i' a' w' hi' hΦ h'
    have hb' := hΦ.below
    have e1 : a'.tmps.getD 1 undef = .pointer (some ⟨w.heap.size, 0, none⟩) := Big.sb h' 1 (by kernel_rfl) (by kernel_rfl) rfl
    exact .val (want0 rfl) rfl (by simp [Act.eval, e1, go_sem]) rfl
  · refine Big.small (by decide) ?_
    intro i' a' w' hi' hΦ h'
    have hb' := hΦ.below
    have q8 := (hb'.cell (p := ⟨w.heap.size, 8, none⟩) Hg.out).trans c8
    have e21 : a'.tmps.getD 21 undef = .pointer (some ⟨w.heap.size, 8, none⟩) := Big.sw h' 21 (by kernel_rfl) (by kernel_rfl)
    exact .val (want0 rfl) rfl (by simp [Act.eval, e21, q8, go_sem]) rfl
  · refine Big.small (by decide) ?_
    intro i' a' w' hi' hΦ h'
    have hb' := hΦ.below
    have e1 : a'.tmps.getD 1 undef = .pointer (some ⟨w.heap.size, 0, none⟩) := Big.sb h' 1 (by kernel_rfl) (by kernel_rfl) rfl
    exact .val (want0 rfl) rfl (by simp [Act.eval, e1, go_sem]) rfl
  · refine Big.small (by decide) ?_
    intro i' a' w' hi' hΦ h'
    have hb' := hΦ.below
    have q9 := (hb'.cell (p := ⟨w.heap.size, 9, none⟩) Hg.out).trans c9
    have e23 : a'.tmps.getD 23 undef = .pointer (some ⟨w.heap.size, 9, none⟩) := Big.sw h' 23 (by kernel_rfl) (by kernel_rfl)
    exact .val (want0 rfl) rfl (by simp [Act.eval, e23, q9, go_sem]) rfl
  · refine Big.great (i := 0) rfl (by decide) ?_
    intro a' w' hsz' hΦ h'
    have hb' := hΦ.below
    exact .made (d := 3) (v := .pointer (some ⟨w'.heap.size, 0, none⟩)) (w' := w'.alloc (.cells #[.int .i64 0, .int .i64 0, .int .i64 0, .int .u64 0, .int .u64 0, .int .i64 0, .int .i64 0] 57)) (want0 rfl) rfl (by simp [go_sem]) ⟨_, rfl⟩ (.inr (.inl ⟨rfl, _, Big.slots_put (by rw [hsz']; simp), hb'.size, hb'.alloc hb'.size _, heap_alloc_new w' _⟩))
  · refine Big.great (i := 1) rfl (by decide) ?_
    intro a' w' hsz' hΦ h'
    have e18 : a'.tmps.getD 18 undef = .agg #[.int .i64 kd, .int .i64 ix, .int .i64 ct, .int .u64 (bt : Int), .int .u64 (op : Int), .int .i64 lp, .int .i64 ln] := Big.sw h' 18 (by kernel_rfl) (by kernel_rfl)
    obtain ⟨k, e3, hk, hb', hz⟩ := hΦ.at1
    have e3' : a'.tmps.getD 3 undef = .pointer (some ⟨k, 0, none⟩) := e3
    intro K' Q hK
    rw [if_pos (want0 rfl)]
    exact wp_store_row 57 (.tmp 3) (.tmp 18) rfl k #[.int .i64 kd, .int .i64 ix, .int .i64 ct, .int .u64 (bt : Int), .int .u64 (op : Int), .int .i64 lp, .int .i64 ln] e3' e18 57 _ hz infoHd rfl (by simp [Value.oneCell']) (hK undef _ (fun d hd => by cases hd) (.inr (.inr ⟨Nat.le_refl _, k, e3, hk, setRow_belowP hb' hk _, setRow_heap _ _ _ _ _ _ hz⟩)))
  · refine Big.small (by decide) ?_
    intro i' a' w' hi' hΦ h'
    have hb' := hΦ.below
    have e20 : a'.tmps.getD 20 undef = .string (str dt) := Big.sw h' 20 (by kernel_rfl) (by kernel_rfl)
    exact .val (want0 rfl) rfl (by simp [Act.eval, e20, go_sem]) rfl
  · refine Big.small (by decide) ?_
    intro i' a' w' hi' hΦ h'
    have hb' := hΦ.below
    have e22 : a'.tmps.getD 22 undef = .int .u64 (opn : Int) := Big.sw h' 22 (by kernel_rfl) (by kernel_rfl)
    exact .val (want0 rfl) rfl (by simp [Act.eval, e22, go_sem]) rfl
  · refine Big.small (by decide) ?_
    intro i' a' w' hi' hΦ h'
    have hb' := hΦ.below
    have e24 : a'.tmps.getD 24 undef = .slice A n c := Big.sw h' 24 (by kernel_rfl) (by kernel_rfl)
    exact .val (want0 rfl) rfl (by simp [Act.eval, e24, go_sem]) rfl
  · intro a' w' hdf hsz hwr hkp hΦ
    obtain ⟨k, e3, hk, hb', hz⟩ := hΦ.at2
    have e3' : a'.tmps.getD 3 undef = .pointer (some ⟨k, 0, none⟩) := e3
    have f17 : a'.tmps.getD 17 undef = .pointer (some ⟨w.heap.size, 0, none⟩) := hwr 17 (by kernel_rfl)
    have f18 : a'.tmps.getD 18 undef = .agg #[.int .i64 kd, .int .i64 ix, .int .i64 ct, .int .u64 (bt : Int), .int .u64 (op : Int), .int .i64 lp, .int .i64 ln] := hwr 18 (by kernel_rfl)
    have f19 : a'.tmps.getD 19 undef = .pointer (some ⟨w.heap.size, 7, none⟩) := hwr 19 (by kernel_rfl)
    have f20 : a'.tmps.getD 20 undef = .string (str dt) := hwr 20 (by kernel_rfl)
    have f21 : a'.tmps.getD 21 undef = .pointer (some ⟨w.heap.size, 8, none⟩) := hwr 21 (by kernel_rfl)
    have f22 : a'.tmps.getD 22 undef = .int .u64 (opn : Int) := hwr 22 (by kernel_rfl)
    have f23 : a'.tmps.getD 23 undef = .pointer (some ⟨w.heap.size, 9, none⟩) := hwr 23 (by kernel_rfl)
    have f24 : a'.tmps.getD 24 undef = .slice A n c := hwr 24 (by kernel_rfl)
    have f4 : a'.tmps.getD 4 undef = .string (str dt) := hwr 4 (by kernel_rfl)
    have f5 : a'.tmps.getD 5 undef = .int .u64 (opn : Int) := hwr 5 (by kernel_rfl)
    have f6 : a'.tmps.getD 6 undef = .slice A n c := hwr 6 (by kernel_rfl)
    have hfr := Flo2.frame_eq [(17, .pointer (some ⟨w.heap.size, 0, none⟩)), (18, .agg #[.int .i64 kd, .int .i64 ix, .int .i64 ct, .int .u64 (bt : Int), .int .u64 (op : Int), .int .i64 lp, .int .i64 ln]), (19, .pointer (some ⟨w.heap.size, 7, none⟩)), (20, .string (str dt)), (21, .pointer (some ⟨w.heap.size, 8, none⟩)), (22, .int .u64 (opn : Int)), (23, .pointer (some ⟨w.heap.size, 9, none⟩)), (24, .slice A n c), (3, .pointer (some ⟨k, 0, none⟩)), (4, .string (str dt)), (5, .int .u64 (opn : Int)), (6, .slice A n c)] a'.tmps _ hsz (by
      intro x hx
      simp only [List.mem_cons, List.not_mem_nil, or_false] at hx
      rcases hx with h | h | h | h | h | h | h | h | h | h | h | h <;> subst h
      · exact f17
      · exact f18
      · exact f19
      · exact f20
      · exact f21
      · exact f22
      · exact f23
      · exact f24
      · exact e3'
      · exact f4
      · exact f5
      · exact f6) (fun t ht => hkp t (Flo3.writes_not _ _ (by kernel_rfl) ht))
    have ha := Flo3.act_ext hfr hdf
    have HB2 := hide (HB1.out.trans (hb'.mono HB1.out.size))
    have HX2 := hide (show BoxH ⟨kd, ix, ct, bt, op, lp, ln⟩ k w' from hz)
    clear hfr hwr hkp hsz hdf e3 e3' hz hb' hk hΦ HX1 HB1 Hg c0 c1 c2 c3 c4 c5 c6 c7 c8 c9 f17 f18 f19 f20 f21 f22 f23 f24 f4 f5 f6
    subst ha
    simp only [Flo2.puts, List.foldl_cons, List.foldl_nil, List.setIfInBounds_toArray, List.set, Exit.inBlock, Exit.then]
    generalize w' = w2 at *
    go_wp2_with fail
    (with_reducible refine (FO.out _).mono ?_)
    rintro e w3 ⟨A2, c2, rfl, ho, hb⟩
    have hc2 : 256 ≤ c2 := by obtain ⟨_, _, h1, h2, _⟩ := own_form ho; injection h1 with _ _ h3; omega
    have HC2 := hide hc2
    have HL3 := hide (Lies.of_own ho)
    have HB3 := hide (HB2.out.trans (hb.mono HB2.out.size))
    have HX3 := hide (HX2.out.below hb HX2.out.lt)
    clear ho hb hc2 HB2 HX2
    go_wp2_with fail
    have hb4 := (Below.refl w3.heap.size w3).alloc (Nat.le_refl _) (.cells #[.slice A n c, .slice A2 256 c2] 40)
    have hx4 := heap_alloc_new w3 (.cells #[.slice A n c, .slice A2 256 c2] 40)
    have HB4 := HB3.out.trans (hb4.mono HB3.out.size)
    have hlt4 : w3.heap.size < (w3.alloc (.cells #[.slice A n c, .slice A2 256 c2] 40)).heap.size := by simp
    have FC := pclasses_0 ⟨w3.heap.size, 0, none⟩ 2 A A2 n c 256 c2 b r (w3.alloc (.cells #[.slice A n c, .slice A2 256 c2] 40)) hlt4 (World.news_of_block hx4 0 _ rfl) (World.news_of_block hx4 1 _ rfl) ((HL.out.below HB4).up HB4.size) Hn.out Hc.out ((HL3.out.below hb4).up hb4.size) hrl.out.symm HC2.out HK.out hr0.out
    have HX4 := HX3.out.below hb4 HX3.out.lt
    (with_reducible refine FC.mono ?_)
    rintro e w5 ⟨rfl, hb⟩
    have hb5 := HB4.trans (hb.mono HB4.size)
    have hx5 := HX4.below hb HX4.lt
    have hb6 := (Below.refl w5.heap.size w5).alloc (Nat.le_refl _) (.cells #[.int .i64 2, .int .i64 0, .int .i64 0] 78)
    have HB6 : Hid (Below w.heap.size w (w5.alloc (.cells #[.int .i64 2, .int .i64 0, .int .i64 0] 78))) := hide (hb5.trans (hb6.mono hb5.size))
    have HX6 : Hid (BoxH ⟨kd, ix, ct, bt, op, lp, ln⟩ k (w5.alloc (.cells #[.int .i64 2, .int .i64 0, .int .i64 0] 78))) := hide (hx5.below hb6 hx5.lt)
    have HW6 : Hid (Box3 2 0 0 w5.heap.size (w5.alloc (.cells #[.int .i64 2, .int .i64 0, .int .i64 0] 78))) := hide (heap_alloc_new w5 _)
    have hsb := Hs.out (w5.alloc (.cells #[.int .i64 2, .int .i64 0, .int .i64 0] 78)) HB6.out
    clear hb4 hx4 HB4 hlt4 FC HX4 hb hb5 hx5 hb6 HB3 HX3 HL3 HC2
    go_wp2_with fail
    (with_reducible refine (F5.out _).mono ?_)
    rintro e w7 ⟨rfl, hb⟩
    have HB7 := HB6.out.trans (hb.mono HB6.out.size)
    have HX7 := HX6.out.below hb HX6.out.lt
    have HW7 := HW6.out.below hb HW6.out.lt
    have hb8 := (Below.refl w7.heap.size w7).alloc (Nat.le_refl _) (.cells #[.int .i64 2, .int .i64 0, .int .i64 0] 78)
    have HB8 : Hid (Below w.heap.size w (w7.alloc (.cells #[.int .i64 2, .int .i64 0, .int .i64 0] 78))) := hide (HB7.trans (hb8.mono HB7.size))
    have HX8 : Hid (BoxH ⟨kd, ix, ct, bt, op, lp, ln⟩ k (w7.alloc (.cells #[.int .i64 2, .int .i64 0, .int .i64 0] 78))) := hide (HX7.below hb8 HX7.lt)
    have HW8 : Hid (Box3 2 0 0 w5.heap.size (w7.alloc (.cells #[.int .i64 2, .int .i64 0, .int .i64 0] 78))) := hide (HW7.below hb8 HW7.lt)
    have HV8 : Hid (Box3 2 0 0 w7.heap.size (w7.alloc (.cells #[.int .i64 2, .int .i64 0, .int .i64 0] 78))) := hide (heap_alloc_new w7 _)
    clear hb HB7 HX7 HW7 hb8 HB6 HX6 HW6 hsb F5
    go_wp2_with fail
    (with_reducible refine (seal_none A n c _ Hne.out).mono ?_)
    rintro e w9 ⟨rfl, rfl⟩
    generalize w7.alloc (.cells #[.int .i64 2, .int .i64 0, .int .i64 0] 78) = w9 at *
    have a0 := HW8.out.c 0 _ rfl
    have a1 := HW8.out.c 1 _ rfl
    have a2 := HW8.out.c 2 _ rfl
    have b0 := HV8.out.c 0 _ rfl
    have b1 := HV8.out.c 1 _ rfl
    have b2 := HV8.out.c 2 _ rfl
    have hsb := Hs.out _ HB8.out
    have hN := neq3 2 0 0
    clear HW8 HV8
    have HB9 := HB8
    have HX9 := HX8
    clear HB8 HX8
    go_wp2_with fail
    (with_reducible refine (FO.out _).mono ?_)
    rintro e w10 ⟨A4, c4, rfl, ho, hb⟩
    have hc4 : 256 ≤ c4 := by obtain ⟨_, _, h1, h2, _⟩ := own_form ho; injection h1 with _ _ h3; omega
    have HC4 := hide hc4
    have HL4 := hide (Lies.of_own ho)
    have HB10 := hide (HB9.out.trans (hb.mono HB9.out.size))
    have HX10 := hide (HX9.out.below hb HX9.out.lt)
    clear ho hb hc4 HB9 HX9 FO
    go_wp2_with fail
    (with_reducible refine (preopen_bad A4 256 c4 w10.heap.size r opn w10 HL4.out hrl.out.symm HC4.out (Nat.le_refl _) (by rw [hr0.out]; decide)).mono ?_)
    rintro e w11 ⟨rfl, hb⟩
    have HB11 := hide (HB10.out.trans (hb.mono HB10.out.size))
    have HX11 := hide (HX10.out.below hb HX10.out.lt)
    clear hb HB10 HX10 HL4 HC4 hrl hr0
    have R := HX11.out.range
    unfold Hd.cells at R
    dsimp only at R
    go_wp2_with (with_reducible refine wpl_load_mid rfl 57 (.tmp 3) rfl k 0 _ R rfl _ Try.underlying57 rfl 7 infoHd (by with_unfolding_all rfl) ?_)
    (with_reducible refine (Fm.out _).mono ?_)
    rintro e w12 ⟨rfl, hb⟩
    have HB12 := hide (HB11.out.trans (hb.mono HB11.out.size))
    have HX12 := hide (HX11.out.below hb HX11.out.lt)
    clear hb HB11 HX11 Fm R
    have d6 := HX12.out.c 6 _ rfl
    dsimp only at d6
    have R := HX12.out.range
    unfold Hd.cells at R
    dsimp only at R
    go_wp2_with (with_reducible refine wpl_load_mid rfl 57 (.tmp 3) rfl k 0 _ R rfl _ Try.underlying57 rfl 7 infoHd (by with_unfolding_all rfl) ?_)
    (with_reducible refine (Fq.out _).mono ?_)
    rintro e w13 ⟨rfl, hb⟩
    have HB13 := hide (HB12.out.trans (hb.mono HB12.out.size))
    have HX13 := hide (HX12.out.below hb HX12.out.lt)
    clear hb HB12 HX12 d6 R Fq hnl
    obtain ⟨cs, w14, hcv, hcap, hb14, hl14⟩ := strBytesP w13 s1
    rw [HLen1.out] at hcv hcap
    have HB14 := hide (HB13.out.trans (hb14.mono HB13.out.size))
    have HX14 := hide (HX13.out.below hb14 HX13.out.lt)
    have HL14 := hide hl14
    have HC14 := hide hcap
    clear hb14 hl14 hcap HB13 HX13
    go_wp2_with fail
    (with_reducible refine (Fr.out _ cs w14.heap.size w14 HL14.out HC14.out (Nat.le_refl _)).mono ?_)
    rintro e w15 ⟨rfl, hb⟩
    have HB15 := hide (HB14.out.trans (hb.mono HB14.out.size))
    clear hb HB14 HL14 HC14 hcv Fr
    go_wp2_with fail
    (with_reducible refine (awake15_any _).mono ?_)
    rintro e w16 ⟨rfl, hb⟩
    have HB16 := hide (HB15.out.trans (hb.mono HB15.out.size))
    clear hb
    go_wp2
    go_ret
    exact ⟨rfl, HB16.out⟩

set_option maxRecDepth 60000 in
set_option maxHeartbeats 8000000 in
theorem reopens_0n_m3 (h : Hd) (dt : List UInt8) (opn : Nat) (A : Option Addr) (n c : Nat) (b : List UInt8) (w : World) (hl : Lies w w.heap.size A (bys b)) (hn : n = b.length) (hc : n ≤ c) (hsm : n ≤ 300) (hk : classN b = 0) (hne : n ≠ 252) (hm : h.May) (hd : (dt.length : Int) = h.len) (ho : opn < 2147483648) :
    Calls Try.prog 7 #[.agg (fourC h dt opn A n c).toArray] w fun e w' => e = .returned (.bool true) ∧ Below w.heap.size w w' := by
  have h4 : ¬ (300 : Int) < (n : Int) := by omega
  have HL := hide hl
  have Hn := hide hn
  have Hc := hide hc
  have hs := fun W (hW : Below w.heap.size w W) => strU8 c (hl.below hW) hn
  have FO : Hid (∀ W, Calls Try.prog 32 #[.int .i64 256] W fun e w' => ∃ A' c', e = .returned (.slice A' 256 c') ∧ w'.ownsRow W.heap.size 5 1 (.slice A' 256 c') 256 (bys (List.replicate 256 255)) ∧ Below W.heap.size W w') := hide (fun W => ones2_any 256 W (by omega))
  obtain ⟨r, hrep⟩ : ∃ r : List UInt8, Hid (r = List.replicate 256 255) := ⟨_, hide rfl⟩
  have hrl : Hid (r.length = 256) := hide (by rw [hrep.out, List.length_replicate])
  have hr0 : Hid (classN r = 0) := hide (by unfold classN; rw [if_pos hrep.out])
  rw [← hrep.out] at FO
  have F5 := fun W => class15_any b W (by omega)
  rw [hk] at F5
  have F5 : Hid (∀ W, Calls Try.prog 30 #[.string (str b)] W fun e w' => e = .returned (.int .i64 0) ∧ Below W.heap.size W w') := hide F5
  have HK := hide hk
  have Hs := hide hs
  clear hl hn hc hk hs hrep hsm
  have Hne := hide hne
  have e1 : ¬ (n : Int) = 252 := by omega
  have e2 : ((n : Int) == 252) = false := by rw [beq_eq_false_iff_ne]; omega
  have e3 : ((n : Int) != 252) = true := by rw [bne_iff_ne]; omega
  clear hne
  have Fm := fun W => may15_any h W
  rw [decide_eq_true hm] at Fm
  have Fm := hide Fm
  have hsz := str_size dt
  have hnl : ((dt.length : Int) != h.len) = false := by rw [hd]; simp
  have Fq := hide (fun W => put15_any h dt W hm hd)
  have h12 := hm.2.2.2.2.2.2.2.2.2.2.2
  have hlen : (pageB h dt).length = 256 := pageB_len h dt (by omega)
  have Fr := hide (fun A c B W => reopen_ok h dt A c B opn W hm hd ho)
  have o1 : decide ((2147483648 : Int) ≤ (opn : Int)) = false := decide_eq_false (by omega)
  have hm2 : Hd.May ⟨h.kind, h.index, h.count, h.batch, opn, h.lpn, h.len⟩ := by
    obtain ⟨a1, a2, a3, a4, a5, a6, a7, _, a9⟩ := hm
    exact ⟨a1, a2, a3, a4, a5, a6, a7, ho, a9⟩
  have Fz := hide (fun W => put15_any ⟨h.kind, h.index, h.count, h.batch, opn, h.lpn, h.len⟩ dt W hm2 hd)
  have hlen2 : (pageB ⟨h.kind, h.index, h.count, h.batch, opn, h.lpn, h.len⟩ dt).length = 256 := pageB_len _ dt (by show dt.length ≤ 228; omega)
  generalize pageB ⟨h.kind, h.index, h.count, h.batch, opn, h.lpn, h.len⟩ dt = s2 at *
  have HLen2 := hide hlen2
  clear hlen2 hm2
  generalize pageB h dt = s1 at *
  have HLen1 := hide hlen
  generalize dt.length = nd at *
  clear hlen h12 hm hd ho
  rcases h with ⟨kd, ix, ct, bt, op, lp, ln⟩
  have hx1 := heap_alloc_new w (.cells #[.int .i64 kd, .int .i64 ix, .int .i64 ct, .int .u64 (bt : Int), .int .u64 (op : Int), .int .i64 lp, .int .i64 ln, .string (str dt), .int .u64 (opn : Int), .slice A n c] 77)
  have hb1 := (Below.refl w.heap.size w).alloc (Nat.le_refl _) (.cells #[.int .i64 kd, .int .i64 ix, .int .i64 ct, .int .u64 (bt : Int), .int .u64 (op : Int), .int .i64 lp, .int .i64 ln, .string (str dt), .int .u64 (opn : Int), .slice A n c] 77)
  have hs1 : w.heap.size < (w.alloc (.cells #[.int .i64 kd, .int .i64 ix, .int .i64 ct, .int .u64 (bt : Int), .int .u64 (op : Int), .int .i64 lp, .int .i64 ln, .string (str dt), .int .u64 (opn : Int), .slice A n c] 77)).heap.size := by simp
  unfold fourC at *
  unfold Hd.cells at *
  try unfold Hd.val at *
  simp only [List.cons_append, List.nil_append] at *
  have HX1 := hide hx1
  have HB1 := hide hb1
  have Hg := hide hs1
  clear hx1 hb1 hs1
  go_enter Try.func7, Try.ntmps7
  go_upto_region 1 with fail
  generalize w.alloc (.cells #[.int .i64 kd, .int .i64 ix, .int .i64 ct, .int .u64 (bt : Int), .int .u64 (op : Int), .int .i64 lp, .int .i64 ln, .string (str dt), .int .u64 (opn : Int), .slice A n c] 77) = w1 at *
  have c0 : w1.cell? ⟨w.heap.size, 0, none⟩ = some (.int .i64 kd) := World.news_of_block HX1.out 0 _ rfl
  have c1 : w1.cell? ⟨w.heap.size, 1, none⟩ = some (.int .i64 ix) := World.news_of_block HX1.out 1 _ rfl
  have c2 : w1.cell? ⟨w.heap.size, 2, none⟩ = some (.int .i64 ct) := World.news_of_block HX1.out 2 _ rfl
  have c3 : w1.cell? ⟨w.heap.size, 3, none⟩ = some (.int .u64 (bt : Int)) := World.news_of_block HX1.out 3 _ rfl
  have c4 : w1.cell? ⟨w.heap.size, 4, none⟩ = some (.int .u64 (op : Int)) := World.news_of_block HX1.out 4 _ rfl
  have c5 : w1.cell? ⟨w.heap.size, 5, none⟩ = some (.int .i64 lp) := World.news_of_block HX1.out 5 _ rfl
  have c6 : w1.cell? ⟨w.heap.size, 6, none⟩ = some (.int .i64 ln) := World.news_of_block HX1.out 6 _ rfl
  have c7 : w1.cell? ⟨w.heap.size, 7, none⟩ = some (.string (str dt)) := World.news_of_block HX1.out 7 _ rfl
  have c8 : w1.cell? ⟨w.heap.size, 8, none⟩ = some (.int .u64 (opn : Int)) := World.news_of_block HX1.out 8 _ rfl
  have c9 : w1.cell? ⟨w.heap.size, 9, none⟩ = some (.slice A n c) := World.news_of_block HX1.out 9 _ rfl
  refine Big.wp_region_big (by kernel_rfl) (fun d v => match d with | 17 => v = .pointer (some ⟨w.heap.size, 0, none⟩) | 18 => v = .agg #[.int .i64 kd, .int .i64 ix, .int .i64 ct, .int .u64 (bt : Int), .int .u64 (op : Int), .int .i64 lp, .int .i64 ln] | 19 => v = .pointer (some ⟨w.heap.size, 7, none⟩) | 20 => v = .string (str dt) | 21 => v = .pointer (some ⟨w.heap.size, 8, none⟩) | 22 => v = .int .u64 (opn : Int) | 23 => v = .pointer (some ⟨w.heap.size, 9, none⟩) | 24 => v = .slice A n c | 3 => ∃ k, v = .pointer (some ⟨k, 0, none⟩) | 4 => v = .string (str dt) | 5 => v = .int .u64 (opn : Int) | 6 => v = .slice A n c | _ => True) (PhiP w1 ⟨kd, ix, ct, bt, op, lp, ln⟩) [8, 9] [3] (by kernel_rfl) (by kernel_rfl) (by decide) (PhiP.loc _ _) (Or.inl ⟨rfl, (Below.refl _ _).drew⟩) ⟨?_, ?_, ?_, ?_, ?_, ?_, ?_, ?_, ?_, ?_, ?_, ?_, ?_, trivial⟩ ?_
  · refine Big.small (by decide) ?_
    intro i' a' w' hi' hΦ h'
    have hb' := hΦ.below
    have e1 : a'.tmps.getD 1 undef = .pointer (some ⟨w.heap.size, 0, none⟩) := Big.sb h' 1 (by kernel_rfl) (by kernel_rfl) rfl
    exact .val (want0 rfl) rfl (by simp [Act.eval, e1, go_sem]) rfl
  · refine Big.small (by decide) ?_
    intro i' a' w' hi' hΦ h'
    have hb' := hΦ.below
    have q0 := (hb'.cell (p := ⟨w.heap.size, 0, none⟩) Hg.out).trans c0
    have q1 := (hb'.cell (p := ⟨w.heap.size, 1, none⟩) Hg.out).trans c1
    have q2 := (hb'.cell (p := ⟨w.heap.size, 2, none⟩) Hg.out).trans c2
    have q3 := (hb'.cell (p := ⟨w.heap.size, 3, none⟩) Hg.out).trans c3
    have q4 := (hb'.cell (p := ⟨w.heap.size, 4, none⟩) Hg.out).trans c4
    have q5 := (hb'.cell (p := ⟨w.heap.size, 5, none⟩) Hg.out).trans c5
    have q6 := (hb'.cell (p := ⟨w.heap.size, 6, none⟩) Hg.out).trans c6
    have e17 : a'.tmps.getD 17 undef = .pointer (some ⟨w.heap.size, 0, none⟩) := Big.sw h' 17 (by kernel_rfl) (by kernel_rfl)
    exact .val (want0 rfl) rfl (by simp [Act.eval, e17, q0, q1, q2, q3, q4, q5, q6, go_sem]) rfl
  · refine Big.small (by decide) ?_
    intro i' a' w' hi' hΦ h'
    have hb' := hΦ.below
    have e1 : a'.tmps.getD 1 undef = .pointer (some ⟨w.heap.size, 0, none⟩) := Big.sb h' 1 (by kernel_rfl) (by kernel_rfl) rfl
    exact .val (want0 rfl) rfl (by simp [Act.eval, e1, go_sem]) rfl
  · refine Big.small (by decide) ?_
    intro i' a' w' hi' hΦ h'
    have hb' := hΦ.below
    have q7 := (hb'.cell (p := ⟨w.heap.size, 7, none⟩) Hg.out).trans c7
    have e19 : a'.tmps.getD 19 undef = .pointer (some ⟨w.heap.size, 7, none⟩) := Big.sw h' 19 (by kernel_rfl) (by kernel_rfl)
    exact .val (want0 rfl) rfl (by simp [Act.eval, e19, q7, go_sem]) rfl
  · refine Big.small (by decide) ?_
    intro i' a' w' hi' hΦ h'
    have hb' := hΦ.below
    have e1 : a'.tmps.getD 1 undef = .pointer (some ⟨w.heap.size, 0, none⟩) := Big.sb h' 1 (by kernel_rfl) (by kernel_rfl) rfl
    exact .val (want0 rfl) rfl (by simp [Act.eval, e1, go_sem]) rfl
  · refine Big.small (by decide) ?_
    intro i' a' w' hi' hΦ h'
    have hb' := hΦ.below
    have q8 := (hb'.cell (p := ⟨w.heap.size, 8, none⟩) Hg.out).trans c8
    have e21 : a'.tmps.getD 21 undef = .pointer (some ⟨w.heap.size, 8, none⟩) := Big.sw h' 21 (by kernel_rfl) (by kernel_rfl)
    exact .val (want0 rfl) rfl (by simp [Act.eval, e21, q8, go_sem]) rfl
  · refine Big.small (by decide) ?_
    intro i' a' w' hi' hΦ h'
    have hb' := hΦ.below
    have e1 : a'.tmps.getD 1 undef = .pointer (some ⟨w.heap.size, 0, none⟩) := Big.sb h' 1 (by kernel_rfl) (by kernel_rfl) rfl
    exact .val (want0 rfl) rfl (by simp [Act.eval, e1, go_sem]) rfl
  · refine Big.small (by decide) ?_
    intro i' a' w' hi' hΦ h'
    have hb' := hΦ.below
    have q9 := (hb'.cell (p := ⟨w.heap.size, 9, none⟩) Hg.out).trans c9
    have e23 : a'.tmps.getD 23 undef = .pointer (some ⟨w.heap.size, 9, none⟩) := Big.sw h' 23 (by kernel_rfl) (by kernel_rfl)
    exact .val (want0 rfl) rfl (by simp [Act.eval, e23, q9, go_sem]) rfl
  · refine Big.great (i := 0) rfl (by decide) ?_
    intro a' w' hsz' hΦ h'
    have hb' := hΦ.below
    exact .made (d := 3) (v := .pointer (some ⟨w'.heap.size, 0, none⟩)) (w' := w'.alloc (.cells #[.int .i64 0, .int .i64 0, .int .i64 0, .int .u64 0, .int .u64 0, .int .i64 0, .int .i64 0] 57)) (want0 rfl) rfl (by simp [go_sem]) ⟨_, rfl⟩ (.inr (.inl ⟨rfl, _, Big.slots_put (by rw [hsz']; simp), hb'.size, hb'.alloc hb'.size _, heap_alloc_new w' _⟩))
  · refine Big.great (i := 1) rfl (by decide) ?_
    intro a' w' hsz' hΦ h'
    have e18 : a'.tmps.getD 18 undef = .agg #[.int .i64 kd, .int .i64 ix, .int .i64 ct, .int .u64 (bt : Int), .int .u64 (op : Int), .int .i64 lp, .int .i64 ln] := Big.sw h' 18 (by kernel_rfl) (by kernel_rfl)
    obtain ⟨k, e3, hk, hb', hz⟩ := hΦ.at1
    have e3' : a'.tmps.getD 3 undef = .pointer (some ⟨k, 0, none⟩) := e3
    intro K' Q hK
    rw [if_pos (want0 rfl)]
    exact wp_store_row 57 (.tmp 3) (.tmp 18) rfl k #[.int .i64 kd, .int .i64 ix, .int .i64 ct, .int .u64 (bt : Int), .int .u64 (op : Int), .int .i64 lp, .int .i64 ln] e3' e18 57 _ hz infoHd rfl (by simp [Value.oneCell']) (hK undef _ (fun d hd => by cases hd) (.inr (.inr ⟨Nat.le_refl _, k, e3, hk, setRow_belowP hb' hk _, setRow_heap _ _ _ _ _ _ hz⟩)))
  · refine Big.small (by decide) ?_
    intro i' a' w' hi' hΦ h'
    have hb' := hΦ.below
    have e20 : a'.tmps.getD 20 undef = .string (str dt) := Big.sw h' 20 (by kernel_rfl) (by kernel_rfl)
    exact .val (want0 rfl) rfl (by simp [Act.eval, e20, go_sem]) rfl
  · refine Big.small (by decide) ?_
    intro i' a' w' hi' hΦ h'
    have hb' := hΦ.below
    have e22 : a'.tmps.getD 22 undef = .int .u64 (opn : Int) := Big.sw h' 22 (by kernel_rfl) (by kernel_rfl)
    exact .val (want0 rfl) rfl (by simp [Act.eval, e22, go_sem]) rfl
  · refine Big.small (by decide) ?_
    intro i' a' w' hi' hΦ h'
    have hb' := hΦ.below
    have e24 : a'.tmps.getD 24 undef = .slice A n c := Big.sw h' 24 (by kernel_rfl) (by kernel_rfl)
    exact .val (want0 rfl) rfl (by simp [Act.eval, e24, go_sem]) rfl
  · intro a' w' hdf hsz hwr hkp hΦ
    obtain ⟨k, e3, hk, hb', hz⟩ := hΦ.at2
    have e3' : a'.tmps.getD 3 undef = .pointer (some ⟨k, 0, none⟩) := e3
    have f17 : a'.tmps.getD 17 undef = .pointer (some ⟨w.heap.size, 0, none⟩) := hwr 17 (by kernel_rfl)
    have f18 : a'.tmps.getD 18 undef = .agg #[.int .i64 kd, .int .i64 ix, .int .i64 ct, .int .u64 (bt : Int), .int .u64 (op : Int), .int .i64 lp, .int .i64 ln] := hwr 18 (by kernel_rfl)
    have f19 : a'.tmps.getD 19 undef = .pointer (some ⟨w.heap.size, 7, none⟩) := hwr 19 (by kernel_rfl)
    have f20 : a'.tmps.getD 20 undef = .string (str dt) := hwr 20 (by kernel_rfl)
    have f21 : a'.tmps.getD 21 undef = .pointer (some ⟨w.heap.size, 8, none⟩) := hwr 21 (by kernel_rfl)
    have f22 : a'.tmps.getD 22 undef = .int .u64 (opn : Int) := hwr 22 (by kernel_rfl)
    have f23 : a'.tmps.getD 23 undef = .pointer (some ⟨w.heap.size, 9, none⟩) := hwr 23 (by kernel_rfl)
    have f24 : a'.tmps.getD 24 undef = .slice A n c := hwr 24 (by kernel_rfl)
    have f4 : a'.tmps.getD 4 undef = .string (str dt) := hwr 4 (by kernel_rfl)
    have f5 : a'.tmps.getD 5 undef = .int .u64 (opn : Int) := hwr 5 (by kernel_rfl)
    have f6 : a'.tmps.getD 6 undef = .slice A n c := hwr 6 (by kernel_rfl)
    have hfr := Flo2.frame_eq [(17, .pointer (some ⟨w.heap.size, 0, none⟩)), (18, .agg #[.int .i64 kd, .int .i64 ix, .int .i64 ct, .int .u64 (bt : Int), .int .u64 (op : Int), .int .i64 lp, .int .i64 ln]), (19, .pointer (some ⟨w.heap.size, 7, none⟩)), (20, .string (str dt)), (21, .pointer (some ⟨w.heap.size, 8, none⟩)), (22, .int .u64 (opn : Int)), (23, .pointer (some ⟨w.heap.size, 9, none⟩)), (24, .slice A n c), (3, .pointer (some ⟨k, 0, none⟩)), (4, .string (str dt)), (5, .int .u64 (opn : Int)), (6, .slice A n c)] a'.tmps _ hsz (by
      intro x hx
      simp only [List.mem_cons, List.not_mem_nil, or_false] at hx
      rcases hx with h | h | h | h | h | h | h | h | h | h | h | h <;> subst h
      · exact f17
      · exact f18
      · exact f19
      · exact f20
      · exact f21
      · exact f22
      · exact f23
      · exact f24
      · exact e3'
      · exact f4
      · exact f5
      · exact f6) (fun t ht => hkp t (Flo3.writes_not _ _ (by kernel_rfl) ht))
    have ha := Flo3.act_ext hfr hdf
    have HB2 := hide (HB1.out.trans (hb'.mono HB1.out.size))
    have HX2 := hide (show BoxH ⟨kd, ix, ct, bt, op, lp, ln⟩ k w' from hz)
    clear hfr hwr hkp hsz hdf e3 e3' hz hb' hk hΦ HX1 HB1 Hg c0 c1 c2 c3 c4 c5 c6 c7 c8 c9 f17 f18 f19 f20 f21 f22 f23 f24 f4 f5 f6
    subst ha
    simp only [Flo2.puts, List.foldl_cons, List.foldl_nil, List.setIfInBounds_toArray, List.set, Exit.inBlock, Exit.then]
    generalize w' = w2 at *
    go_wp2_with fail
    (with_reducible refine (FO.out _).mono ?_)
    rintro e w3 ⟨A2, c2, rfl, ho, hb⟩
    have hc2 : 256 ≤ c2 := by obtain ⟨_, _, h1, h2, _⟩ := own_form ho; injection h1 with _ _ h3; omega
    have HC2 := hide hc2
    have HL3 := hide (Lies.of_own ho)
    have HB3 := hide (HB2.out.trans (hb.mono HB2.out.size))
    have HX3 := hide (HX2.out.below hb HX2.out.lt)
    clear ho hb hc2 HB2 HX2
    go_wp2_with fail
    have hb4 := (Below.refl w3.heap.size w3).alloc (Nat.le_refl _) (.cells #[.slice A n c, .slice A2 256 c2] 40)
    have hx4 := heap_alloc_new w3 (.cells #[.slice A n c, .slice A2 256 c2] 40)
    have HB4 := HB3.out.trans (hb4.mono HB3.out.size)
    have hlt4 : w3.heap.size < (w3.alloc (.cells #[.slice A n c, .slice A2 256 c2] 40)).heap.size := by simp
    have FC := pclasses_0 ⟨w3.heap.size, 0, none⟩ 2 A A2 n c 256 c2 b r (w3.alloc (.cells #[.slice A n c, .slice A2 256 c2] 40)) hlt4 (World.news_of_block hx4 0 _ rfl) (World.news_of_block hx4 1 _ rfl) ((HL.out.below HB4).up HB4.size) Hn.out Hc.out ((HL3.out.below hb4).up hb4.size) hrl.out.symm HC2.out HK.out hr0.out
    have HX4 := HX3.out.below hb4 HX3.out.lt
    (with_reducible refine FC.mono ?_)
    rintro e w5 ⟨rfl, hb⟩
    have hb5 := HB4.trans (hb.mono HB4.size)
    have hx5 := HX4.below hb HX4.lt
    have hb6 := (Below.refl w5.heap.size w5).alloc (Nat.le_refl _) (.cells #[.int .i64 2, .int .i64 0, .int .i64 0] 78)
    have HB6 : Hid (Below w.heap.size w (w5.alloc (.cells #[.int .i64 2, .int .i64 0, .int .i64 0] 78))) := hide (hb5.trans (hb6.mono hb5.size))
    have HX6 : Hid (BoxH ⟨kd, ix, ct, bt, op, lp, ln⟩ k (w5.alloc (.cells #[.int .i64 2, .int .i64 0, .int .i64 0] 78))) := hide (hx5.below hb6 hx5.lt)
    have HW6 : Hid (Box3 2 0 0 w5.heap.size (w5.alloc (.cells #[.int .i64 2, .int .i64 0, .int .i64 0] 78))) := hide (heap_alloc_new w5 _)
    have hsb := Hs.out (w5.alloc (.cells #[.int .i64 2, .int .i64 0, .int .i64 0] 78)) HB6.out
    clear hb4 hx4 HB4 hlt4 FC HX4 hb hb5 hx5 hb6 HB3 HX3 HL3 HC2
    go_wp2_with fail
    (with_reducible refine (F5.out _).mono ?_)
    rintro e w7 ⟨rfl, hb⟩
    have HB7 := HB6.out.trans (hb.mono HB6.out.size)
    have HX7 := HX6.out.below hb HX6.out.lt
    have HW7 := HW6.out.below hb HW6.out.lt
    have hb8 := (Below.refl w7.heap.size w7).alloc (Nat.le_refl _) (.cells #[.int .i64 2, .int .i64 0, .int .i64 0] 78)
    have HB8 : Hid (Below w.heap.size w (w7.alloc (.cells #[.int .i64 2, .int .i64 0, .int .i64 0] 78))) := hide (HB7.trans (hb8.mono HB7.size))
    have HX8 : Hid (BoxH ⟨kd, ix, ct, bt, op, lp, ln⟩ k (w7.alloc (.cells #[.int .i64 2, .int .i64 0, .int .i64 0] 78))) := hide (HX7.below hb8 HX7.lt)
    have HW8 : Hid (Box3 2 0 0 w5.heap.size (w7.alloc (.cells #[.int .i64 2, .int .i64 0, .int .i64 0] 78))) := hide (HW7.below hb8 HW7.lt)
    have HV8 : Hid (Box3 2 0 0 w7.heap.size (w7.alloc (.cells #[.int .i64 2, .int .i64 0, .int .i64 0] 78))) := hide (heap_alloc_new w7 _)
    clear hb HB7 HX7 HW7 hb8 HB6 HX6 HW6 hsb F5
    go_wp2_with fail
    (with_reducible refine (seal_none A n c _ Hne.out).mono ?_)
    rintro e w9 ⟨rfl, rfl⟩
    generalize w7.alloc (.cells #[.int .i64 2, .int .i64 0, .int .i64 0] 78) = w9 at *
    have a0 := HW8.out.c 0 _ rfl
    have a1 := HW8.out.c 1 _ rfl
    have a2 := HW8.out.c 2 _ rfl
    have b0 := HV8.out.c 0 _ rfl
    have b1 := HV8.out.c 1 _ rfl
    have b2 := HV8.out.c 2 _ rfl
    have hsb := Hs.out _ HB8.out
    have hN := neq3 2 0 0
    clear HW8 HV8
    have HB9 := HB8
    have HX9 := HX8
    clear HB8 HX8
    go_wp2_with fail
    (with_reducible refine (FO.out _).mono ?_)
    rintro e w10 ⟨A4, c4, rfl, ho, hb⟩
    have hc4 : 256 ≤ c4 := by obtain ⟨_, _, h1, h2, _⟩ := own_form ho; injection h1 with _ _ h3; omega
    have HC4 := hide hc4
    have HL4 := hide (Lies.of_own ho)
    have HB10 := hide (HB9.out.trans (hb.mono HB9.out.size))
    have HX10 := hide (HX9.out.below hb HX9.out.lt)
    clear ho hb hc4 HB9 HX9 FO
    go_wp2_with fail
    (with_reducible refine (preopen_bad A4 256 c4 w10.heap.size r opn w10 HL4.out hrl.out.symm HC4.out (Nat.le_refl _) (by rw [hr0.out]; decide)).mono ?_)
    rintro e w11 ⟨rfl, hb⟩
    have HB11 := hide (HB10.out.trans (hb.mono HB10.out.size))
    have HX11 := hide (HX10.out.below hb HX10.out.lt)
    clear hb HB10 HX10 HL4 HC4 hrl hr0
    have R := HX11.out.range
    unfold Hd.cells at R
    dsimp only at R
    go_wp2_with (with_reducible refine wpl_load_mid rfl 57 (.tmp 3) rfl k 0 _ R rfl _ Try.underlying57 rfl 7 infoHd (by with_unfolding_all rfl) ?_)
    (with_reducible refine (Fm.out _).mono ?_)
    rintro e w12 ⟨rfl, hb⟩
    have HB12 := hide (HB11.out.trans (hb.mono HB11.out.size))
    have HX12 := hide (HX11.out.below hb HX11.out.lt)
    clear hb HB11 HX11 Fm R
    have d6 := HX12.out.c 6 _ rfl
    dsimp only at d6
    have R := HX12.out.range
    unfold Hd.cells at R
    dsimp only at R
    go_wp2_with (with_reducible refine wpl_load_mid rfl 57 (.tmp 3) rfl k 0 _ R rfl _ Try.underlying57 rfl 7 infoHd (by with_unfolding_all rfl) ?_)
    (with_reducible refine (Fq.out _).mono ?_)
    rintro e w13 ⟨rfl, hb⟩
    have HB13 := hide (HB12.out.trans (hb.mono HB12.out.size))
    have HX13 := hide (HX12.out.below hb HX12.out.lt)
    clear hb HB12 HX12 d6 R Fq hnl
    obtain ⟨cs, w14, hcv, hcap, hb14, hl14⟩ := strBytesP w13 s1
    rw [HLen1.out] at hcv hcap
    have HB14 := hide (HB13.out.trans (hb14.mono HB13.out.size))
    have HX14 := hide (HX13.out.below hb14 HX13.out.lt)
    have HL14 := hide hl14
    have HC14 := hide hcap
    clear hb14 hl14 hcap HB13 HX13
    go_wp2_with fail
    (with_reducible refine (Fr.out _ cs w14.heap.size w14 HL14.out HC14.out (Nat.le_refl _)).mono ?_)
    rintro e w15 ⟨A5, c5, rfl, hc5, hl5, hb⟩
    have hb15 := HB14.out.trans (hb.mono HB14.out.size)
    have hx15 := HX14.out.below hb HX14.out.lt
    have hb16 : Below w15.heap.size w15 (w15.alloc (.cells #[.int .i64 kd, .int .i64 ix, .int .i64 ct, .int .u64 (bt : Int), .int .u64 (opn : Int), .int .i64 lp, .int .i64 ln] 57)) := (Below.refl _ _).alloc (Nat.le_refl _) _
    have HY16 : Hid (BoxH ⟨kd, ix, ct, bt, opn, lp, ln⟩ w15.heap.size (w15.alloc (.cells #[.int .i64 kd, .int .i64 ix, .int .i64 ct, .int .u64 (bt : Int), .int .u64 (opn : Int), .int .i64 lp, .int .i64 ln] 57))) := hide (heap_alloc_new w15 _)
    have HB16 := hide (hb15.trans (hb16.mono hb15.size))
    have HL16 := hide ((hl5.below hb16).up hb16.size)
    have g0 := hx15.c 0 _ rfl
    have g1 := hx15.c 1 _ rfl
    have g2 := hx15.c 2 _ rfl
    have g3 := hx15.c 3 _ rfl
    have g4 := hx15.c 4 _ rfl
    have g5 := hx15.c 5 _ rfl
    have g6 := hx15.c 6 _ rfl
    dsimp only at g0 g1 g2 g3 g4 g5 g6
    clear hb hb15 hx15 hb16 HB14 HX14 HL14 HC14 hcv Fr hc5 hl5
    go_upto_region 23 with fail
    generalize hw16 : w15.alloc (.cells #[.int .i64 kd, .int .i64 ix, .int .i64 ct, .int .u64 (bt : Int), .int .u64 (opn : Int), .int .i64 lp, .int .i64 ln] 57) = w16 at *
    clear hw16
    generalize w15.heap.size = k2 at *
    clear g0 g1 g2 g3 g4 g5 g6
    refine wp_region_all (by kernel_rfl) (fun dd => match dd with | 150 => is (.bool true) | 151 => is (.bool true) | 152 => is (.slice A5 256 c5) | 153 => is (.string (str s2)) | 154 => is (.agg #[.int .i64 kd, .int .i64 ix, .int .i64 ct, .int .u64 (bt : Int), .int .u64 (opn : Int), .int .i64 lp, .int .i64 ln]) | 155 => is (.string (str dt)) | 156 => is (.string (str s2)) | 157 => is (.bool true) | 158 => is (.bool true) | 159 => is (.bool true) | 160 => is (.int .i64 0) | 161 => is (.bool true) | 162 => is (.bool true) | 2 => is (.bool true) | _ => fun _ _ => True) (by kernel_rfl) ⟨?_, ?_, ?_, ?_, ?_, ?_, ?_, ?_, ?_, ?_, ?_, ?_, ?_, ?_, trivial⟩ ?_
    · intro a w' hb h
      exact .called (want0 rfl) rfl (by simp [go_sem]) (belowF (awake15_any w'))
    · intro a w' hb h
      have e150 := (sw h 150 (by kernel_rfl) (by kernel_rfl)).eq
      exact .val (want0 rfl) rfl (by simp [Act.eval, e150, go_sem]) (Keeps.is rfl)
    · intro a w' hb h
      have eg := (sw h 151 (by kernel_rfl) (by kernel_rfl)).eq
      have e14 : a.tmps.getD 14 undef = .slice A5 256 c5 := sb h 14 (by kernel_rfl) (by kernel_rfl) rfl
      exact .val (wantg rfl (by kernel_rfl) eg) rfl (by simp [Act.eval, e14, go_sem]) (Keeps.is rfl)
    · intro a w' hb h
      have eg := (sw h 151 (by kernel_rfl) (by kernel_rfl)).eq
      have e152 := (sw h 152 (by kernel_rfl) (by kernel_rfl)).eq
      have hs := strU8 c5 (HL16.out.below hb) HLen2.out.symm
      exact .val (wantg rfl (by kernel_rfl) eg) rfl (by simp [Act.eval, e152, hs, go_sem]) (Keeps.is rfl)
    · intro a w' hb h
      have eg := (sw h 151 (by kernel_rfl) (by kernel_rfl)).eq
      have e16 : a.tmps.getD 16 undef = .pointer (some ⟨k2, 0, none⟩) := sb h 16 (by kernel_rfl) (by kernel_rfl) rfl
      have kx := HY16.out.below hb HY16.out.lt
      have q0 := kx.c 0 _ rfl
      have q1 := kx.c 1 _ rfl
      have q2 := kx.c 2 _ rfl
      have q3 := kx.c 3 _ rfl
      have q4 := kx.c 4 _ rfl
      have q5 := kx.c 5 _ rfl
      have q6 := kx.c 6 _ rfl
      dsimp only at q0 q1 q2 q3 q4 q5 q6
      exact .val (wantg rfl (by kernel_rfl) eg) rfl (by simp [Act.eval, e16, q0, q1, q2, q3, q4, q5, q6, go_sem]) (Keeps.is rfl)
    · intro a w' hb h
      have eg := (sw h 151 (by kernel_rfl) (by kernel_rfl)).eq
      have e4 : a.tmps.getD 4 undef = .string (str dt) := sb h 4 (by kernel_rfl) (by kernel_rfl) rfl
      exact .val (wantg rfl (by kernel_rfl) eg) rfl (by simp [Act.eval, e4, go_sem]) (Keeps.is rfl)
    · intro a w' hb h
      have eg := (sw h 151 (by kernel_rfl) (by kernel_rfl)).eq
      have e154 := (sw h 154 (by kernel_rfl) (by kernel_rfl)).eq
      have e155 := (sw h 155 (by kernel_rfl) (by kernel_rfl)).eq
      exact .called (wantg rfl (by kernel_rfl) eg) rfl (by simp [Act.eval, e154, e155, go_sem]) (belowF (Fz.out w'))
    · intro a w' hb h
      have eg := (sw h 151 (by kernel_rfl) (by kernel_rfl)).eq
      have e153 := (sw h 153 (by kernel_rfl) (by kernel_rfl)).eq
      have e156 := (sw h 156 (by kernel_rfl) (by kernel_rfl)).eq
      exact .val (wantg rfl (by kernel_rfl) eg) rfl (by simp [Act.eval, e153, e156, go_sem]) (Keeps.is rfl)
    · intro a w' hb h
      have e151 := (sw h 151 (by kernel_rfl) (by kernel_rfl)).eq
      have e157 := (sw h 157 (by kernel_rfl) (by kernel_rfl)).eq
      exact .val (want0 rfl) rfl (by simp [Act.eval, e151, e157, go_sem]) (Keeps.is rfl)
    · intro a w' hb h
      have e158 := (sw h 158 (by kernel_rfl) (by kernel_rfl)).eq
      exact .val (want0 rfl) rfl (by simp [Act.eval, e158, go_sem]) (Keeps.is rfl)
    · intro a w' hb h
      have eg := (sw h 159 (by kernel_rfl) (by kernel_rfl)).eq
      have e15 : a.tmps.getD 15 undef = .int .i64 0 := sb h 15 (by kernel_rfl) (by kernel_rfl) rfl
      exact .val (wantg rfl (by kernel_rfl) eg) rfl (by simp [Act.eval, e15, go_sem]) (Keeps.is rfl)
    · intro a w' hb h
      have eg := (sw h 159 (by kernel_rfl) (by kernel_rfl)).eq
      have e160 := (sw h 160 (by kernel_rfl) (by kernel_rfl)).eq
      exact .val (wantg rfl (by kernel_rfl) eg) rfl (by simp [Act.eval, e160, go_sem]) (Keeps.is rfl)
    · intro a w' hb h
      have e159 := (sw h 159 (by kernel_rfl) (by kernel_rfl)).eq
      have e161 := (sw h 161 (by kernel_rfl) (by kernel_rfl)).eq
      exact .val (want0 rfl) rfl (by simp [Act.eval, e159, e161, go_sem]) (Keeps.is rfl)
    · intro a w' hb h
      have e162 := (sw h 162 (by kernel_rfl) (by kernel_rfl)).eq
      exact .val (want0 rfl) rfl (by simp [Act.eval, e162, go_sem]) (Keeps.is rfl)
    · intro a' w' hdf hsz hbl hwr hkp
      have f150 : a'.tmps.getD 150 undef = .bool true := (show Keeps (is (.bool true)) _ _ from hwr 150 (by kernel_rfl)).eq
      have f151 : a'.tmps.getD 151 undef = .bool true := (show Keeps (is (.bool true)) _ _ from hwr 151 (by kernel_rfl)).eq
      have f152 : a'.tmps.getD 152 undef = .slice A5 256 c5 := (show Keeps (is (.slice A5 256 c5)) _ _ from hwr 152 (by kernel_rfl)).eq
      have f153 : a'.tmps.getD 153 undef = .string (str s2) := (show Keeps (is (.string (str s2))) _ _ from hwr 153 (by kernel_rfl)).eq
      have f154 : a'.tmps.getD 154 undef = .agg #[.int .i64 kd, .int .i64 ix, .int .i64 ct, .int .u64 (bt : Int), .int .u64 (opn : Int), .int .i64 lp, .int .i64 ln] := (show Keeps (is (.agg #[.int .i64 kd, .int .i64 ix, .int .i64 ct, .int .u64 (bt : Int), .int .u64 (opn : Int), .int .i64 lp, .int .i64 ln])) _ _ from hwr 154 (by kernel_rfl)).eq
      have f155 : a'.tmps.getD 155 undef = .string (str dt) := (show Keeps (is (.string (str dt))) _ _ from hwr 155 (by kernel_rfl)).eq
      have f156 : a'.tmps.getD 156 undef = .string (str s2) := (show Keeps (is (.string (str s2))) _ _ from hwr 156 (by kernel_rfl)).eq
      have f157 : a'.tmps.getD 157 undef = .bool true := (show Keeps (is (.bool true)) _ _ from hwr 157 (by kernel_rfl)).eq
      have f158 : a'.tmps.getD 158 undef = .bool true := (show Keeps (is (.bool true)) _ _ from hwr 158 (by kernel_rfl)).eq
      have f159 : a'.tmps.getD 159 undef = .bool true := (show Keeps (is (.bool true)) _ _ from hwr 159 (by kernel_rfl)).eq
      have f160 : a'.tmps.getD 160 undef = .int .i64 0 := (show Keeps (is (.int .i64 0)) _ _ from hwr 160 (by kernel_rfl)).eq
      have f161 : a'.tmps.getD 161 undef = .bool true := (show Keeps (is (.bool true)) _ _ from hwr 161 (by kernel_rfl)).eq
      have f162 : a'.tmps.getD 162 undef = .bool true := (show Keeps (is (.bool true)) _ _ from hwr 162 (by kernel_rfl)).eq
      have f2 : a'.tmps.getD 2 undef = .bool true := (show Keeps (is (.bool true)) _ _ from hwr 2 (by kernel_rfl)).eq
      have hfr := Flo2.frame_eq [(150, .bool true), (151, .bool true), (152, .slice A5 256 c5), (153, .string (str s2)), (154, .agg #[.int .i64 kd, .int .i64 ix, .int .i64 ct, .int .u64 (bt : Int), .int .u64 (opn : Int), .int .i64 lp, .int .i64 ln]), (155, .string (str dt)), (156, .string (str s2)), (157, .bool true), (158, .bool true), (159, .bool true), (160, .int .i64 0), (161, .bool true), (162, .bool true), (2, .bool true)] a'.tmps _ hsz (by
        intro x hx
        simp only [List.mem_cons, List.not_mem_nil, or_false] at hx
        rcases hx with h | h | h | h | h | h | h | h | h | h | h | h | h | h <;> subst h
        · exact f150
        · exact f151
        · exact f152
        · exact f153
        · exact f154
        · exact f155
        · exact f156
        · exact f157
        · exact f158
        · exact f159
        · exact f160
        · exact f161
        · exact f162
        · exact f2) (fun t ht => hkp t (Flo3.writes_not _ _ (by kernel_rfl) ht))
      have ha := Flo3.act_ext hfr hdf
      clear hfr hwr hkp hsz hdf f150 f151 f152 f153 f154 f155 f156 f157 f158 f159 f160 f161 f162 f2
      subst ha
      simp only [Flo2.puts, List.foldl_cons, List.foldl_nil, List.setIfInBounds_toArray, List.set, Exit.then]
      have HBz := hide (HB16.out.trans (hbl.mono HB16.out.size))
      clear hbl HB16
      go_wp2
      go_ret
      exact ⟨rfl, HBz.out⟩

set_option maxRecDepth 60000 in
set_option maxHeartbeats 8000000 in
theorem reopens_1n_m0 (h : Hd) (dt : List UInt8) (opn : Nat) (A : Option Addr) (n c : Nat) (b : List UInt8) (w : World) (hl : Lies w w.heap.size A (bys b)) (hn : n = b.length) (hc : n ≤ c) (hsm : n ≤ 300) (hk : classN b = 1) (hne : n ≠ 252) (hm : ¬ h.May) :
    Calls Try.prog 7 #[.agg (fourC h dt opn A n c).toArray] w fun e w' => e = .returned (.bool true) ∧ Below w.heap.size w w' := by
  have h4 : ¬ (300 : Int) < (n : Int) := by omega
  have HL := hide hl
  have Hn := hide hn
  have Hc := hide hc
  have hs := fun W (hW : Below w.heap.size w W) => strU8 c (hl.below hW) hn
  have FO : Hid (∀ W, Calls Try.prog 32 #[.int .i64 256] W fun e w' => ∃ A' c', e = .returned (.slice A' 256 c') ∧ w'.ownsRow W.heap.size 5 1 (.slice A' 256 c') 256 (bys (List.replicate 256 255)) ∧ Below W.heap.size W w') := hide (fun W => ones2_any 256 W (by omega))
  obtain ⟨r, hrep⟩ : ∃ r : List UInt8, Hid (r = List.replicate 256 255) := ⟨_, hide rfl⟩
  have hrl : Hid (r.length = 256) := hide (by rw [hrep.out, List.length_replicate])
  have hr0 : Hid (classN r = 0) := hide (by unfold classN; rw [if_pos hrep.out])
  rw [← hrep.out] at FO
  have F5 := fun W => class15_any b W (by omega)
  rw [hk] at F5
  have F5 : Hid (∀ W, Calls Try.prog 30 #[.string (str b)] W fun e w' => e = .returned (.int .i64 1) ∧ Below W.heap.size W w') := hide F5
  have HK := hide hk
  have Hs := hide hs
  clear hl hn hc hk hs hrep hsm
  have Hne := hide hne
  have e1 : ¬ (n : Int) = 252 := by omega
  have e2 : ((n : Int) == 252) = false := by rw [beq_eq_false_iff_ne]; omega
  have e3 : ((n : Int) != 252) = true := by rw [bne_iff_ne]; omega
  clear hne
  have Fm := fun W => may15_any h W
  rw [decide_eq_false hm] at Fm
  have Fm := hide Fm
  clear hm
  rcases h with ⟨kd, ix, ct, bt, op, lp, ln⟩
  have hx1 := heap_alloc_new w (.cells #[.int .i64 kd, .int .i64 ix, .int .i64 ct, .int .u64 (bt : Int), .int .u64 (op : Int), .int .i64 lp, .int .i64 ln, .string (str dt), .int .u64 (opn : Int), .slice A n c] 77)
  have hb1 := (Below.refl w.heap.size w).alloc (Nat.le_refl _) (.cells #[.int .i64 kd, .int .i64 ix, .int .i64 ct, .int .u64 (bt : Int), .int .u64 (op : Int), .int .i64 lp, .int .i64 ln, .string (str dt), .int .u64 (opn : Int), .slice A n c] 77)
  have hs1 : w.heap.size < (w.alloc (.cells #[.int .i64 kd, .int .i64 ix, .int .i64 ct, .int .u64 (bt : Int), .int .u64 (op : Int), .int .i64 lp, .int .i64 ln, .string (str dt), .int .u64 (opn : Int), .slice A n c] 77)).heap.size := by simp
  unfold fourC at *
  unfold Hd.cells at *
  try unfold Hd.val at *
  simp only [List.cons_append, List.nil_append] at *
  have HX1 := hide hx1
  have HB1 := hide hb1
  have Hg := hide hs1
  clear hx1 hb1 hs1
  go_enter Try.func7, Try.ntmps7
  go_upto_region 1 with fail
  generalize w.alloc (.cells #[.int .i64 kd, .int .i64 ix, .int .i64 ct, .int .u64 (bt : Int), .int .u64 (op : Int), .int .i64 lp, .int .i64 ln, .string (str dt), .int .u64 (opn : Int), .slice A n c] 77) = w1 at *
  have c0 : w1.cell? ⟨w.heap.size, 0, none⟩ = some (.int .i64 kd) := World.news_of_block HX1.out 0 _ rfl
  have c1 : w1.cell? ⟨w.heap.size, 1, none⟩ = some (.int .i64 ix) := World.news_of_block HX1.out 1 _ rfl
  have c2 : w1.cell? ⟨w.heap.size, 2, none⟩ = some (.int .i64 ct) := World.news_of_block HX1.out 2 _ rfl
  have c3 : w1.cell? ⟨w.heap.size, 3, none⟩ = some (.int .u64 (bt : Int)) := World.news_of_block HX1.out 3 _ rfl
  have c4 : w1.cell? ⟨w.heap.size, 4, none⟩ = some (.int .u64 (op : Int)) := World.news_of_block HX1.out 4 _ rfl
  have c5 : w1.cell? ⟨w.heap.size, 5, none⟩ = some (.int .i64 lp) := World.news_of_block HX1.out 5 _ rfl
  have c6 : w1.cell? ⟨w.heap.size, 6, none⟩ = some (.int .i64 ln) := World.news_of_block HX1.out 6 _ rfl
  have c7 : w1.cell? ⟨w.heap.size, 7, none⟩ = some (.string (str dt)) := World.news_of_block HX1.out 7 _ rfl
  have c8 : w1.cell? ⟨w.heap.size, 8, none⟩ = some (.int .u64 (opn : Int)) := World.news_of_block HX1.out 8 _ rfl
  have c9 : w1.cell? ⟨w.heap.size, 9, none⟩ = some (.slice A n c) := World.news_of_block HX1.out 9 _ rfl
  refine Big.wp_region_big (by kernel_rfl) (fun d v => match d with | 17 => v = .pointer (some ⟨w.heap.size, 0, none⟩) | 18 => v = .agg #[.int .i64 kd, .int .i64 ix, .int .i64 ct, .int .u64 (bt : Int), .int .u64 (op : Int), .int .i64 lp, .int .i64 ln] | 19 => v = .pointer (some ⟨w.heap.size, 7, none⟩) | 20 => v = .string (str dt) | 21 => v = .pointer (some ⟨w.heap.size, 8, none⟩) | 22 => v = .int .u64 (opn : Int) | 23 => v = .pointer (some ⟨w.heap.size, 9, none⟩) | 24 => v = .slice A n c | 3 => ∃ k, v = .pointer (some ⟨k, 0, none⟩) | 4 => v = .string (str dt) | 5 => v = .int .u64 (opn : Int) | 6 => v = .slice A n c | _ => True) (PhiP w1 ⟨kd, ix, ct, bt, op, lp, ln⟩) [8, 9] [3] (by kernel_rfl) (by kernel_rfl) (by decide) (PhiP.loc _ _) (Or.inl ⟨rfl, (Below.refl _ _).drew⟩) ⟨?_, ?_, ?_, ?_, ?_, ?_, ?_, ?_, ?_, ?_, ?_, ?_, ?_, trivial⟩ ?_
  · refine Big.small (by decide) ?_
    intro i' a' w' hi' hΦ h'
    have hb' := hΦ.below
    have e1 : a'.tmps.getD 1 undef = .pointer (some ⟨w.heap.size, 0, none⟩) := Big.sb h' 1 (by kernel_rfl) (by kernel_rfl) rfl
    exact .val (want0 rfl) rfl (by simp [Act.eval, e1, go_sem]) rfl
  · refine Big.small (by decide) ?_
    intro i' a' w' hi' hΦ h'
    have hb' := hΦ.below
    have q0 := (hb'.cell (p := ⟨w.heap.size, 0, none⟩) Hg.out).trans c0
    have q1 := (hb'.cell (p := ⟨w.heap.size, 1, none⟩) Hg.out).trans c1
    have q2 := (hb'.cell (p := ⟨w.heap.size, 2, none⟩) Hg.out).trans c2
    have q3 := (hb'.cell (p := ⟨w.heap.size, 3, none⟩) Hg.out).trans c3
    have q4 := (hb'.cell (p := ⟨w.heap.size, 4, none⟩) Hg.out).trans c4
    have q5 := (hb'.cell (p := ⟨w.heap.size, 5, none⟩) Hg.out).trans c5
    have q6 := (hb'.cell (p := ⟨w.heap.size, 6, none⟩) Hg.out).trans c6
    have e17 : a'.tmps.getD 17 undef = .pointer (some ⟨w.heap.size, 0, none⟩) := Big.sw h' 17 (by kernel_rfl) (by kernel_rfl)
    exact .val (want0 rfl) rfl (by simp [Act.eval, e17, q0, q1, q2, q3, q4, q5, q6, go_sem]) rfl
  · refine Big.small (by decide) ?_
    intro i' a' w' hi' hΦ h'
    have hb' := hΦ.below
    have e1 : a'.tmps.getD 1 undef = .pointer (some ⟨w.heap.size, 0, none⟩) := Big.sb h' 1 (by kernel_rfl) (by kernel_rfl) rfl
    exact .val (want0 rfl) rfl (by simp [Act.eval, e1, go_sem]) rfl
  · refine Big.small (by decide) ?_
    intro i' a' w' hi' hΦ h'
    have hb' := hΦ.below
    have q7 := (hb'.cell (p := ⟨w.heap.size, 7, none⟩) Hg.out).trans c7
    have e19 : a'.tmps.getD 19 undef = .pointer (some ⟨w.heap.size, 7, none⟩) := Big.sw h' 19 (by kernel_rfl) (by kernel_rfl)
    exact .val (want0 rfl) rfl (by simp [Act.eval, e19, q7, go_sem]) rfl
  · refine Big.small (by decide) ?_
    intro i' a' w' hi' hΦ h'
    have hb' := hΦ.below
    have e1 : a'.tmps.getD 1 undef = .pointer (some ⟨w.heap.size, 0, none⟩) := Big.sb h' 1 (by kernel_rfl) (by kernel_rfl) rfl
    exact .val (want0 rfl) rfl (by simp [Act.eval, e1, go_sem]) rfl
  · refine Big.small (by decide) ?_
    intro i' a' w' hi' hΦ h'
    have hb' := hΦ.below
    have q8 := (hb'.cell (p := ⟨w.heap.size, 8, none⟩) Hg.out).trans c8
    have e21 : a'.tmps.getD 21 undef = .pointer (some ⟨w.heap.size, 8, none⟩) := Big.sw h' 21 (by kernel_rfl) (by kernel_rfl)
    exact .val (want0 rfl) rfl (by simp [Act.eval, e21, q8, go_sem]) rfl
  · refine Big.small (by decide) ?_
    intro i' a' w' hi' hΦ h'
    have hb' := hΦ.below
    have e1 : a'.tmps.getD 1 undef = .pointer (some ⟨w.heap.size, 0, none⟩) := Big.sb h' 1 (by kernel_rfl) (by kernel_rfl) rfl
    exact .val (want0 rfl) rfl (by simp [Act.eval, e1, go_sem]) rfl
  · refine Big.small (by decide) ?_
    intro i' a' w' hi' hΦ h'
    have hb' := hΦ.below
    have q9 := (hb'.cell (p := ⟨w.heap.size, 9, none⟩) Hg.out).trans c9
    have e23 : a'.tmps.getD 23 undef = .pointer (some ⟨w.heap.size, 9, none⟩) := Big.sw h' 23 (by kernel_rfl) (by kernel_rfl)
    exact .val (want0 rfl) rfl (by simp [Act.eval, e23, q9, go_sem]) rfl
  · refine Big.great (i := 0) rfl (by decide) ?_
    intro a' w' hsz' hΦ h'
    have hb' := hΦ.below
    exact .made (d := 3) (v := .pointer (some ⟨w'.heap.size, 0, none⟩)) (w' := w'.alloc (.cells #[.int .i64 0, .int .i64 0, .int .i64 0, .int .u64 0, .int .u64 0, .int .i64 0, .int .i64 0] 57)) (want0 rfl) rfl (by simp [go_sem]) ⟨_, rfl⟩ (.inr (.inl ⟨rfl, _, Big.slots_put (by rw [hsz']; simp), hb'.size, hb'.alloc hb'.size _, heap_alloc_new w' _⟩))
  · refine Big.great (i := 1) rfl (by decide) ?_
    intro a' w' hsz' hΦ h'
    have e18 : a'.tmps.getD 18 undef = .agg #[.int .i64 kd, .int .i64 ix, .int .i64 ct, .int .u64 (bt : Int), .int .u64 (op : Int), .int .i64 lp, .int .i64 ln] := Big.sw h' 18 (by kernel_rfl) (by kernel_rfl)
    obtain ⟨k, e3, hk, hb', hz⟩ := hΦ.at1
    have e3' : a'.tmps.getD 3 undef = .pointer (some ⟨k, 0, none⟩) := e3
    intro K' Q hK
    rw [if_pos (want0 rfl)]
    exact wp_store_row 57 (.tmp 3) (.tmp 18) rfl k #[.int .i64 kd, .int .i64 ix, .int .i64 ct, .int .u64 (bt : Int), .int .u64 (op : Int), .int .i64 lp, .int .i64 ln] e3' e18 57 _ hz infoHd rfl (by simp [Value.oneCell']) (hK undef _ (fun d hd => by cases hd) (.inr (.inr ⟨Nat.le_refl _, k, e3, hk, setRow_belowP hb' hk _, setRow_heap _ _ _ _ _ _ hz⟩)))
  · refine Big.small (by decide) ?_
    intro i' a' w' hi' hΦ h'
    have hb' := hΦ.below
    have e20 : a'.tmps.getD 20 undef = .string (str dt) := Big.sw h' 20 (by kernel_rfl) (by kernel_rfl)
    exact .val (want0 rfl) rfl (by simp [Act.eval, e20, go_sem]) rfl
  · refine Big.small (by decide) ?_
    intro i' a' w' hi' hΦ h'
    have hb' := hΦ.below
    have e22 : a'.tmps.getD 22 undef = .int .u64 (opn : Int) := Big.sw h' 22 (by kernel_rfl) (by kernel_rfl)
    exact .val (want0 rfl) rfl (by simp [Act.eval, e22, go_sem]) rfl
  · refine Big.small (by decide) ?_
    intro i' a' w' hi' hΦ h'
    have hb' := hΦ.below
    have e24 : a'.tmps.getD 24 undef = .slice A n c := Big.sw h' 24 (by kernel_rfl) (by kernel_rfl)
    exact .val (want0 rfl) rfl (by simp [Act.eval, e24, go_sem]) rfl
  · intro a' w' hdf hsz hwr hkp hΦ
    obtain ⟨k, e3, hk, hb', hz⟩ := hΦ.at2
    have e3' : a'.tmps.getD 3 undef = .pointer (some ⟨k, 0, none⟩) := e3
    have f17 : a'.tmps.getD 17 undef = .pointer (some ⟨w.heap.size, 0, none⟩) := hwr 17 (by kernel_rfl)
    have f18 : a'.tmps.getD 18 undef = .agg #[.int .i64 kd, .int .i64 ix, .int .i64 ct, .int .u64 (bt : Int), .int .u64 (op : Int), .int .i64 lp, .int .i64 ln] := hwr 18 (by kernel_rfl)
    have f19 : a'.tmps.getD 19 undef = .pointer (some ⟨w.heap.size, 7, none⟩) := hwr 19 (by kernel_rfl)
    have f20 : a'.tmps.getD 20 undef = .string (str dt) := hwr 20 (by kernel_rfl)
    have f21 : a'.tmps.getD 21 undef = .pointer (some ⟨w.heap.size, 8, none⟩) := hwr 21 (by kernel_rfl)
    have f22 : a'.tmps.getD 22 undef = .int .u64 (opn : Int) := hwr 22 (by kernel_rfl)
    have f23 : a'.tmps.getD 23 undef = .pointer (some ⟨w.heap.size, 9, none⟩) := hwr 23 (by kernel_rfl)
    have f24 : a'.tmps.getD 24 undef = .slice A n c := hwr 24 (by kernel_rfl)
    have f4 : a'.tmps.getD 4 undef = .string (str dt) := hwr 4 (by kernel_rfl)
    have f5 : a'.tmps.getD 5 undef = .int .u64 (opn : Int) := hwr 5 (by kernel_rfl)
    have f6 : a'.tmps.getD 6 undef = .slice A n c := hwr 6 (by kernel_rfl)
    have hfr := Flo2.frame_eq [(17, .pointer (some ⟨w.heap.size, 0, none⟩)), (18, .agg #[.int .i64 kd, .int .i64 ix, .int .i64 ct, .int .u64 (bt : Int), .int .u64 (op : Int), .int .i64 lp, .int .i64 ln]), (19, .pointer (some ⟨w.heap.size, 7, none⟩)), (20, .string (str dt)), (21, .pointer (some ⟨w.heap.size, 8, none⟩)), (22, .int .u64 (opn : Int)), (23, .pointer (some ⟨w.heap.size, 9, none⟩)), (24, .slice A n c), (3, .pointer (some ⟨k, 0, none⟩)), (4, .string (str dt)), (5, .int .u64 (opn : Int)), (6, .slice A n c)] a'.tmps _ hsz (by
      intro x hx
      simp only [List.mem_cons, List.not_mem_nil, or_false] at hx
      rcases hx with h | h | h | h | h | h | h | h | h | h | h | h <;> subst h
      · exact f17
      · exact f18
      · exact f19
      · exact f20
      · exact f21
      · exact f22
      · exact f23
      · exact f24
      · exact e3'
      · exact f4
      · exact f5
      · exact f6) (fun t ht => hkp t (Flo3.writes_not _ _ (by kernel_rfl) ht))
    have ha := Flo3.act_ext hfr hdf
    have HB2 := hide (HB1.out.trans (hb'.mono HB1.out.size))
    have HX2 := hide (show BoxH ⟨kd, ix, ct, bt, op, lp, ln⟩ k w' from hz)
    clear hfr hwr hkp hsz hdf e3 e3' hz hb' hk hΦ HX1 HB1 Hg c0 c1 c2 c3 c4 c5 c6 c7 c8 c9 f17 f18 f19 f20 f21 f22 f23 f24 f4 f5 f6
    subst ha
    simp only [Flo2.puts, List.foldl_cons, List.foldl_nil, List.setIfInBounds_toArray, List.set, Exit.inBlock, Exit.then]
    generalize w' = w2 at *
    go_wp2_with fail
    (with_reducible refine (FO.out _).mono ?_)
    rintro e w3 ⟨A2, c2, rfl, ho, hb⟩
    have hc2 : 256 ≤ c2 := by obtain ⟨_, _, h1, h2, _⟩ := own_form ho; injection h1 with _ _ h3; omega
    have HC2 := hide hc2
    have HL3 := hide (Lies.of_own ho)
    have HB3 := hide (HB2.out.trans (hb.mono HB2.out.size))
    have HX3 := hide (HX2.out.below hb HX2.out.lt)
    clear ho hb hc2 HB2 HX2
    go_wp2_with fail
    have hb4 := (Below.refl w3.heap.size w3).alloc (Nat.le_refl _) (.cells #[.slice A n c, .slice A2 256 c2] 40)
    have hx4 := heap_alloc_new w3 (.cells #[.slice A n c, .slice A2 256 c2] 40)
    have HB4 := HB3.out.trans (hb4.mono HB3.out.size)
    have hlt4 : w3.heap.size < (w3.alloc (.cells #[.slice A n c, .slice A2 256 c2] 40)).heap.size := by simp
    have FC := pclasses_1 ⟨w3.heap.size, 0, none⟩ 2 A A2 n c 256 c2 b r (w3.alloc (.cells #[.slice A n c, .slice A2 256 c2] 40)) hlt4 (World.news_of_block hx4 0 _ rfl) (World.news_of_block hx4 1 _ rfl) ((HL.out.below HB4).up HB4.size) Hn.out Hc.out ((HL3.out.below hb4).up hb4.size) hrl.out.symm HC2.out HK.out hr0.out
    have HX4 := HX3.out.below hb4 HX3.out.lt
    (with_reducible refine FC.mono ?_)
    rintro e w5 ⟨rfl, hb⟩
    have hb5 := HB4.trans (hb.mono HB4.size)
    have hx5 := HX4.below hb HX4.lt
    have hb6 := (Below.refl w5.heap.size w5).alloc (Nat.le_refl _) (.cells #[.int .i64 1, .int .i64 1, .int .i64 0] 78)
    have HB6 : Hid (Below w.heap.size w (w5.alloc (.cells #[.int .i64 1, .int .i64 1, .int .i64 0] 78))) := hide (hb5.trans (hb6.mono hb5.size))
    have HX6 : Hid (BoxH ⟨kd, ix, ct, bt, op, lp, ln⟩ k (w5.alloc (.cells #[.int .i64 1, .int .i64 1, .int .i64 0] 78))) := hide (hx5.below hb6 hx5.lt)
    have HW6 : Hid (Box3 1 1 0 w5.heap.size (w5.alloc (.cells #[.int .i64 1, .int .i64 1, .int .i64 0] 78))) := hide (heap_alloc_new w5 _)
    have hsb := Hs.out (w5.alloc (.cells #[.int .i64 1, .int .i64 1, .int .i64 0] 78)) HB6.out
    clear hb4 hx4 HB4 hlt4 FC HX4 hb hb5 hx5 hb6 HB3 HX3 HL3 HC2
    go_wp2_with fail
    (with_reducible refine (F5.out _).mono ?_)
    rintro e w7 ⟨rfl, hb⟩
    have HB7 := HB6.out.trans (hb.mono HB6.out.size)
    have HX7 := HX6.out.below hb HX6.out.lt
    have HW7 := HW6.out.below hb HW6.out.lt
    have hb8 := (Below.refl w7.heap.size w7).alloc (Nat.le_refl _) (.cells #[.int .i64 1, .int .i64 1, .int .i64 0] 78)
    have HB8 : Hid (Below w.heap.size w (w7.alloc (.cells #[.int .i64 1, .int .i64 1, .int .i64 0] 78))) := hide (HB7.trans (hb8.mono HB7.size))
    have HX8 : Hid (BoxH ⟨kd, ix, ct, bt, op, lp, ln⟩ k (w7.alloc (.cells #[.int .i64 1, .int .i64 1, .int .i64 0] 78))) := hide (HX7.below hb8 HX7.lt)
    have HW8 : Hid (Box3 1 1 0 w5.heap.size (w7.alloc (.cells #[.int .i64 1, .int .i64 1, .int .i64 0] 78))) := hide (HW7.below hb8 HW7.lt)
    have HV8 : Hid (Box3 1 1 0 w7.heap.size (w7.alloc (.cells #[.int .i64 1, .int .i64 1, .int .i64 0] 78))) := hide (heap_alloc_new w7 _)
    clear hb HB7 HX7 HW7 hb8 HB6 HX6 HW6 hsb F5
    go_wp2_with fail
    (with_reducible refine (seal_none A n c _ Hne.out).mono ?_)
    rintro e w9 ⟨rfl, rfl⟩
    generalize w7.alloc (.cells #[.int .i64 1, .int .i64 1, .int .i64 0] 78) = w9 at *
    have a0 := HW8.out.c 0 _ rfl
    have a1 := HW8.out.c 1 _ rfl
    have a2 := HW8.out.c 2 _ rfl
    have b0 := HV8.out.c 0 _ rfl
    have b1 := HV8.out.c 1 _ rfl
    have b2 := HV8.out.c 2 _ rfl
    have hsb := Hs.out _ HB8.out
    have hN := neq3 1 1 0
    clear HW8 HV8
    have HB9 := HB8
    have HX9 := HX8
    clear HB8 HX8
    go_wp2_with fail
    (with_reducible refine (FO.out _).mono ?_)
    rintro e w10 ⟨A4, c4, rfl, ho, hb⟩
    have hc4 : 256 ≤ c4 := by obtain ⟨_, _, h1, h2, _⟩ := own_form ho; injection h1 with _ _ h3; omega
    have HC4 := hide hc4
    have HL4 := hide (Lies.of_own ho)
    have HB10 := hide (HB9.out.trans (hb.mono HB9.out.size))
    have HX10 := hide (HX9.out.below hb HX9.out.lt)
    clear ho hb hc4 HB9 HX9 FO
    go_wp2_with fail
    (with_reducible refine (preopen_bad A4 256 c4 w10.heap.size r opn w10 HL4.out hrl.out.symm HC4.out (Nat.le_refl _) (by rw [hr0.out]; decide)).mono ?_)
    rintro e w11 ⟨rfl, hb⟩
    have HB11 := hide (HB10.out.trans (hb.mono HB10.out.size))
    have HX11 := hide (HX10.out.below hb HX10.out.lt)
    clear hb HB10 HX10 HL4 HC4 hrl hr0
    have R := HX11.out.range
    unfold Hd.cells at R
    dsimp only at R
    go_wp2_with (with_reducible refine wpl_load_mid rfl 57 (.tmp 3) rfl k 0 _ R rfl _ Try.underlying57 rfl 7 infoHd (by with_unfolding_all rfl) ?_)
    (with_reducible refine (Fm.out _).mono ?_)
    rintro e w12 ⟨rfl, hb⟩
    have HB12 := hide (HB11.out.trans (hb.mono HB11.out.size))
    have HX12 := hide (HX11.out.below hb HX11.out.lt)
    clear hb HB11 HX11 Fm R
    have d6 := HX12.out.c 6 _ rfl
    dsimp only at d6
    go_wp2_with fail
    (with_reducible refine (awake15_any _).mono ?_)
    rintro e w13 ⟨rfl, hb⟩
    have HB13 := hide (HB12.out.trans (hb.mono HB12.out.size))
    clear hb
    go_wp2
    go_ret
    exact ⟨rfl, HB13.out⟩

set_option maxRecDepth 60000 in
set_option maxHeartbeats 8000000 in
theorem reopens_1n_m1 (h : Hd) (dt : List UInt8) (opn : Nat) (A : Option Addr) (n c : Nat) (b : List UInt8) (w : World) (hl : Lies w w.heap.size A (bys b)) (hn : n = b.length) (hc : n ≤ c) (hsm : n ≤ 300) (hk : classN b = 1) (hne : n ≠ 252) (hm : h.May) (hd : ¬ (dt.length : Int) = h.len) :
    Calls Try.prog 7 #[.agg (fourC h dt opn A n c).toArray] w fun e w' => e = .returned (.bool true) ∧ Below w.heap.size w w' := by
  have h4 : ¬ (300 : Int) < (n : Int) := by omega
  have HL := hide hl
  have Hn := hide hn
  have Hc := hide hc
  have hs := fun W (hW : Below w.heap.size w W) => strU8 c (hl.below hW) hn
  have FO : Hid (∀ W, Calls Try.prog 32 #[.int .i64 256] W fun e w' => ∃ A' c', e = .returned (.slice A' 256 c') ∧ w'.ownsRow W.heap.size 5 1 (.slice A' 256 c') 256 (bys (List.replicate 256 255)) ∧ Below W.heap.size W w') := hide (fun W => ones2_any 256 W (by omega))
  obtain ⟨r, hrep⟩ : ∃ r : List UInt8, Hid (r = List.replicate 256 255) := ⟨_, hide rfl⟩
  have hrl : Hid (r.length = 256) := hide (by rw [hrep.out, List.length_replicate])
  have hr0 : Hid (classN r = 0) := hide (by unfold classN; rw [if_pos hrep.out])
  rw [← hrep.out] at FO
  have F5 := fun W => class15_any b W (by omega)
  rw [hk] at F5
  have F5 : Hid (∀ W, Calls Try.prog 30 #[.string (str b)] W fun e w' => e = .returned (.int .i64 1) ∧ Below W.heap.size W w') := hide F5
  have HK := hide hk
  have Hs := hide hs
  clear hl hn hc hk hs hrep hsm
  have Hne := hide hne
  have e1 : ¬ (n : Int) = 252 := by omega
  have e2 : ((n : Int) == 252) = false := by rw [beq_eq_false_iff_ne]; omega
  have e3 : ((n : Int) != 252) = true := by rw [bne_iff_ne]; omega
  clear hne
  have Fm := fun W => may15_any h W
  rw [decide_eq_true hm] at Fm
  have Fm := hide Fm
  have hsz := str_size dt
  have hnl : ((dt.length : Int) != h.len) = true := bne_iff_ne.2 hd
  generalize dt.length = nd at *
  clear hm hd
  rcases h with ⟨kd, ix, ct, bt, op, lp, ln⟩
  have hx1 := heap_alloc_new w (.cells #[.int .i64 kd, .int .i64 ix, .int .i64 ct, .int .u64 (bt : Int), .int .u64 (op : Int), .int .i64 lp, .int .i64 ln, .string (str dt), .int .u64 (opn : Int), .slice A n c] 77)
  have hb1 := (Below.refl w.heap.size w).alloc (Nat.le_refl _) (.cells #[.int .i64 kd, .int .i64 ix, .int .i64 ct, .int .u64 (bt : Int), .int .u64 (op : Int), .int .i64 lp, .int .i64 ln, .string (str dt), .int .u64 (opn : Int), .slice A n c] 77)
  have hs1 : w.heap.size < (w.alloc (.cells #[.int .i64 kd, .int .i64 ix, .int .i64 ct, .int .u64 (bt : Int), .int .u64 (op : Int), .int .i64 lp, .int .i64 ln, .string (str dt), .int .u64 (opn : Int), .slice A n c] 77)).heap.size := by simp
  unfold fourC at *
  unfold Hd.cells at *
  try unfold Hd.val at *
  simp only [List.cons_append, List.nil_append] at *
  have HX1 := hide hx1
  have HB1 := hide hb1
  have Hg := hide hs1
  clear hx1 hb1 hs1
  go_enter Try.func7, Try.ntmps7
  go_upto_region 1 with fail
  generalize w.alloc (.cells #[.int .i64 kd, .int .i64 ix, .int .i64 ct, .int .u64 (bt : Int), .int .u64 (op : Int), .int .i64 lp, .int .i64 ln, .string (str dt), .int .u64 (opn : Int), .slice A n c] 77) = w1 at *
  have c0 : w1.cell? ⟨w.heap.size, 0, none⟩ = some (.int .i64 kd) := World.news_of_block HX1.out 0 _ rfl
  have c1 : w1.cell? ⟨w.heap.size, 1, none⟩ = some (.int .i64 ix) := World.news_of_block HX1.out 1 _ rfl
  have c2 : w1.cell? ⟨w.heap.size, 2, none⟩ = some (.int .i64 ct) := World.news_of_block HX1.out 2 _ rfl
  have c3 : w1.cell? ⟨w.heap.size, 3, none⟩ = some (.int .u64 (bt : Int)) := World.news_of_block HX1.out 3 _ rfl
  have c4 : w1.cell? ⟨w.heap.size, 4, none⟩ = some (.int .u64 (op : Int)) := World.news_of_block HX1.out 4 _ rfl
  have c5 : w1.cell? ⟨w.heap.size, 5, none⟩ = some (.int .i64 lp) := World.news_of_block HX1.out 5 _ rfl
  have c6 : w1.cell? ⟨w.heap.size, 6, none⟩ = some (.int .i64 ln) := World.news_of_block HX1.out 6 _ rfl
  have c7 : w1.cell? ⟨w.heap.size, 7, none⟩ = some (.string (str dt)) := World.news_of_block HX1.out 7 _ rfl
  have c8 : w1.cell? ⟨w.heap.size, 8, none⟩ = some (.int .u64 (opn : Int)) := World.news_of_block HX1.out 8 _ rfl
  have c9 : w1.cell? ⟨w.heap.size, 9, none⟩ = some (.slice A n c) := World.news_of_block HX1.out 9 _ rfl
  refine Big.wp_region_big (by kernel_rfl) (fun d v => match d with | 17 => v = .pointer (some ⟨w.heap.size, 0, none⟩) | 18 => v = .agg #[.int .i64 kd, .int .i64 ix, .int .i64 ct, .int .u64 (bt : Int), .int .u64 (op : Int), .int .i64 lp, .int .i64 ln] | 19 => v = .pointer (some ⟨w.heap.size, 7, none⟩) | 20 => v = .string (str dt) | 21 => v = .pointer (some ⟨w.heap.size, 8, none⟩) | 22 => v = .int .u64 (opn : Int) | 23 => v = .pointer (some ⟨w.heap.size, 9, none⟩) | 24 => v = .slice A n c | 3 => ∃ k, v = .pointer (some ⟨k, 0, none⟩) | 4 => v = .string (str dt) | 5 => v = .int .u64 (opn : Int) | 6 => v = .slice A n c | _ => True) (PhiP w1 ⟨kd, ix, ct, bt, op, lp, ln⟩) [8, 9] [3] (by kernel_rfl) (by kernel_rfl) (by decide) (PhiP.loc _ _) (Or.inl ⟨rfl, (Below.refl _ _).drew⟩) ⟨?_, ?_, ?_, ?_, ?_, ?_, ?_, ?_, ?_, ?_, ?_, ?_, ?_, trivial⟩ ?_
  · refine Big.small (by decide) ?_
    intro i' a' w' hi' hΦ h'
    have hb' := hΦ.below
    have e1 : a'.tmps.getD 1 undef = .pointer (some ⟨w.heap.size, 0, none⟩) := Big.sb h' 1 (by kernel_rfl) (by kernel_rfl) rfl
    exact .val (want0 rfl) rfl (by simp [Act.eval, e1, go_sem]) rfl
  · refine Big.small (by decide) ?_
    intro i' a' w' hi' hΦ h'
    have hb' := hΦ.below
    have q0 := (hb'.cell (p := ⟨w.heap.size, 0, none⟩) Hg.out).trans c0
    have q1 := (hb'.cell (p := ⟨w.heap.size, 1, none⟩) Hg.out).trans c1
    have q2 := (hb'.cell (p := ⟨w.heap.size, 2, none⟩) Hg.out).trans c2
    have q3 := (hb'.cell (p := ⟨w.heap.size, 3, none⟩) Hg.out).trans c3
    have q4 := (hb'.cell (p := ⟨w.heap.size, 4, none⟩) Hg.out).trans c4
    have q5 := (hb'.cell (p := ⟨w.heap.size, 5, none⟩) Hg.out).trans c5
    have q6 := (hb'.cell (p := ⟨w.heap.size, 6, none⟩) Hg.out).trans c6
    have e17 : a'.tmps.getD 17 undef = .pointer (some ⟨w.heap.size, 0, none⟩) := Big.sw h' 17 (by kernel_rfl) (by kernel_rfl)
    exact .val (want0 rfl) rfl (by simp [Act.eval, e17, q0, q1, q2, q3, q4, q5, q6, go_sem]) rfl
  · refine Big.small (by decide) ?_
    intro i' a' w' hi' hΦ h'
    have hb' := hΦ.below
    have e1 : a'.tmps.getD 1 undef = .pointer (some ⟨w.heap.size, 0, none⟩) := Big.sb h' 1 (by kernel_rfl) (by kernel_rfl) rfl
    exact .val (want0 rfl) rfl (by simp [Act.eval, e1, go_sem]) rfl
  · refine Big.small (by decide) ?_
    intro i' a' w' hi' hΦ h'
    have hb' := hΦ.below
    have q7 := (hb'.cell (p := ⟨w.heap.size, 7, none⟩) Hg.out).trans c7
    have e19 : a'.tmps.getD 19 undef = .pointer (some ⟨w.heap.size, 7, none⟩) := Big.sw h' 19 (by kernel_rfl) (by kernel_rfl)
    exact .val (want0 rfl) rfl (by simp [Act.eval, e19, q7, go_sem]) rfl
  · refine Big.small (by decide) ?_
    intro i' a' w' hi' hΦ h'
    have hb' := hΦ.below
    have e1 : a'.tmps.getD 1 undef = .pointer (some ⟨w.heap.size, 0, none⟩) := Big.sb h' 1 (by kernel_rfl) (by kernel_rfl) rfl
    exact .val (want0 rfl) rfl (by simp [Act.eval, e1, go_sem]) rfl
  · refine Big.small (by decide) ?_
    intro i' a' w' hi' hΦ h'
    have hb' := hΦ.below
    have q8 := (hb'.cell (p := ⟨w.heap.size, 8, none⟩) Hg.out).trans c8
    have e21 : a'.tmps.getD 21 undef = .pointer (some ⟨w.heap.size, 8, none⟩) := Big.sw h' 21 (by kernel_rfl) (by kernel_rfl)
    exact .val (want0 rfl) rfl (by simp [Act.eval, e21, q8, go_sem]) rfl
  · refine Big.small (by decide) ?_
    intro i' a' w' hi' hΦ h'
    have hb' := hΦ.below
    have e1 : a'.tmps.getD 1 undef = .pointer (some ⟨w.heap.size, 0, none⟩) := Big.sb h' 1 (by kernel_rfl) (by kernel_rfl) rfl
    exact .val (want0 rfl) rfl (by simp [Act.eval, e1, go_sem]) rfl
  · refine Big.small (by decide) ?_
    intro i' a' w' hi' hΦ h'
    have hb' := hΦ.below
    have q9 := (hb'.cell (p := ⟨w.heap.size, 9, none⟩) Hg.out).trans c9
    have e23 : a'.tmps.getD 23 undef = .pointer (some ⟨w.heap.size, 9, none⟩) := Big.sw h' 23 (by kernel_rfl) (by kernel_rfl)
    exact .val (want0 rfl) rfl (by simp [Act.eval, e23, q9, go_sem]) rfl
  · refine Big.great (i := 0) rfl (by decide) ?_
    intro a' w' hsz' hΦ h'
    have hb' := hΦ.below
    exact .made (d := 3) (v := .pointer (some ⟨w'.heap.size, 0, none⟩)) (w' := w'.alloc (.cells #[.int .i64 0, .int .i64 0, .int .i64 0, .int .u64 0, .int .u64 0, .int .i64 0, .int .i64 0] 57)) (want0 rfl) rfl (by simp [go_sem]) ⟨_, rfl⟩ (.inr (.inl ⟨rfl, _, Big.slots_put (by rw [hsz']; simp), hb'.size, hb'.alloc hb'.size _, heap_alloc_new w' _⟩))
  · refine Big.great (i := 1) rfl (by decide) ?_
    intro a' w' hsz' hΦ h'
    have e18 : a'.tmps.getD 18 undef = .agg #[.int .i64 kd, .int .i64 ix, .int .i64 ct, .int .u64 (bt : Int), .int .u64 (op : Int), .int .i64 lp, .int .i64 ln] := Big.sw h' 18 (by kernel_rfl) (by kernel_rfl)
    obtain ⟨k, e3, hk, hb', hz⟩ := hΦ.at1
    have e3' : a'.tmps.getD 3 undef = .pointer (some ⟨k, 0, none⟩) := e3
    intro K' Q hK
    rw [if_pos (want0 rfl)]
    exact wp_store_row 57 (.tmp 3) (.tmp 18) rfl k #[.int .i64 kd, .int .i64 ix, .int .i64 ct, .int .u64 (bt : Int), .int .u64 (op : Int), .int .i64 lp, .int .i64 ln] e3' e18 57 _ hz infoHd rfl (by simp [Value.oneCell']) (hK undef _ (fun d hd => by cases hd) (.inr (.inr ⟨Nat.le_refl _, k, e3, hk, setRow_belowP hb' hk _, setRow_heap _ _ _ _ _ _ hz⟩)))
  · refine Big.small (by decide) ?_
    intro i' a' w' hi' hΦ h'
    have hb' := hΦ.below
    have e20 : a'.tmps.getD 20 undef = .string (str dt) := Big.sw h' 20 (by kernel_rfl) (by kernel_rfl)
    exact .val (want0 rfl) rfl (by simp [Act.eval, e20, go_sem]) rfl
  · refine Big.small (by decide) ?_
    intro i' a' w' hi' hΦ h'
    have hb' := hΦ.below
    have e22 : a'.tmps.getD 22 undef = .int .u64 (opn : Int) := Big.sw h' 22 (by kernel_rfl) (by kernel_rfl)
    exact .val (want0 rfl) rfl (by simp [Act.eval, e22, go_sem]) rfl
  · refine Big.small (by decide) ?_
    intro i' a' w' hi' hΦ h'
    have hb' := hΦ.below
    have e24 : a'.tmps.getD 24 undef = .slice A n c := Big.sw h' 24 (by kernel_rfl) (by kernel_rfl)
    exact .val (want0 rfl) rfl (by simp [Act.eval, e24, go_sem]) rfl
  · intro a' w' hdf hsz hwr hkp hΦ
    obtain ⟨k, e3, hk, hb', hz⟩ := hΦ.at2
    have e3' : a'.tmps.getD 3 undef = .pointer (some ⟨k, 0, none⟩) := e3
    have f17 : a'.tmps.getD 17 undef = .pointer (some ⟨w.heap.size, 0, none⟩) := hwr 17 (by kernel_rfl)
    have f18 : a'.tmps.getD 18 undef = .agg #[.int .i64 kd, .int .i64 ix, .int .i64 ct, .int .u64 (bt : Int), .int .u64 (op : Int), .int .i64 lp, .int .i64 ln] := hwr 18 (by kernel_rfl)
    have f19 : a'.tmps.getD 19 undef = .pointer (some ⟨w.heap.size, 7, none⟩) := hwr 19 (by kernel_rfl)
    have f20 : a'.tmps.getD 20 undef = .string (str dt) := hwr 20 (by kernel_rfl)
    have f21 : a'.tmps.getD 21 undef = .pointer (some ⟨w.heap.size, 8, none⟩) := hwr 21 (by kernel_rfl)
    have f22 : a'.tmps.getD 22 undef = .int .u64 (opn : Int) := hwr 22 (by kernel_rfl)
    have f23 : a'.tmps.getD 23 undef = .pointer (some ⟨w.heap.size, 9, none⟩) := hwr 23 (by kernel_rfl)
    have f24 : a'.tmps.getD 24 undef = .slice A n c := hwr 24 (by kernel_rfl)
    have f4 : a'.tmps.getD 4 undef = .string (str dt) := hwr 4 (by kernel_rfl)
    have f5 : a'.tmps.getD 5 undef = .int .u64 (opn : Int) := hwr 5 (by kernel_rfl)
    have f6 : a'.tmps.getD 6 undef = .slice A n c := hwr 6 (by kernel_rfl)
    have hfr := Flo2.frame_eq [(17, .pointer (some ⟨w.heap.size, 0, none⟩)), (18, .agg #[.int .i64 kd, .int .i64 ix, .int .i64 ct, .int .u64 (bt : Int), .int .u64 (op : Int), .int .i64 lp, .int .i64 ln]), (19, .pointer (some ⟨w.heap.size, 7, none⟩)), (20, .string (str dt)), (21, .pointer (some ⟨w.heap.size, 8, none⟩)), (22, .int .u64 (opn : Int)), (23, .pointer (some ⟨w.heap.size, 9, none⟩)), (24, .slice A n c), (3, .pointer (some ⟨k, 0, none⟩)), (4, .string (str dt)), (5, .int .u64 (opn : Int)), (6, .slice A n c)] a'.tmps _ hsz (by
      intro x hx
      simp only [List.mem_cons, List.not_mem_nil, or_false] at hx
      rcases hx with h | h | h | h | h | h | h | h | h | h | h | h <;> subst h
      · exact f17
      · exact f18
      · exact f19
      · exact f20
      · exact f21
      · exact f22
      · exact f23
      · exact f24
      · exact e3'
      · exact f4
      · exact f5
      · exact f6) (fun t ht => hkp t (Flo3.writes_not _ _ (by kernel_rfl) ht))
    have ha := Flo3.act_ext hfr hdf
    have HB2 := hide (HB1.out.trans (hb'.mono HB1.out.size))
    have HX2 := hide (show BoxH ⟨kd, ix, ct, bt, op, lp, ln⟩ k w' from hz)
    clear hfr hwr hkp hsz hdf e3 e3' hz hb' hk hΦ HX1 HB1 Hg c0 c1 c2 c3 c4 c5 c6 c7 c8 c9 f17 f18 f19 f20 f21 f22 f23 f24 f4 f5 f6
    subst ha
    simp only [Flo2.puts, List.foldl_cons, List.foldl_nil, List.setIfInBounds_toArray, List.set, Exit.inBlock, Exit.then]
    generalize w' = w2 at *
    go_wp2_with fail
    (with_reducible refine (FO.out _).mono ?_)
    rintro e w3 ⟨A2, c2, rfl, ho, hb⟩
    have hc2 : 256 ≤ c2 := by obtain ⟨_, _, h1, h2, _⟩ := own_form ho; injection h1 with _ _ h3; omega
    have HC2 := hide hc2
    have HL3 := hide (Lies.of_own ho)
    have HB3 := hide (HB2.out.trans (hb.mono HB2.out.size))
    have HX3 := hide (HX2.out.below hb HX2.out.lt)
    clear ho hb hc2 HB2 HX2
    go_wp2_with fail
    have hb4 := (Below.refl w3.heap.size w3).alloc (Nat.le_refl _) (.cells #[.slice A n c, .slice A2 256 c2] 40)
    have hx4 := heap_alloc_new w3 (.cells #[.slice A n c, .slice A2 256 c2] 40)
    have HB4 := HB3.out.trans (hb4.mono HB3.out.size)
    have hlt4 : w3.heap.size < (w3.alloc (.cells #[.slice A n c, .slice A2 256 c2] 40)).heap.size := by simp
    have FC := pclasses_1 ⟨w3.heap.size, 0, none⟩ 2 A A2 n c 256 c2 b r (w3.alloc (.cells #[.slice A n c, .slice A2 256 c2] 40)) hlt4 (World.news_of_block hx4 0 _ rfl) (World.news_of_block hx4 1 _ rfl) ((HL.out.below HB4).up HB4.size) Hn.out Hc.out ((HL3.out.below hb4).up hb4.size) hrl.out.symm HC2.out HK.out hr0.out
    have HX4 := HX3.out.below hb4 HX3.out.lt
    (with_reducible refine FC.mono ?_)
    rintro e w5 ⟨rfl, hb⟩
    have hb5 := HB4.trans (hb.mono HB4.size)
    have hx5 := HX4.below hb HX4.lt
    have hb6 := (Below.refl w5.heap.size w5).alloc (Nat.le_refl _) (.cells #[.int .i64 1, .int .i64 1, .int .i64 0] 78)
    have HB6 : Hid (Below w.heap.size w (w5.alloc (.cells #[.int .i64 1, .int .i64 1, .int .i64 0] 78))) := hide (hb5.trans (hb6.mono hb5.size))
    have HX6 : Hid (BoxH ⟨kd, ix, ct, bt, op, lp, ln⟩ k (w5.alloc (.cells #[.int .i64 1, .int .i64 1, .int .i64 0] 78))) := hide (hx5.below hb6 hx5.lt)
    have HW6 : Hid (Box3 1 1 0 w5.heap.size (w5.alloc (.cells #[.int .i64 1, .int .i64 1, .int .i64 0] 78))) := hide (heap_alloc_new w5 _)
    have hsb := Hs.out (w5.alloc (.cells #[.int .i64 1, .int .i64 1, .int .i64 0] 78)) HB6.out
    clear hb4 hx4 HB4 hlt4 FC HX4 hb hb5 hx5 hb6 HB3 HX3 HL3 HC2
    go_wp2_with fail
    (with_reducible refine (F5.out _).mono ?_)
    rintro e w7 ⟨rfl, hb⟩
    have HB7 := HB6.out.trans (hb.mono HB6.out.size)
    have HX7 := HX6.out.below hb HX6.out.lt
    have HW7 := HW6.out.below hb HW6.out.lt
    have hb8 := (Below.refl w7.heap.size w7).alloc (Nat.le_refl _) (.cells #[.int .i64 1, .int .i64 1, .int .i64 0] 78)
    have HB8 : Hid (Below w.heap.size w (w7.alloc (.cells #[.int .i64 1, .int .i64 1, .int .i64 0] 78))) := hide (HB7.trans (hb8.mono HB7.size))
    have HX8 : Hid (BoxH ⟨kd, ix, ct, bt, op, lp, ln⟩ k (w7.alloc (.cells #[.int .i64 1, .int .i64 1, .int .i64 0] 78))) := hide (HX7.below hb8 HX7.lt)
    have HW8 : Hid (Box3 1 1 0 w5.heap.size (w7.alloc (.cells #[.int .i64 1, .int .i64 1, .int .i64 0] 78))) := hide (HW7.below hb8 HW7.lt)
    have HV8 : Hid (Box3 1 1 0 w7.heap.size (w7.alloc (.cells #[.int .i64 1, .int .i64 1, .int .i64 0] 78))) := hide (heap_alloc_new w7 _)
    clear hb HB7 HX7 HW7 hb8 HB6 HX6 HW6 hsb F5
    go_wp2_with fail
    (with_reducible refine (seal_none A n c _ Hne.out).mono ?_)
    rintro e w9 ⟨rfl, rfl⟩
    generalize w7.alloc (.cells #[.int .i64 1, .int .i64 1, .int .i64 0] 78) = w9 at *
    have a0 := HW8.out.c 0 _ rfl
    have a1 := HW8.out.c 1 _ rfl
    have a2 := HW8.out.c 2 _ rfl
    have b0 := HV8.out.c 0 _ rfl
    have b1 := HV8.out.c 1 _ rfl
    have b2 := HV8.out.c 2 _ rfl
    have hsb := Hs.out _ HB8.out
    have hN := neq3 1 1 0
    clear HW8 HV8
    have HB9 := HB8
    have HX9 := HX8
    clear HB8 HX8
    go_wp2_with fail
    (with_reducible refine (FO.out _).mono ?_)
    rintro e w10 ⟨A4, c4, rfl, ho, hb⟩
    have hc4 : 256 ≤ c4 := by obtain ⟨_, _, h1, h2, _⟩ := own_form ho; injection h1 with _ _ h3; omega
    have HC4 := hide hc4
    have HL4 := hide (Lies.of_own ho)
    have HB10 := hide (HB9.out.trans (hb.mono HB9.out.size))
    have HX10 := hide (HX9.out.below hb HX9.out.lt)
    clear ho hb hc4 HB9 HX9 FO
    go_wp2_with fail
    (with_reducible refine (preopen_bad A4 256 c4 w10.heap.size r opn w10 HL4.out hrl.out.symm HC4.out (Nat.le_refl _) (by rw [hr0.out]; decide)).mono ?_)
    rintro e w11 ⟨rfl, hb⟩
    have HB11 := hide (HB10.out.trans (hb.mono HB10.out.size))
    have HX11 := hide (HX10.out.below hb HX10.out.lt)
    clear hb HB10 HX10 HL4 HC4 hrl hr0
    have R := HX11.out.range
    unfold Hd.cells at R
    dsimp only at R
    go_wp2_with (with_reducible refine wpl_load_mid rfl 57 (.tmp 3) rfl k 0 _ R rfl _ Try.underlying57 rfl 7 infoHd (by with_unfolding_all rfl) ?_)
    (with_reducible refine (Fm.out _).mono ?_)
    rintro e w12 ⟨rfl, hb⟩
    have HB12 := hide (HB11.out.trans (hb.mono HB11.out.size))
    have HX12 := hide (HX11.out.below hb HX11.out.lt)
    clear hb HB11 HX11 Fm R
    have d6 := HX12.out.c 6 _ rfl
    dsimp only at d6
    go_wp2_with fail
    (with_reducible refine (awake15_any _).mono ?_)
    rintro e w13 ⟨rfl, hb⟩
    have HB13 := hide (HB12.out.trans (hb.mono HB12.out.size))
    clear hb
    go_wp2
    go_ret
    exact ⟨rfl, HB13.out⟩

set_option maxRecDepth 60000 in
set_option maxHeartbeats 8000000 in
theorem reopens_1n_m2 (h : Hd) (dt : List UInt8) (opn : Nat) (A : Option Addr) (n c : Nat) (b : List UInt8) (w : World) (hl : Lies w w.heap.size A (bys b)) (hn : n = b.length) (hc : n ≤ c) (hsm : n ≤ 300) (hk : classN b = 1) (hne : n ≠ 252) (hm : h.May) (hd : (dt.length : Int) = h.len) (ho : ¬ opn < 2147483648) :
    Calls Try.prog 7 #[.agg (fourC h dt opn A n c).toArray] w fun e w' => e = .returned (.bool true) ∧ Below w.heap.size w w' := by
  have h4 : ¬ (300 : Int) < (n : Int) := by omega
  have HL := hide hl
  have Hn := hide hn
  have Hc := hide hc
  have hs := fun W (hW : Below w.heap.size w W) => strU8 c (hl.below hW) hn
  have FO : Hid (∀ W, Calls Try.prog 32 #[.int .i64 256] W fun e w' => ∃ A' c', e = .returned (.slice A' 256 c') ∧ w'.ownsRow W.heap.size 5 1 (.slice A' 256 c') 256 (bys (List.replicate 256 255)) ∧ Below W.heap.size W w') := hide (fun W => ones2_any 256 W (by omega))
  obtain ⟨r, hrep⟩ : ∃ r : List UInt8, Hid (r = List.replicate 256 255) := ⟨_, hide rfl⟩
  have hrl : Hid (r.length = 256) := hide (by rw [hrep.out, List.length_replicate])
  have hr0 : Hid (classN r = 0) := hide (by unfold classN; rw [if_pos hrep.out])
  rw [← hrep.out] at FO
  have F5 := fun W => class15_any b W (by omega)
  rw [hk] at F5
  have F5 : Hid (∀ W, Calls Try.prog 30 #[.string (str b)] W fun e w' => e = .returned (.int .i64 1) ∧ Below W.heap.size W w') := hide F5
  have HK := hide hk
  have Hs := hide hs
  clear hl hn hc hk hs hrep hsm
  have Hne := hide hne
  have e1 : ¬ (n : Int) = 252 := by omega
  have e2 : ((n : Int) == 252) = false := by rw [beq_eq_false_iff_ne]; omega
  have e3 : ((n : Int) != 252) = true := by rw [bne_iff_ne]; omega
  clear hne
  have Fm := fun W => may15_any h W
  rw [decide_eq_true hm] at Fm
  have Fm := hide Fm
  have hsz := str_size dt
  have hnl : ((dt.length : Int) != h.len) = false := by rw [hd]; simp
  have Fq := hide (fun W => put15_any h dt W hm hd)
  have h12 := hm.2.2.2.2.2.2.2.2.2.2.2
  have hlen : (pageB h dt).length = 256 := pageB_len h dt (by omega)
  have Fr := hide (fun A c B W => reopen_over h dt A c B opn W hm hd (by omega))
  have o1 : (2147483648 : Int) ≤ (opn : Int) := by omega
  generalize pageB h dt = s1 at *
  have HLen1 := hide hlen
  generalize dt.length = nd at *
  clear hlen h12 hm hd ho
  rcases h with ⟨kd, ix, ct, bt, op, lp, ln⟩
  have hx1 := heap_alloc_new w (.cells #[.int .i64 kd, .int .i64 ix, .int .i64 ct, .int .u64 (bt : Int), .int .u64 (op : Int), .int .i64 lp, .int .i64 ln, .string (str dt), .int .u64 (opn : Int), .slice A n c] 77)
  have hb1 := (Below.refl w.heap.size w).alloc (Nat.le_refl _) (.cells #[.int .i64 kd, .int .i64 ix, .int .i64 ct, .int .u64 (bt : Int), .int .u64 (op : Int), .int .i64 lp, .int .i64 ln, .string (str dt), .int .u64 (opn : Int), .slice A n c] 77)
  have hs1 : w.heap.size < (w.alloc (.cells #[.int .i64 kd, .int .i64 ix, .int .i64 ct, .int .u64 (bt : Int), .int .u64 (op : Int), .int .i64 lp, .int .i64 ln, .string (str dt), .int .u64 (opn : Int), .slice A n c] 77)).heap.size := by simp
  unfold fourC at *
  unfold Hd.cells at *
  try unfold Hd.val at *
  simp only [List.cons_append, List.nil_append] at *
  have HX1 := hide hx1
  have HB1 := hide hb1
  have Hg := hide hs1
  clear hx1 hb1 hs1
  go_enter Try.func7, Try.ntmps7
  go_upto_region 1 with fail
  generalize w.alloc (.cells #[.int .i64 kd, .int .i64 ix, .int .i64 ct, .int .u64 (bt : Int), .int .u64 (op : Int), .int .i64 lp, .int .i64 ln, .string (str dt), .int .u64 (opn : Int), .slice A n c] 77) = w1 at *
  have c0 : w1.cell? ⟨w.heap.size, 0, none⟩ = some (.int .i64 kd) := World.news_of_block HX1.out 0 _ rfl
  have c1 : w1.cell? ⟨w.heap.size, 1, none⟩ = some (.int .i64 ix) := World.news_of_block HX1.out 1 _ rfl
  have c2 : w1.cell? ⟨w.heap.size, 2, none⟩ = some (.int .i64 ct) := World.news_of_block HX1.out 2 _ rfl
  have c3 : w1.cell? ⟨w.heap.size, 3, none⟩ = some (.int .u64 (bt : Int)) := World.news_of_block HX1.out 3 _ rfl
  have c4 : w1.cell? ⟨w.heap.size, 4, none⟩ = some (.int .u64 (op : Int)) := World.news_of_block HX1.out 4 _ rfl
  have c5 : w1.cell? ⟨w.heap.size, 5, none⟩ = some (.int .i64 lp) := World.news_of_block HX1.out 5 _ rfl
  have c6 : w1.cell? ⟨w.heap.size, 6, none⟩ = some (.int .i64 ln) := World.news_of_block HX1.out 6 _ rfl
  have c7 : w1.cell? ⟨w.heap.size, 7, none⟩ = some (.string (str dt)) := World.news_of_block HX1.out 7 _ rfl
  have c8 : w1.cell? ⟨w.heap.size, 8, none⟩ = some (.int .u64 (opn : Int)) := World.news_of_block HX1.out 8 _ rfl
  have c9 : w1.cell? ⟨w.heap.size, 9, none⟩ = some (.slice A n c) := World.news_of_block HX1.out 9 _ rfl
  refine Big.wp_region_big (by kernel_rfl) (fun d v => match d with | 17 => v = .pointer (some ⟨w.heap.size, 0, none⟩) | 18 => v = .agg #[.int .i64 kd, .int .i64 ix, .int .i64 ct, .int .u64 (bt : Int), .int .u64 (op : Int), .int .i64 lp, .int .i64 ln] | 19 => v = .pointer (some ⟨w.heap.size, 7, none⟩) | 20 => v = .string (str dt) | 21 => v = .pointer (some ⟨w.heap.size, 8, none⟩) | 22 => v = .int .u64 (opn : Int) | 23 => v = .pointer (some ⟨w.heap.size, 9, none⟩) | 24 => v = .slice A n c | 3 => ∃ k, v = .pointer (some ⟨k, 0, none⟩) | 4 => v = .string (str dt) | 5 => v = .int .u64 (opn : Int) | 6 => v = .slice A n c | _ => True) (PhiP w1 ⟨kd, ix, ct, bt, op, lp, ln⟩) [8, 9] [3] (by kernel_rfl) (by kernel_rfl) (by decide) (PhiP.loc _ _) (Or.inl ⟨rfl, (Below.refl _ _).drew⟩) ⟨?_, ?_, ?_, ?_, ?_, ?_, ?_, ?_, ?_, ?_, ?_, ?_, ?_, trivial⟩ ?_
  · refine Big.small (by decide) ?_
    intro i' a' w' hi' hΦ h'
    have hb' := hΦ.below
    have e1 : a'.tmps.getD 1 undef = .pointer (some ⟨w.heap.size, 0, none⟩) := Big.sb h' 1 (by kernel_rfl) (by kernel_rfl) rfl
    exact .val (want0 rfl) rfl (by simp [Act.eval, e1, go_sem]) rfl
  · refine Big.small (by decide) ?_
    intro i' a' w' hi' hΦ h'
    have hb' := hΦ.below
    have q0 := (hb'.cell (p := ⟨w.heap.size, 0, none⟩) Hg.out).trans c0
    have q1 := (hb'.cell (p := ⟨w.heap.size, 1, none⟩) Hg.out).trans c1
    have q2 := (hb'.cell (p := ⟨w.heap.size, 2, none⟩) Hg.out).trans c2
    have q3 := (hb'.cell (p := ⟨w.heap.size, 3, none⟩) Hg.out).trans c3
    have q4 := (hb'.cell (p := ⟨w.heap.size, 4, none⟩) Hg.out).trans c4
    have q5 := (hb'.cell (p := ⟨w.heap.size, 5, none⟩) Hg.out).trans c5
    have q6 := (hb'.cell (p := ⟨w.heap.size, 6, none⟩) Hg.out).trans c6
    have e17 : a'.tmps.getD 17 undef = .pointer (some ⟨w.heap.size, 0, none⟩) := Big.sw h' 17 (by kernel_rfl) (by kernel_rfl)
    exact .val (want0 rfl) rfl (by simp [Act.eval, e17, q0, q1, q2, q3, q4, q5, q6, go_sem]) rfl
  · refine Big.small (by decide) ?_
    intro i' a' w' hi' hΦ h'
    have hb' := hΦ.below
    have e1 : a'.tmps.getD 1 undef = .pointer (some ⟨w.heap.size, 0, none⟩) := Big.sb h' 1 (by kernel_rfl) (by kernel_rfl) rfl
    exact .val (want0 rfl) rfl (by simp [Act.eval, e1, go_sem]) rfl
  · refine Big.small (by decide) ?_
    intro i' a' w' hi' hΦ h'
    have hb' := hΦ.below
    have q7 := (hb'.cell (p := ⟨w.heap.size, 7, none⟩) Hg.out).trans c7
    have e19 : a'.tmps.getD 19 undef = .pointer (some ⟨w.heap.size, 7, none⟩) := Big.sw h' 19 (by kernel_rfl) (by kernel_rfl)
    exact .val (want0 rfl) rfl (by simp [Act.eval, e19, q7, go_sem]) rfl
  · refine Big.small (by decide) ?_
    intro i' a' w' hi' hΦ h'
    have hb' := hΦ.below
    have e1 : a'.tmps.getD 1 undef = .pointer (some ⟨w.heap.size, 0, none⟩) := Big.sb h' 1 (by kernel_rfl) (by kernel_rfl) rfl
    exact .val (want0 rfl) rfl (by simp [Act.eval, e1, go_sem]) rfl
  · refine Big.small (by decide) ?_
    intro i' a' w' hi' hΦ h'
    have hb' := hΦ.below
    have q8 := (hb'.cell (p := ⟨w.heap.size, 8, none⟩) Hg.out).trans c8
    have e21 : a'.tmps.getD 21 undef = .pointer (some ⟨w.heap.size, 8, none⟩) := Big.sw h' 21 (by kernel_rfl) (by kernel_rfl)
    exact .val (want0 rfl) rfl (by simp [Act.eval, e21, q8, go_sem]) rfl
  · refine Big.small (by decide) ?_
    intro i' a' w' hi' hΦ h'
    have hb' := hΦ.below
    have e1 : a'.tmps.getD 1 undef = .pointer (some ⟨w.heap.size, 0, none⟩) := Big.sb h' 1 (by kernel_rfl) (by kernel_rfl) rfl
    exact .val (want0 rfl) rfl (by simp [Act.eval, e1, go_sem]) rfl
  · refine Big.small (by decide) ?_
    intro i' a' w' hi' hΦ h'
    have hb' := hΦ.below
    have q9 := (hb'.cell (p := ⟨w.heap.size, 9, none⟩) Hg.out).trans c9
    have e23 : a'.tmps.getD 23 undef = .pointer (some ⟨w.heap.size, 9, none⟩) := Big.sw h' 23 (by kernel_rfl) (by kernel_rfl)
    exact .val (want0 rfl) rfl (by simp [Act.eval, e23, q9, go_sem]) rfl
  · refine Big.great (i := 0) rfl (by decide) ?_
    intro a' w' hsz' hΦ h'
    have hb' := hΦ.below
    exact .made (d := 3) (v := .pointer (some ⟨w'.heap.size, 0, none⟩)) (w' := w'.alloc (.cells #[.int .i64 0, .int .i64 0, .int .i64 0, .int .u64 0, .int .u64 0, .int .i64 0, .int .i64 0] 57)) (want0 rfl) rfl (by simp [go_sem]) ⟨_, rfl⟩ (.inr (.inl ⟨rfl, _, Big.slots_put (by rw [hsz']; simp), hb'.size, hb'.alloc hb'.size _, heap_alloc_new w' _⟩))
  · refine Big.great (i := 1) rfl (by decide) ?_
    intro a' w' hsz' hΦ h'
    have e18 : a'.tmps.getD 18 undef = .agg #[.int .i64 kd, .int .i64 ix, .int .i64 ct, .int .u64 (bt : Int), .int .u64 (op : Int), .int .i64 lp, .int .i64 ln] := Big.sw h' 18 (by kernel_rfl) (by kernel_rfl)
    obtain ⟨k, e3, hk, hb', hz⟩ := hΦ.at1
    have e3' : a'.tmps.getD 3 undef = .pointer (some ⟨k, 0, none⟩) := e3
    intro K' Q hK
    rw [if_pos (want0 rfl)]
    exact wp_store_row 57 (.tmp 3) (.tmp 18) rfl k #[.int .i64 kd, .int .i64 ix, .int .i64 ct, .int .u64 (bt : Int), .int .u64 (op : Int), .int .i64 lp, .int .i64 ln] e3' e18 57 _ hz infoHd rfl (by simp [Value.oneCell']) (hK undef _ (fun d hd => by cases hd) (.inr (.inr ⟨Nat.le_refl _, k, e3, hk, setRow_belowP hb' hk _, setRow_heap _ _ _ _ _ _ hz⟩)))
  · refine Big.small (by decide) ?_
    intro i' a' w' hi' hΦ h'
    have hb' := hΦ.below
    have e20 : a'.tmps.getD 20 undef = .string (str dt) := Big.sw h' 20 (by kernel_rfl) (by kernel_rfl)
    exact .val (want0 rfl) rfl (by simp [Act.eval, e20, go_sem]) rfl
  · refine Big.small (by decide) ?_
    intro i' a' w' hi' hΦ h'
    have hb' := hΦ.below
    have e22 : a'.tmps.getD 22 undef = .int .u64 (opn : Int) := Big.sw h' 22 (by kernel_rfl) (by kernel_rfl)
    exact .val (want0 rfl) rfl (by simp [Act.eval, e22, go_sem]) rfl
  · refine Big.small (by decide) ?_
    intro i' a' w' hi' hΦ h'
    have hb' := hΦ.below
    have e24 : a'.tmps.getD 24 undef = .slice A n c := Big.sw h' 24 (by kernel_rfl) (by kernel_rfl)
    exact .val (want0 rfl) rfl (by simp [Act.eval, e24, go_sem]) rfl
  · intro a' w' hdf hsz hwr hkp hΦ
    obtain ⟨k, e3, hk, hb', hz⟩ := hΦ.at2
    have e3' : a'.tmps.getD 3 undef = .pointer (some ⟨k, 0, none⟩) := e3
    have f17 : a'.tmps.getD 17 undef = .pointer (some ⟨w.heap.size, 0, none⟩) := hwr 17 (by kernel_rfl)
    have f18 : a'.tmps.getD 18 undef = .agg #[.int .i64 kd, .int .i64 ix, .int .i64 ct, .int .u64 (bt : Int), .int .u64 (op : Int), .int .i64 lp, .int .i64 ln] := hwr 18 (by kernel_rfl)
    have f19 : a'.tmps.getD 19 undef = .pointer (some ⟨w.heap.size, 7, none⟩) := hwr 19 (by kernel_rfl)
    have f20 : a'.tmps.getD 20 undef = .string (str dt) := hwr 20 (by kernel_rfl)
    have f21 : a'.tmps.getD 21 undef = .pointer (some ⟨w.heap.size, 8, none⟩) := hwr 21 (by kernel_rfl)
    have f22 : a'.tmps.getD 22 undef = .int .u64 (opn : Int) := hwr 22 (by kernel_rfl)
    have f23 : a'.tmps.getD 23 undef = .pointer (some ⟨w.heap.size, 9, none⟩) := hwr 23 (by kernel_rfl)
    have f24 : a'.tmps.getD 24 undef = .slice A n c := hwr 24 (by kernel_rfl)
    have f4 : a'.tmps.getD 4 undef = .string (str dt) := hwr 4 (by kernel_rfl)
    have f5 : a'.tmps.getD 5 undef = .int .u64 (opn : Int) := hwr 5 (by kernel_rfl)
    have f6 : a'.tmps.getD 6 undef = .slice A n c := hwr 6 (by kernel_rfl)
    have hfr := Flo2.frame_eq [(17, .pointer (some ⟨w.heap.size, 0, none⟩)), (18, .agg #[.int .i64 kd, .int .i64 ix, .int .i64 ct, .int .u64 (bt : Int), .int .u64 (op : Int), .int .i64 lp, .int .i64 ln]), (19, .pointer (some ⟨w.heap.size, 7, none⟩)), (20, .string (str dt)), (21, .pointer (some ⟨w.heap.size, 8, none⟩)), (22, .int .u64 (opn : Int)), (23, .pointer (some ⟨w.heap.size, 9, none⟩)), (24, .slice A n c), (3, .pointer (some ⟨k, 0, none⟩)), (4, .string (str dt)), (5, .int .u64 (opn : Int)), (6, .slice A n c)] a'.tmps _ hsz (by
      intro x hx
      simp only [List.mem_cons, List.not_mem_nil, or_false] at hx
      rcases hx with h | h | h | h | h | h | h | h | h | h | h | h <;> subst h
      · exact f17
      · exact f18
      · exact f19
      · exact f20
      · exact f21
      · exact f22
      · exact f23
      · exact f24
      · exact e3'
      · exact f4
      · exact f5
      · exact f6) (fun t ht => hkp t (Flo3.writes_not _ _ (by kernel_rfl) ht))
    have ha := Flo3.act_ext hfr hdf
    have HB2 := hide (HB1.out.trans (hb'.mono HB1.out.size))
    have HX2 := hide (show BoxH ⟨kd, ix, ct, bt, op, lp, ln⟩ k w' from hz)
    clear hfr hwr hkp hsz hdf e3 e3' hz hb' hk hΦ HX1 HB1 Hg c0 c1 c2 c3 c4 c5 c6 c7 c8 c9 f17 f18 f19 f20 f21 f22 f23 f24 f4 f5 f6
    subst ha
    simp only [Flo2.puts, List.foldl_cons, List.foldl_nil, List.setIfInBounds_toArray, List.set, Exit.inBlock, Exit.then]
    generalize w' = w2 at *
    go_wp2_with fail
    (with_reducible refine (FO.out _).mono ?_)
    rintro e w3 ⟨A2, c2, rfl, ho, hb⟩
    have hc2 : 256 ≤ c2 := by obtain ⟨_, _, h1, h2, _⟩ := own_form ho; injection h1 with _ _ h3; omega
    have HC2 := hide hc2
    have HL3 := hide (Lies.of_own ho)
    have HB3 := hide (HB2.out.trans (hb.mono HB2.out.size))
    have HX3 := hide (HX2.out.below hb HX2.out.lt)
    clear ho hb hc2 HB2 HX2
    go_wp2_with fail
    have hb4 := (Below.refl w3.heap.size w3).alloc (Nat.le_refl _) (.cells #[.slice A n c, .slice A2 256 c2] 40)
    have hx4 := heap_alloc_new w3 (.cells #[.slice A n c, .slice A2 256 c2] 40)
    have HB4 := HB3.out.trans (hb4.mono HB3.out.size)
    have hlt4 : w3.heap.size < (w3.alloc (.cells #[.slice A n c, .slice A2 256 c2] 40)).heap.size := by simp
    have FC := pclasses_1 ⟨w3.heap.size, 0, none⟩ 2 A A2 n c 256 c2 b r (w3.alloc (.cells #[.slice A n c, .slice A2 256 c2] 40)) hlt4 (World.news_of_block hx4 0 _ rfl) (World.news_of_block hx4 1 _ rfl) ((HL.out.below HB4).up HB4.size) Hn.out Hc.out ((HL3.out.below hb4).up hb4.size) hrl.out.symm HC2.out HK.out hr0.out
    have HX4 := HX3.out.below hb4 HX3.out.lt
    (with_reducible refine FC.mono ?_)
    rintro e w5 ⟨rfl, hb⟩
    have hb5 := HB4.trans (hb.mono HB4.size)
    have hx5 := HX4.below hb HX4.lt
    have hb6 := (Below.refl w5.heap.size w5).alloc (Nat.le_refl _) (.cells #[.int .i64 1, .int .i64 1, .int .i64 0] 78)
    have HB6 : Hid (Below w.heap.size w (w5.alloc (.cells #[.int .i64 1, .int .i64 1, .int .i64 0] 78))) := hide (hb5.trans (hb6.mono hb5.size))
    have HX6 : Hid (BoxH ⟨kd, ix, ct, bt, op, lp, ln⟩ k (w5.alloc (.cells #[.int .i64 1, .int .i64 1, .int .i64 0] 78))) := hide (hx5.below hb6 hx5.lt)
    have HW6 : Hid (Box3 1 1 0 w5.heap.size (w5.alloc (.cells #[.int .i64 1, .int .i64 1, .int .i64 0] 78))) := hide (heap_alloc_new w5 _)
    have hsb := Hs.out (w5.alloc (.cells #[.int .i64 1, .int .i64 1, .int .i64 0] 78)) HB6.out
    clear hb4 hx4 HB4 hlt4 FC HX4 hb hb5 hx5 hb6 HB3 HX3 HL3 HC2
    go_wp2_with fail
    (with_reducible refine (F5.out _).mono ?_)
    rintro e w7 ⟨rfl, hb⟩
    have HB7 := HB6.out.trans (hb.mono HB6.out.size)
    have HX7 := HX6.out.below hb HX6.out.lt
    have HW7 := HW6.out.below hb HW6.out.lt
    have hb8 := (Below.refl w7.heap.size w7).alloc (Nat.le_refl _) (.cells #[.int .i64 1, .int .i64 1, .int .i64 0] 78)
    have HB8 : Hid (Below w.heap.size w (w7.alloc (.cells #[.int .i64 1, .int .i64 1, .int .i64 0] 78))) := hide (HB7.trans (hb8.mono HB7.size))
    have HX8 : Hid (BoxH ⟨kd, ix, ct, bt, op, lp, ln⟩ k (w7.alloc (.cells #[.int .i64 1, .int .i64 1, .int .i64 0] 78))) := hide (HX7.below hb8 HX7.lt)
    have HW8 : Hid (Box3 1 1 0 w5.heap.size (w7.alloc (.cells #[.int .i64 1, .int .i64 1, .int .i64 0] 78))) := hide (HW7.below hb8 HW7.lt)
    have HV8 : Hid (Box3 1 1 0 w7.heap.size (w7.alloc (.cells #[.int .i64 1, .int .i64 1, .int .i64 0] 78))) := hide (heap_alloc_new w7 _)
    clear hb HB7 HX7 HW7 hb8 HB6 HX6 HW6 hsb F5
    go_wp2_with fail
    (with_reducible refine (seal_none A n c _ Hne.out).mono ?_)
    rintro e w9 ⟨rfl, rfl⟩
    generalize w7.alloc (.cells #[.int .i64 1, .int .i64 1, .int .i64 0] 78) = w9 at *
    have a0 := HW8.out.c 0 _ rfl
    have a1 := HW8.out.c 1 _ rfl
    have a2 := HW8.out.c 2 _ rfl
    have b0 := HV8.out.c 0 _ rfl
    have b1 := HV8.out.c 1 _ rfl
    have b2 := HV8.out.c 2 _ rfl
    have hsb := Hs.out _ HB8.out
    have hN := neq3 1 1 0
    clear HW8 HV8
    have HB9 := HB8
    have HX9 := HX8
    clear HB8 HX8
    go_wp2_with fail
    (with_reducible refine (FO.out _).mono ?_)
    rintro e w10 ⟨A4, c4, rfl, ho, hb⟩
    have hc4 : 256 ≤ c4 := by obtain ⟨_, _, h1, h2, _⟩ := own_form ho; injection h1 with _ _ h3; omega
    have HC4 := hide hc4
    have HL4 := hide (Lies.of_own ho)
    have HB10 := hide (HB9.out.trans (hb.mono HB9.out.size))
    have HX10 := hide (HX9.out.below hb HX9.out.lt)
    clear ho hb hc4 HB9 HX9 FO
    go_wp2_with fail
    (with_reducible refine (preopen_bad A4 256 c4 w10.heap.size r opn w10 HL4.out hrl.out.symm HC4.out (Nat.le_refl _) (by rw [hr0.out]; decide)).mono ?_)
    rintro e w11 ⟨rfl, hb⟩
    have HB11 := hide (HB10.out.trans (hb.mono HB10.out.size))
    have HX11 := hide (HX10.out.below hb HX10.out.lt)
    clear hb HB10 HX10 HL4 HC4 hrl hr0
    have R := HX11.out.range
    unfold Hd.cells at R
    dsimp only at R
    go_wp2_with (with_reducible refine wpl_load_mid rfl 57 (.tmp 3) rfl k 0 _ R rfl _ Try.underlying57 rfl 7 infoHd (by with_unfolding_all rfl) ?_)
    (with_reducible refine (Fm.out _).mono ?_)
    rintro e w12 ⟨rfl, hb⟩
    have HB12 := hide (HB11.out.trans (hb.mono HB11.out.size))
    have HX12 := hide (HX11.out.below hb HX11.out.lt)
    clear hb HB11 HX11 Fm R
    have d6 := HX12.out.c 6 _ rfl
    dsimp only at d6
    have R := HX12.out.range
    unfold Hd.cells at R
    dsimp only at R
    go_wp2_with (with_reducible refine wpl_load_mid rfl 57 (.tmp 3) rfl k 0 _ R rfl _ Try.underlying57 rfl 7 infoHd (by with_unfolding_all rfl) ?_)
    (with_reducible refine (Fq.out _).mono ?_)
    rintro e w13 ⟨rfl, hb⟩
    have HB13 := hide (HB12.out.trans (hb.mono HB12.out.size))
    have HX13 := hide (HX12.out.below hb HX12.out.lt)
    clear hb HB12 HX12 d6 R Fq hnl
    obtain ⟨cs, w14, hcv, hcap, hb14, hl14⟩ := strBytesP w13 s1
    rw [HLen1.out] at hcv hcap
    have HB14 := hide (HB13.out.trans (hb14.mono HB13.out.size))
    have HX14 := hide (HX13.out.below hb14 HX13.out.lt)
    have HL14 := hide hl14
    have HC14 := hide hcap
    clear hb14 hl14 hcap HB13 HX13
    go_wp2_with fail
    (with_reducible refine (Fr.out _ cs w14.heap.size w14 HL14.out HC14.out (Nat.le_refl _)).mono ?_)
    rintro e w15 ⟨rfl, hb⟩
    have HB15 := hide (HB14.out.trans (hb.mono HB14.out.size))
    clear hb HB14 HL14 HC14 hcv Fr
    go_wp2_with fail
    (with_reducible refine (awake15_any _).mono ?_)
    rintro e w16 ⟨rfl, hb⟩
    have HB16 := hide (HB15.out.trans (hb.mono HB15.out.size))
    clear hb
    go_wp2
    go_ret
    exact ⟨rfl, HB16.out⟩

set_option maxRecDepth 60000 in
set_option maxHeartbeats 8000000 in
theorem reopens_1n_m3 (h : Hd) (dt : List UInt8) (opn : Nat) (A : Option Addr) (n c : Nat) (b : List UInt8) (w : World) (hl : Lies w w.heap.size A (bys b)) (hn : n = b.length) (hc : n ≤ c) (hsm : n ≤ 300) (hk : classN b = 1) (hne : n ≠ 252) (hm : h.May) (hd : (dt.length : Int) = h.len) (ho : opn < 2147483648) :
    Calls Try.prog 7 #[.agg (fourC h dt opn A n c).toArray] w fun e w' => e = .returned (.bool true) ∧ Below w.heap.size w w' := by
  have h4 : ¬ (300 : Int) < (n : Int) := by omega
  have HL := hide hl
  have Hn := hide hn
  have Hc := hide hc
  have hs := fun W (hW : Below w.heap.size w W) => strU8 c (hl.below hW) hn
  have FO : Hid (∀ W, Calls Try.prog 32 #[.int .i64 256] W fun e w' => ∃ A' c', e = .returned (.slice A' 256 c') ∧ w'.ownsRow W.heap.size 5 1 (.slice A' 256 c') 256 (bys (List.replicate 256 255)) ∧ Below W.heap.size W w') := hide (fun W => ones2_any 256 W (by omega))
  obtain ⟨r, hrep⟩ : ∃ r : List UInt8, Hid (r = List.replicate 256 255) := ⟨_, hide rfl⟩
  have hrl : Hid (r.length = 256) := hide (by rw [hrep.out, List.length_replicate])
  have hr0 : Hid (classN r = 0) := hide (by unfold classN; rw [if_pos hrep.out])
  rw [← hrep.out] at FO
  have F5 := fun W => class15_any b W (by omega)
  rw [hk] at F5
  have F5 : Hid (∀ W, Calls Try.prog 30 #[.string (str b)] W fun e w' => e = .returned (.int .i64 1) ∧ Below W.heap.size W w') := hide F5
  have HK := hide hk
  have Hs := hide hs
  clear hl hn hc hk hs hrep hsm
  have Hne := hide hne
  have e1 : ¬ (n : Int) = 252 := by omega
  have e2 : ((n : Int) == 252) = false := by rw [beq_eq_false_iff_ne]; omega
  have e3 : ((n : Int) != 252) = true := by rw [bne_iff_ne]; omega
  clear hne
  have Fm := fun W => may15_any h W
  rw [decide_eq_true hm] at Fm
  have Fm := hide Fm
  have hsz := str_size dt
  have hnl : ((dt.length : Int) != h.len) = false := by rw [hd]; simp
  have Fq := hide (fun W => put15_any h dt W hm hd)
  have h12 := hm.2.2.2.2.2.2.2.2.2.2.2
  have hlen : (pageB h dt).length = 256 := pageB_len h dt (by omega)
  have Fr := hide (fun A c B W => reopen_ok h dt A c B opn W hm hd ho)
  have o1 : decide ((2147483648 : Int) ≤ (opn : Int)) = false := decide_eq_false (by omega)
  have hm2 : Hd.May ⟨h.kind, h.index, h.count, h.batch, opn, h.lpn, h.len⟩ := by
    obtain ⟨a1, a2, a3, a4, a5, a6, a7, _, a9⟩ := hm
    exact ⟨a1, a2, a3, a4, a5, a6, a7, ho, a9⟩
  have Fz := hide (fun W => put15_any ⟨h.kind, h.index, h.count, h.batch, opn, h.lpn, h.len⟩ dt W hm2 hd)
  have hlen2 : (pageB ⟨h.kind, h.index, h.count, h.batch, opn, h.lpn, h.len⟩ dt).length = 256 := pageB_len _ dt (by show dt.length ≤ 228; omega)
  generalize pageB ⟨h.kind, h.index, h.count, h.batch, opn, h.lpn, h.len⟩ dt = s2 at *
  have HLen2 := hide hlen2
  clear hlen2 hm2
  generalize pageB h dt = s1 at *
  have HLen1 := hide hlen
  generalize dt.length = nd at *
  clear hlen h12 hm hd ho
  rcases h with ⟨kd, ix, ct, bt, op, lp, ln⟩
  have hx1 := heap_alloc_new w (.cells #[.int .i64 kd, .int .i64 ix, .int .i64 ct, .int .u64 (bt : Int), .int .u64 (op : Int), .int .i64 lp, .int .i64 ln, .string (str dt), .int .u64 (opn : Int), .slice A n c] 77)
  have hb1 := (Below.refl w.heap.size w).alloc (Nat.le_refl _) (.cells #[.int .i64 kd, .int .i64 ix, .int .i64 ct, .int .u64 (bt : Int), .int .u64 (op : Int), .int .i64 lp, .int .i64 ln, .string (str dt), .int .u64 (opn : Int), .slice A n c] 77)
  have hs1 : w.heap.size < (w.alloc (.cells #[.int .i64 kd, .int .i64 ix, .int .i64 ct, .int .u64 (bt : Int), .int .u64 (op : Int), .int .i64 lp, .int .i64 ln, .string (str dt), .int .u64 (opn : Int), .slice A n c] 77)).heap.size := by simp
  unfold fourC at *
  unfold Hd.cells at *
  try unfold Hd.val at *
  simp only [List.cons_append, List.nil_append] at *
  have HX1 := hide hx1
  have HB1 := hide hb1
  have Hg := hide hs1
  clear hx1 hb1 hs1
  go_enter Try.func7, Try.ntmps7
  go_upto_region 1 with fail
  generalize w.alloc (.cells #[.int .i64 kd, .int .i64 ix, .int .i64 ct, .int .u64 (bt : Int), .int .u64 (op : Int), .int .i64 lp, .int .i64 ln, .string (str dt), .int .u64 (opn : Int), .slice A n c] 77) = w1 at *
  have c0 : w1.cell? ⟨w.heap.size, 0, none⟩ = some (.int .i64 kd) := World.news_of_block HX1.out 0 _ rfl
  have c1 : w1.cell? ⟨w.heap.size, 1, none⟩ = some (.int .i64 ix) := World.news_of_block HX1.out 1 _ rfl
  have c2 : w1.cell? ⟨w.heap.size, 2, none⟩ = some (.int .i64 ct) := World.news_of_block HX1.out 2 _ rfl
  have c3 : w1.cell? ⟨w.heap.size, 3, none⟩ = some (.int .u64 (bt : Int)) := World.news_of_block HX1.out 3 _ rfl
  have c4 : w1.cell? ⟨w.heap.size, 4, none⟩ = some (.int .u64 (op : Int)) := World.news_of_block HX1.out 4 _ rfl
  have c5 : w1.cell? ⟨w.heap.size, 5, none⟩ = some (.int .i64 lp) := World.news_of_block HX1.out 5 _ rfl
  have c6 : w1.cell? ⟨w.heap.size, 6, none⟩ = some (.int .i64 ln) := World.news_of_block HX1.out 6 _ rfl
  have c7 : w1.cell? ⟨w.heap.size, 7, none⟩ = some (.string (str dt)) := World.news_of_block HX1.out 7 _ rfl
  have c8 : w1.cell? ⟨w.heap.size, 8, none⟩ = some (.int .u64 (opn : Int)) := World.news_of_block HX1.out 8 _ rfl
  have c9 : w1.cell? ⟨w.heap.size, 9, none⟩ = some (.slice A n c) := World.news_of_block HX1.out 9 _ rfl
  refine Big.wp_region_big (by kernel_rfl) (fun d v => match d with | 17 => v = .pointer (some ⟨w.heap.size, 0, none⟩) | 18 => v = .agg #[.int .i64 kd, .int .i64 ix, .int .i64 ct, .int .u64 (bt : Int), .int .u64 (op : Int), .int .i64 lp, .int .i64 ln] | 19 => v = .pointer (some ⟨w.heap.size, 7, none⟩) | 20 => v = .string (str dt) | 21 => v = .pointer (some ⟨w.heap.size, 8, none⟩) | 22 => v = .int .u64 (opn : Int) | 23 => v = .pointer (some ⟨w.heap.size, 9, none⟩) | 24 => v = .slice A n c | 3 => ∃ k, v = .pointer (some ⟨k, 0, none⟩) | 4 => v = .string (str dt) | 5 => v = .int .u64 (opn : Int) | 6 => v = .slice A n c | _ => True) (PhiP w1 ⟨kd, ix, ct, bt, op, lp, ln⟩) [8, 9] [3] (by kernel_rfl) (by kernel_rfl) (by decide) (PhiP.loc _ _) (Or.inl ⟨rfl, (Below.refl _ _).drew⟩) ⟨?_, ?_, ?_, ?_, ?_, ?_, ?_, ?_, ?_, ?_, ?_, ?_, ?_, trivial⟩ ?_
  · refine Big.small (by decide) ?_
    intro i' a' w' hi' hΦ h'
    have hb' := hΦ.below
    have e1 : a'.tmps.getD 1 undef = .pointer (some ⟨w.heap.size, 0, none⟩) := Big.sb h' 1 (by kernel_rfl) (by kernel_rfl) rfl
    exact .val (want0 rfl) rfl (by simp [Act.eval, e1, go_sem]) rfl
  · refine Big.small (by decide) ?_
    intro i' a' w' hi' hΦ h'
    have hb' := hΦ.below
    have q0 := (hb'.cell (p := ⟨w.heap.size, 0, none⟩) Hg.out).trans c0
    have q1 := (hb'.cell (p := ⟨w.heap.size, 1, none⟩) Hg.out).trans c1
    have q2 := (hb'.cell (p := ⟨w.heap.size, 2, none⟩) Hg.out).trans c2
    have q3 := (hb'.cell (p := ⟨w.heap.size, 3, none⟩) Hg.out).trans c3
    have q4 := (hb'.cell (p := ⟨w.heap.size, 4, none⟩) Hg.out).trans c4
    have q5 := (hb'.cell (p := ⟨w.heap.size, 5, none⟩) Hg.out).trans c5
    have q6 := (hb'.cell (p := ⟨w.heap.size, 6, none⟩) Hg.out).trans c6
    have e17 : a'.tmps.getD 17 undef = .pointer (some ⟨w.heap.size, 0, none⟩) := Big.sw h' 17 (by kernel_rfl) (by kernel_rfl)
    exact .val (want0 rfl) rfl (by simp [Act.eval, e17, q0, q1, q2, q3, q4, q5, q6, go_sem]) rfl
  · refine Big.small (by decide) ?_
    intro i' a' w' hi' hΦ h'
    have hb' := hΦ.below
    have e1 : a'.tmps.getD 1 undef = .pointer (some ⟨w.heap.size, 0, none⟩) := Big.sb h' 1 (by kernel_rfl) (by kernel_rfl) rfl
    exact .val (want0 rfl) rfl (by simp [Act.eval, e1, go_sem]) rfl
  · refine Big.small (by decide) ?_
    intro i' a' w' hi' hΦ h'
    have hb' := hΦ.below
    have q7 := (hb'.cell (p := ⟨w.heap.size, 7, none⟩) Hg.out).trans c7
    have e19 : a'.tmps.getD 19 undef = .pointer (some ⟨w.heap.size, 7, none⟩) := Big.sw h' 19 (by kernel_rfl) (by kernel_rfl)
    exact .val (want0 rfl) rfl (by simp [Act.eval, e19, q7, go_sem]) rfl
  · refine Big.small (by decide) ?_
    intro i' a' w' hi' hΦ h'
    have hb' := hΦ.below
    have e1 : a'.tmps.getD 1 undef = .pointer (some ⟨w.heap.size, 0, none⟩) := Big.sb h' 1 (by kernel_rfl) (by kernel_rfl) rfl
    exact .val (want0 rfl) rfl (by simp [Act.eval, e1, go_sem]) rfl
  · refine Big.small (by decide) ?_
    intro i' a' w' hi' hΦ h'
    have hb' := hΦ.below
    have q8 := (hb'.cell (p := ⟨w.heap.size, 8, none⟩) Hg.out).trans c8
    have e21 : a'.tmps.getD 21 undef = .pointer (some ⟨w.heap.size, 8, none⟩) := Big.sw h' 21 (by kernel_rfl) (by kernel_rfl)
    exact .val (want0 rfl) rfl (by simp [Act.eval, e21, q8, go_sem]) rfl
  · refine Big.small (by decide) ?_
    intro i' a' w' hi' hΦ h'
    have hb' := hΦ.below
    have e1 : a'.tmps.getD 1 undef = .pointer (some ⟨w.heap.size, 0, none⟩) := Big.sb h' 1 (by kernel_rfl) (by kernel_rfl) rfl
    exact .val (want0 rfl) rfl (by simp [Act.eval, e1, go_sem]) rfl
  · refine Big.small (by decide) ?_
    intro i' a' w' hi' hΦ h'
    have hb' := hΦ.below
    have q9 := (hb'.cell (p := ⟨w.heap.size, 9, none⟩) Hg.out).trans c9
    have e23 : a'.tmps.getD 23 undef = .pointer (some ⟨w.heap.size, 9, none⟩) := Big.sw h' 23 (by kernel_rfl) (by kernel_rfl)
    exact .val (want0 rfl) rfl (by simp [Act.eval, e23, q9, go_sem]) rfl
  · refine Big.great (i := 0) rfl (by decide) ?_
    intro a' w' hsz' hΦ h'
    have hb' := hΦ.below
    exact .made (d := 3) (v := .pointer (some ⟨w'.heap.size, 0, none⟩)) (w' := w'.alloc (.cells #[.int .i64 0, .int .i64 0, .int .i64 0, .int .u64 0, .int .u64 0, .int .i64 0, .int .i64 0] 57)) (want0 rfl) rfl (by simp [go_sem]) ⟨_, rfl⟩ (.inr (.inl ⟨rfl, _, Big.slots_put (by rw [hsz']; simp), hb'.size, hb'.alloc hb'.size _, heap_alloc_new w' _⟩))
  · refine Big.great (i := 1) rfl (by decide) ?_
    intro a' w' hsz' hΦ h'
    have e18 : a'.tmps.getD 18 undef = .agg #[.int .i64 kd, .int .i64 ix, .int .i64 ct, .int .u64 (bt : Int), .int .u64 (op : Int), .int .i64 lp, .int .i64 ln] := Big.sw h' 18 (by kernel_rfl) (by kernel_rfl)
    obtain ⟨k, e3, hk, hb', hz⟩ := hΦ.at1
    have e3' : a'.tmps.getD 3 undef = .pointer (some ⟨k, 0, none⟩) := e3
    intro K' Q hK
    rw [if_pos (want0 rfl)]
    exact wp_store_row 57 (.tmp 3) (.tmp 18) rfl k #[.int .i64 kd, .int .i64 ix, .int .i64 ct, .int .u64 (bt : Int), .int .u64 (op : Int), .int .i64 lp, .int .i64 ln] e3' e18 57 _ hz infoHd rfl (by simp [Value.oneCell']) (hK undef _ (fun d hd => by cases hd) (.inr (.inr ⟨Nat.le_refl _, k, e3, hk, setRow_belowP hb' hk _, setRow_heap _ _ _ _ _ _ hz⟩)))
  · refine Big.small (by decide) ?_
    intro i' a' w' hi' hΦ h'
    have hb' := hΦ.below
    have e20 : a'.tmps.getD 20 undef = .string (str dt) := Big.sw h' 20 (by kernel_rfl) (by kernel_rfl)
    exact .val (want0 rfl) rfl (by simp [Act.eval, e20, go_sem]) rfl
  · refine Big.small (by decide) ?_
    intro i' a' w' hi' hΦ h'
    have hb' := hΦ.below
    have e22 : a'.tmps.getD 22 undef = .int .u64 (opn : Int) := Big.sw h' 22 (by kernel_rfl) (by kernel_rfl)
    exact .val (want0 rfl) rfl (by simp [Act.eval, e22, go_sem]) rfl
  · refine Big.small (by decide) ?_
    intro i' a' w' hi' hΦ h'
    have hb' := hΦ.below
    have e24 : a'.tmps.getD 24 undef = .slice A n c := Big.sw h' 24 (by kernel_rfl) (by kernel_rfl)
    exact .val (want0 rfl) rfl (by simp [Act.eval, e24, go_sem]) rfl
  · intro a' w' hdf hsz hwr hkp hΦ
    obtain ⟨k, e3, hk, hb', hz⟩ := hΦ.at2
    have e3' : a'.tmps.getD 3 undef = .pointer (some ⟨k, 0, none⟩) := e3
    have f17 : a'.tmps.getD 17 undef = .pointer (some ⟨w.heap.size, 0, none⟩) := hwr 17 (by kernel_rfl)
    have f18 : a'.tmps.getD 18 undef = .agg #[.int .i64 kd, .int .i64 ix, .int .i64 ct, .int .u64 (bt : Int), .int .u64 (op : Int), .int .i64 lp, .int .i64 ln] := hwr 18 (by kernel_rfl)
    have f19 : a'.tmps.getD 19 undef = .pointer (some ⟨w.heap.size, 7, none⟩) := hwr 19 (by kernel_rfl)
    have f20 : a'.tmps.getD 20 undef = .string (str dt) := hwr 20 (by kernel_rfl)
    have f21 : a'.tmps.getD 21 undef = .pointer (some ⟨w.heap.size, 8, none⟩) := hwr 21 (by kernel_rfl)
    have f22 : a'.tmps.getD 22 undef = .int .u64 (opn : Int) := hwr 22 (by kernel_rfl)
    have f23 : a'.tmps.getD 23 undef = .pointer (some ⟨w.heap.size, 9, none⟩) := hwr 23 (by kernel_rfl)
    have f24 : a'.tmps.getD 24 undef = .slice A n c := hwr 24 (by kernel_rfl)
    have f4 : a'.tmps.getD 4 undef = .string (str dt) := hwr 4 (by kernel_rfl)
    have f5 : a'.tmps.getD 5 undef = .int .u64 (opn : Int) := hwr 5 (by kernel_rfl)
    have f6 : a'.tmps.getD 6 undef = .slice A n c := hwr 6 (by kernel_rfl)
    have hfr := Flo2.frame_eq [(17, .pointer (some ⟨w.heap.size, 0, none⟩)), (18, .agg #[.int .i64 kd, .int .i64 ix, .int .i64 ct, .int .u64 (bt : Int), .int .u64 (op : Int), .int .i64 lp, .int .i64 ln]), (19, .pointer (some ⟨w.heap.size, 7, none⟩)), (20, .string (str dt)), (21, .pointer (some ⟨w.heap.size, 8, none⟩)), (22, .int .u64 (opn : Int)), (23, .pointer (some ⟨w.heap.size, 9, none⟩)), (24, .slice A n c), (3, .pointer (some ⟨k, 0, none⟩)), (4, .string (str dt)), (5, .int .u64 (opn : Int)), (6, .slice A n c)] a'.tmps _ hsz (by
      intro x hx
      simp only [List.mem_cons, List.not_mem_nil, or_false] at hx
      rcases hx with h | h | h | h | h | h | h | h | h | h | h | h <;> subst h
      · exact f17
      · exact f18
      · exact f19
      · exact f20
      · exact f21
      · exact f22
      · exact f23
      · exact f24
      · exact e3'
      · exact f4
      · exact f5
      · exact f6) (fun t ht => hkp t (Flo3.writes_not _ _ (by kernel_rfl) ht))
    have ha := Flo3.act_ext hfr hdf
    have HB2 := hide (HB1.out.trans (hb'.mono HB1.out.size))
    have HX2 := hide (show BoxH ⟨kd, ix, ct, bt, op, lp, ln⟩ k w' from hz)
    clear hfr hwr hkp hsz hdf e3 e3' hz hb' hk hΦ HX1 HB1 Hg c0 c1 c2 c3 c4 c5 c6 c7 c8 c9 f17 f18 f19 f20 f21 f22 f23 f24 f4 f5 f6
    subst ha
    simp only [Flo2.puts, List.foldl_cons, List.foldl_nil, List.setIfInBounds_toArray, List.set, Exit.inBlock, Exit.then]
    generalize w' = w2 at *
    go_wp2_with fail
    (with_reducible refine (FO.out _).mono ?_)
    rintro e w3 ⟨A2, c2, rfl, ho, hb⟩
    have hc2 : 256 ≤ c2 := by obtain ⟨_, _, h1, h2, _⟩ := own_form ho; injection h1 with _ _ h3; omega
    have HC2 := hide hc2
    have HL3 := hide (Lies.of_own ho)
    have HB3 := hide (HB2.out.trans (hb.mono HB2.out.size))
    have HX3 := hide (HX2.out.below hb HX2.out.lt)
    clear ho hb hc2 HB2 HX2
    go_wp2_with fail
    have hb4 := (Below.refl w3.heap.size w3).alloc (Nat.le_refl _) (.cells #[.slice A n c, .slice A2 256 c2] 40)
    have hx4 := heap_alloc_new w3 (.cells #[.slice A n c, .slice A2 256 c2] 40)
    have HB4 := HB3.out.trans (hb4.mono HB3.out.size)
    have hlt4 : w3.heap.size < (w3.alloc (.cells #[.slice A n c, .slice A2 256 c2] 40)).heap.size := by simp
    have FC := pclasses_1 ⟨w3.heap.size, 0, none⟩ 2 A A2 n c 256 c2 b r (w3.alloc (.cells #[.slice A n c, .slice A2 256 c2] 40)) hlt4 (World.news_of_block hx4 0 _ rfl) (World.news_of_block hx4 1 _ rfl) ((HL.out.below HB4).up HB4.size) Hn.out Hc.out ((HL3.out.below hb4).up hb4.size) hrl.out.symm HC2.out HK.out hr0.out
    have HX4 := HX3.out.below hb4 HX3.out.lt
    (with_reducible refine FC.mono ?_)
    rintro e w5 ⟨rfl, hb⟩
    have hb5 := HB4.trans (hb.mono HB4.size)
    have hx5 := HX4.below hb HX4.lt
    have hb6 := (Below.refl w5.heap.size w5).alloc (Nat.le_refl _) (.cells #[.int .i64 1, .int .i64 1, .int .i64 0] 78)
    have HB6 : Hid (Below w.heap.size w (w5.alloc (.cells #[.int .i64 1, .int .i64 1, .int .i64 0] 78))) := hide (hb5.trans (hb6.mono hb5.size))
    have HX6 : Hid (BoxH ⟨kd, ix, ct, bt, op, lp, ln⟩ k (w5.alloc (.cells #[.int .i64 1, .int .i64 1, .int .i64 0] 78))) := hide (hx5.below hb6 hx5.lt)
    have HW6 : Hid (Box3 1 1 0 w5.heap.size (w5.alloc (.cells #[.int .i64 1, .int .i64 1, .int .i64 0] 78))) := hide (heap_alloc_new w5 _)
    have hsb := Hs.out (w5.alloc (.cells #[.int .i64 1, .int .i64 1, .int .i64 0] 78)) HB6.out
    clear hb4 hx4 HB4 hlt4 FC HX4 hb hb5 hx5 hb6 HB3 HX3 HL3 HC2
    go_wp2_with fail
    (with_reducible refine (F5.out _).mono ?_)
    rintro e w7 ⟨rfl, hb⟩
    have HB7 := HB6.out.trans (hb.mono HB6.out.size)
    have HX7 := HX6.out.below hb HX6.out.lt
    have HW7 := HW6.out.below hb HW6.out.lt
    have hb8 := (Below.refl w7.heap.size w7).alloc (Nat.le_refl _) (.cells #[.int .i64 1, .int .i64 1, .int .i64 0] 78)
    have HB8 : Hid (Below w.heap.size w (w7.alloc (.cells #[.int .i64 1, .int .i64 1, .int .i64 0] 78))) := hide (HB7.trans (hb8.mono HB7.size))
    have HX8 : Hid (BoxH ⟨kd, ix, ct, bt, op, lp, ln⟩ k (w7.alloc (.cells #[.int .i64 1, .int .i64 1, .int .i64 0] 78))) := hide (HX7.below hb8 HX7.lt)
    have HW8 : Hid (Box3 1 1 0 w5.heap.size (w7.alloc (.cells #[.int .i64 1, .int .i64 1, .int .i64 0] 78))) := hide (HW7.below hb8 HW7.lt)
    have HV8 : Hid (Box3 1 1 0 w7.heap.size (w7.alloc (.cells #[.int .i64 1, .int .i64 1, .int .i64 0] 78))) := hide (heap_alloc_new w7 _)
    clear hb HB7 HX7 HW7 hb8 HB6 HX6 HW6 hsb F5
    go_wp2_with fail
    (with_reducible refine (seal_none A n c _ Hne.out).mono ?_)
    rintro e w9 ⟨rfl, rfl⟩
    generalize w7.alloc (.cells #[.int .i64 1, .int .i64 1, .int .i64 0] 78) = w9 at *
    have a0 := HW8.out.c 0 _ rfl
    have a1 := HW8.out.c 1 _ rfl
    have a2 := HW8.out.c 2 _ rfl
    have b0 := HV8.out.c 0 _ rfl
    have b1 := HV8.out.c 1 _ rfl
    have b2 := HV8.out.c 2 _ rfl
    have hsb := Hs.out _ HB8.out
    have hN := neq3 1 1 0
    clear HW8 HV8
    have HB9 := HB8
    have HX9 := HX8
    clear HB8 HX8
    go_wp2_with fail
    (with_reducible refine (FO.out _).mono ?_)
    rintro e w10 ⟨A4, c4, rfl, ho, hb⟩
    have hc4 : 256 ≤ c4 := by obtain ⟨_, _, h1, h2, _⟩ := own_form ho; injection h1 with _ _ h3; omega
    have HC4 := hide hc4
    have HL4 := hide (Lies.of_own ho)
    have HB10 := hide (HB9.out.trans (hb.mono HB9.out.size))
    have HX10 := hide (HX9.out.below hb HX9.out.lt)
    clear ho hb hc4 HB9 HX9 FO
    go_wp2_with fail
    (with_reducible refine (preopen_bad A4 256 c4 w10.heap.size r opn w10 HL4.out hrl.out.symm HC4.out (Nat.le_refl _) (by rw [hr0.out]; decide)).mono ?_)
    rintro e w11 ⟨rfl, hb⟩
    have HB11 := hide (HB10.out.trans (hb.mono HB10.out.size))
    have HX11 := hide (HX10.out.below hb HX10.out.lt)
    clear hb HB10 HX10 HL4 HC4 hrl hr0
    have R := HX11.out.range
    unfold Hd.cells at R
    dsimp only at R
    go_wp2_with (with_reducible refine wpl_load_mid rfl 57 (.tmp 3) rfl k 0 _ R rfl _ Try.underlying57 rfl 7 infoHd (by with_unfolding_all rfl) ?_)
    (with_reducible refine (Fm.out _).mono ?_)
    rintro e w12 ⟨rfl, hb⟩
    have HB12 := hide (HB11.out.trans (hb.mono HB11.out.size))
    have HX12 := hide (HX11.out.below hb HX11.out.lt)
    clear hb HB11 HX11 Fm R
    have d6 := HX12.out.c 6 _ rfl
    dsimp only at d6
    have R := HX12.out.range
    unfold Hd.cells at R
    dsimp only at R
    go_wp2_with (with_reducible refine wpl_load_mid rfl 57 (.tmp 3) rfl k 0 _ R rfl _ Try.underlying57 rfl 7 infoHd (by with_unfolding_all rfl) ?_)
    (with_reducible refine (Fq.out _).mono ?_)
    rintro e w13 ⟨rfl, hb⟩
    have HB13 := hide (HB12.out.trans (hb.mono HB12.out.size))
    have HX13 := hide (HX12.out.below hb HX12.out.lt)
    clear hb HB12 HX12 d6 R Fq hnl
    obtain ⟨cs, w14, hcv, hcap, hb14, hl14⟩ := strBytesP w13 s1
    rw [HLen1.out] at hcv hcap
    have HB14 := hide (HB13.out.trans (hb14.mono HB13.out.size))
    have HX14 := hide (HX13.out.below hb14 HX13.out.lt)
    have HL14 := hide hl14
    have HC14 := hide hcap
    clear hb14 hl14 hcap HB13 HX13
    go_wp2_with fail
    (with_reducible refine (Fr.out _ cs w14.heap.size w14 HL14.out HC14.out (Nat.le_refl _)).mono ?_)
    rintro e w15 ⟨A5, c5, rfl, hc5, hl5, hb⟩
    have hb15 := HB14.out.trans (hb.mono HB14.out.size)
    have hx15 := HX14.out.below hb HX14.out.lt
    have hb16 : Below w15.heap.size w15 (w15.alloc (.cells #[.int .i64 kd, .int .i64 ix, .int .i64 ct, .int .u64 (bt : Int), .int .u64 (opn : Int), .int .i64 lp, .int .i64 ln] 57)) := (Below.refl _ _).alloc (Nat.le_refl _) _
    have HY16 : Hid (BoxH ⟨kd, ix, ct, bt, opn, lp, ln⟩ w15.heap.size (w15.alloc (.cells #[.int .i64 kd, .int .i64 ix, .int .i64 ct, .int .u64 (bt : Int), .int .u64 (opn : Int), .int .i64 lp, .int .i64 ln] 57))) := hide (heap_alloc_new w15 _)
    have HB16 := hide (hb15.trans (hb16.mono hb15.size))
    have HL16 := hide ((hl5.below hb16).up hb16.size)
    have g0 := hx15.c 0 _ rfl
    have g1 := hx15.c 1 _ rfl
    have g2 := hx15.c 2 _ rfl
    have g3 := hx15.c 3 _ rfl
    have g4 := hx15.c 4 _ rfl
    have g5 := hx15.c 5 _ rfl
    have g6 := hx15.c 6 _ rfl
    dsimp only at g0 g1 g2 g3 g4 g5 g6
    clear hb hb15 hx15 hb16 HB14 HX14 HL14 HC14 hcv Fr hc5 hl5
    go_upto_region 23 with fail
    generalize hw16 : w15.alloc (.cells #[.int .i64 kd, .int .i64 ix, .int .i64 ct, .int .u64 (bt : Int), .int .u64 (opn : Int), .int .i64 lp, .int .i64 ln] 57) = w16 at *
    clear hw16
    generalize w15.heap.size = k2 at *
    clear g0 g1 g2 g3 g4 g5 g6
    refine wp_region_all (by kernel_rfl) (fun dd => match dd with | 150 => is (.bool true) | 151 => is (.bool true) | 152 => is (.slice A5 256 c5) | 153 => is (.string (str s2)) | 154 => is (.agg #[.int .i64 kd, .int .i64 ix, .int .i64 ct, .int .u64 (bt : Int), .int .u64 (opn : Int), .int .i64 lp, .int .i64 ln]) | 155 => is (.string (str dt)) | 156 => is (.string (str s2)) | 157 => is (.bool true) | 158 => is (.bool true) | 159 => is (.bool true) | 160 => is (.int .i64 0) | 161 => is (.bool true) | 162 => is (.bool true) | 2 => is (.bool true) | _ => fun _ _ => True) (by kernel_rfl) ⟨?_, ?_, ?_, ?_, ?_, ?_, ?_, ?_, ?_, ?_, ?_, ?_, ?_, ?_, trivial⟩ ?_
    · intro a w' hb h
      exact .called (want0 rfl) rfl (by simp [go_sem]) (belowF (awake15_any w'))
    · intro a w' hb h
      have e150 := (sw h 150 (by kernel_rfl) (by kernel_rfl)).eq
      exact .val (want0 rfl) rfl (by simp [Act.eval, e150, go_sem]) (Keeps.is rfl)
    · intro a w' hb h
      have eg := (sw h 151 (by kernel_rfl) (by kernel_rfl)).eq
      have e14 : a.tmps.getD 14 undef = .slice A5 256 c5 := sb h 14 (by kernel_rfl) (by kernel_rfl) rfl
      exact .val (wantg rfl (by kernel_rfl) eg) rfl (by simp [Act.eval, e14, go_sem]) (Keeps.is rfl)
    · intro a w' hb h
      have eg := (sw h 151 (by kernel_rfl) (by kernel_rfl)).eq
      have e152 := (sw h 152 (by kernel_rfl) (by kernel_rfl)).eq
      have hs := strU8 c5 (HL16.out.below hb) HLen2.out.symm
      exact .val (wantg rfl (by kernel_rfl) eg) rfl (by simp [Act.eval, e152, hs, go_sem]) (Keeps.is rfl)
    · intro a w' hb h
      have eg := (sw h 151 (by kernel_rfl) (by kernel_rfl)).eq
      have e16 : a.tmps.getD 16 undef = .pointer (some ⟨k2, 0, none⟩) := sb h 16 (by kernel_rfl) (by kernel_rfl) rfl
      have kx := HY16.out.below hb HY16.out.lt
      have q0 := kx.c 0 _ rfl
      have q1 := kx.c 1 _ rfl
      have q2 := kx.c 2 _ rfl
      have q3 := kx.c 3 _ rfl
      have q4 := kx.c 4 _ rfl
      have q5 := kx.c 5 _ rfl
      have q6 := kx.c 6 _ rfl
      dsimp only at q0 q1 q2 q3 q4 q5 q6
      exact .val (wantg rfl (by kernel_rfl) eg) rfl (by simp [Act.eval, e16, q0, q1, q2, q3, q4, q5, q6, go_sem]) (Keeps.is rfl)
    · intro a w' hb h
      have eg := (sw h 151 (by kernel_rfl) (by kernel_rfl)).eq
      have e4 : a.tmps.getD 4 undef = .string (str dt) := sb h 4 (by kernel_rfl) (by kernel_rfl) rfl
      exact .val (wantg rfl (by kernel_rfl) eg) rfl (by simp [Act.eval, e4, go_sem]) (Keeps.is rfl)
    · intro a w' hb h
      have eg := (sw h 151 (by kernel_rfl) (by kernel_rfl)).eq
      have e154 := (sw h 154 (by kernel_rfl) (by kernel_rfl)).eq
      have e155 := (sw h 155 (by kernel_rfl) (by kernel_rfl)).eq
      exact .called (wantg rfl (by kernel_rfl) eg) rfl (by simp [Act.eval, e154, e155, go_sem]) (belowF (Fz.out w'))
    · intro a w' hb h
      have eg := (sw h 151 (by kernel_rfl) (by kernel_rfl)).eq
      have e153 := (sw h 153 (by kernel_rfl) (by kernel_rfl)).eq
      have e156 := (sw h 156 (by kernel_rfl) (by kernel_rfl)).eq
      exact .val (wantg rfl (by kernel_rfl) eg) rfl (by simp [Act.eval, e153, e156, go_sem]) (Keeps.is rfl)
    · intro a w' hb h
      have e151 := (sw h 151 (by kernel_rfl) (by kernel_rfl)).eq
      have e157 := (sw h 157 (by kernel_rfl) (by kernel_rfl)).eq
      exact .val (want0 rfl) rfl (by simp [Act.eval, e151, e157, go_sem]) (Keeps.is rfl)
    · intro a w' hb h
      have e158 := (sw h 158 (by kernel_rfl) (by kernel_rfl)).eq
      exact .val (want0 rfl) rfl (by simp [Act.eval, e158, go_sem]) (Keeps.is rfl)
    · intro a w' hb h
      have eg := (sw h 159 (by kernel_rfl) (by kernel_rfl)).eq
      have e15 : a.tmps.getD 15 undef = .int .i64 0 := sb h 15 (by kernel_rfl) (by kernel_rfl) rfl
      exact .val (wantg rfl (by kernel_rfl) eg) rfl (by simp [Act.eval, e15, go_sem]) (Keeps.is rfl)
    · intro a w' hb h
      have eg := (sw h 159 (by kernel_rfl) (by kernel_rfl)).eq
      have e160 := (sw h 160 (by kernel_rfl) (by kernel_rfl)).eq
      exact .val (wantg rfl (by kernel_rfl) eg) rfl (by simp [Act.eval, e160, go_sem]) (Keeps.is rfl)
    · intro a w' hb h
      have e159 := (sw h 159 (by kernel_rfl) (by kernel_rfl)).eq
      have e161 := (sw h 161 (by kernel_rfl) (by kernel_rfl)).eq
      exact .val (want0 rfl) rfl (by simp [Act.eval, e159, e161, go_sem]) (Keeps.is rfl)
    · intro a w' hb h
      have e162 := (sw h 162 (by kernel_rfl) (by kernel_rfl)).eq
      exact .val (want0 rfl) rfl (by simp [Act.eval, e162, go_sem]) (Keeps.is rfl)
    · intro a' w' hdf hsz hbl hwr hkp
      have f150 : a'.tmps.getD 150 undef = .bool true := (show Keeps (is (.bool true)) _ _ from hwr 150 (by kernel_rfl)).eq
      have f151 : a'.tmps.getD 151 undef = .bool true := (show Keeps (is (.bool true)) _ _ from hwr 151 (by kernel_rfl)).eq
      have f152 : a'.tmps.getD 152 undef = .slice A5 256 c5 := (show Keeps (is (.slice A5 256 c5)) _ _ from hwr 152 (by kernel_rfl)).eq
      have f153 : a'.tmps.getD 153 undef = .string (str s2) := (show Keeps (is (.string (str s2))) _ _ from hwr 153 (by kernel_rfl)).eq
      have f154 : a'.tmps.getD 154 undef = .agg #[.int .i64 kd, .int .i64 ix, .int .i64 ct, .int .u64 (bt : Int), .int .u64 (opn : Int), .int .i64 lp, .int .i64 ln] := (show Keeps (is (.agg #[.int .i64 kd, .int .i64 ix, .int .i64 ct, .int .u64 (bt : Int), .int .u64 (opn : Int), .int .i64 lp, .int .i64 ln])) _ _ from hwr 154 (by kernel_rfl)).eq
      have f155 : a'.tmps.getD 155 undef = .string (str dt) := (show Keeps (is (.string (str dt))) _ _ from hwr 155 (by kernel_rfl)).eq
      have f156 : a'.tmps.getD 156 undef = .string (str s2) := (show Keeps (is (.string (str s2))) _ _ from hwr 156 (by kernel_rfl)).eq
      have f157 : a'.tmps.getD 157 undef = .bool true := (show Keeps (is (.bool true)) _ _ from hwr 157 (by kernel_rfl)).eq
      have f158 : a'.tmps.getD 158 undef = .bool true := (show Keeps (is (.bool true)) _ _ from hwr 158 (by kernel_rfl)).eq
      have f159 : a'.tmps.getD 159 undef = .bool true := (show Keeps (is (.bool true)) _ _ from hwr 159 (by kernel_rfl)).eq
      have f160 : a'.tmps.getD 160 undef = .int .i64 0 := (show Keeps (is (.int .i64 0)) _ _ from hwr 160 (by kernel_rfl)).eq
      have f161 : a'.tmps.getD 161 undef = .bool true := (show Keeps (is (.bool true)) _ _ from hwr 161 (by kernel_rfl)).eq
      have f162 : a'.tmps.getD 162 undef = .bool true := (show Keeps (is (.bool true)) _ _ from hwr 162 (by kernel_rfl)).eq
      have f2 : a'.tmps.getD 2 undef = .bool true := (show Keeps (is (.bool true)) _ _ from hwr 2 (by kernel_rfl)).eq
      have hfr := Flo2.frame_eq [(150, .bool true), (151, .bool true), (152, .slice A5 256 c5), (153, .string (str s2)), (154, .agg #[.int .i64 kd, .int .i64 ix, .int .i64 ct, .int .u64 (bt : Int), .int .u64 (opn : Int), .int .i64 lp, .int .i64 ln]), (155, .string (str dt)), (156, .string (str s2)), (157, .bool true), (158, .bool true), (159, .bool true), (160, .int .i64 0), (161, .bool true), (162, .bool true), (2, .bool true)] a'.tmps _ hsz (by
        intro x hx
        simp only [List.mem_cons, List.not_mem_nil, or_false] at hx
        rcases hx with h | h | h | h | h | h | h | h | h | h | h | h | h | h <;> subst h
        · exact f150
        · exact f151
        · exact f152
        · exact f153
        · exact f154
        · exact f155
        · exact f156
        · exact f157
        · exact f158
        · exact f159
        · exact f160
        · exact f161
        · exact f162
        · exact f2) (fun t ht => hkp t (Flo3.writes_not _ _ (by kernel_rfl) ht))
      have ha := Flo3.act_ext hfr hdf
      clear hfr hwr hkp hsz hdf f150 f151 f152 f153 f154 f155 f156 f157 f158 f159 f160 f161 f162 f2
      subst ha
      simp only [Flo2.puts, List.foldl_cons, List.foldl_nil, List.setIfInBounds_toArray, List.set, Exit.then]
      have HBz := hide (HB16.out.trans (hbl.mono HB16.out.size))
      clear hbl HB16
      go_wp2
      go_ret
      exact ⟨rfl, HBz.out⟩
end Go.Proofs.Ytppecnimpnlipaa
