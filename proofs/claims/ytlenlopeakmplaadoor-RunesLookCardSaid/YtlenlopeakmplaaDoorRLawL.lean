/-
  RunesLook, walked.
-/
import Derived.Test.YtlenlopeakmplaaDoorAwaked
namespace Go.Proofs.YtlenlopeakmplaaDoor
open Go.RowKit

def fR (p : List UInt8) : Bool := decide (0 ≤ val p)
def fP (p : List UInt8) : Bool := decide (32 < val p ∧ val p < 127)
theorem all_succ (f : List UInt8 → Bool) (R : List (List UInt8)) (j : Nat) (h : j < R.length) : (R.take (j + 1)).all f = ((R.take j).all f && f (R[j]'h)) := by
  rw [List.take_add_one, List.getElem?_eq_getElem h, List.all_append]
  simp only [Option.toList, List.all_cons, List.all_nil, Bool.and_true]
def cutJ (R : List (List UInt8)) (n : Int) (j : Nat) : List UInt8 := ((R.take j).take n.toNat).flatten
theorem cutJ_in (R : List (List UInt8)) (n : Int) (j : Nat) (h : j < R.length) (hn : (j : Int) < n) : cutJ R n (j + 1) = cutJ R n j ++ R[j]'h := by
  unfold cutJ
  have h1 : j + 1 ≤ n.toNat := by omega
  rw [List.take_take, List.take_take, Nat.min_eq_right h1, Nat.min_eq_right (by omega), List.take_add_one, List.getElem?_eq_getElem h, List.flatten_append]
  simp only [Option.toList, List.flatten_cons, List.flatten_nil, List.append_nil]
theorem cutJ_out (R : List (List UInt8)) (n : Int) (j : Nat) (hn : ¬ (j : Int) < n) : cutJ R n (j + 1) = cutJ R n j := by
  unfold cutJ
  rw [List.take_take, List.take_take, Nat.min_eq_left (by omega), Nat.min_eq_left (by omega)]
theorem cutJ_len (l : List UInt8) (n : Int) (j : Nat) : (cutJ (runes l) n j).length ≤ l.length := by
  unfold cutJ
  rw [List.take_take]
  have h : ∀ k, ((runes l).take k).flatten.length ≤ l.length := by
    intro k
    have h2 := runes_join l
    rw [← List.take_append_drop k (runes l), List.flatten_append] at h2
    have := congrArg List.length h2
    rw [List.length_append] at this
    omega
  exact h _

set_option maxHeartbeats 8000000 in
set_option maxRecDepth 1000000 in
theorem runesLook_any (s : ByteArray) (n : Int) (w : World) (hR : Ready w) (h0 : -9223372036854775808 ≤ n) (h1 : n ≤ 9223372036854775807) :
    Calls Tryd.prog 3 #[.string s, .int .i64 n] w fun e w' => e = .returned (.bool true) ∧ Below w.heap.size w w' := by
  have hRs := hR.size
  have haw : ∀ W, Below w.heap.size w W → Calls Tryd.prog 7 #[] W fun e W' => e = .returned (.bool true) ∧ Below w.heap.size w W' := fun W hW =>
    (awake_run W (hR.below hW hRs)).mono fun e W' ⟨he, hb⟩ => ⟨he, hW.trans (hb.mono hW.size)⟩
  by_cases hlen : s.size ≤ 300
  · have g0 : ¬ (300 : Int) < (s.size : Int) := by omega
    have hdl : s.data.toList.length = s.size := by rw [Array.length_toList]; rfl
    have hPt := ref_parts s w (by omega)
    have hRg : ∀ W, Below w.heap.size w W → Calls Tryd.prog 10 #[.string s] W fun e W' => e = .returned (.bool (rightB s.data.toList)) ∧ Below w.heap.size w W' := fun W hW =>
      (right_run s W).mono fun e W' ⟨he, hb⟩ => ⟨he, hW.trans (hb.mono hW.size)⟩
    have hPl : ∀ W, Below w.heap.size w W → Calls Tryd.prog 11 #[.string s] W fun e W' => e = .returned (.bool (plainB s.data.toList)) ∧ Below w.heap.size w W' := fun W hW =>
      (plainB_run s W).mono fun e W' ⟨he, hb⟩ => ⟨he, hW.trans (hb.mono hW.size)⟩
    have hCn : ∀ W, Below w.heap.size w W → Calls Tryd.prog 12 #[.string s] W fun e W' => e = .returned (.int .i64 ((runes s.data.toList).length : Nat)) ∧ Below w.heap.size w W' := fun W hW =>
      (count_run s W (by omega)).mono fun e W' ⟨he, hb⟩ => ⟨he, hW.trans (hb.mono hW.size)⟩
    have hCt : ∀ W, Below w.heap.size w W → Calls Tryd.prog 13 #[.string s, .int .i64 n] W fun e W' => e = .returned (.string (st (cutL s.data.toList n))) ∧ Below w.heap.size w W' := fun W hW =>
      (cut_run s n W h0 h1 (by omega)).mono fun e W' ⟨he, hb⟩ => ⟨he, hW.trans (hb.mono hW.size)⟩
    obtain ⟨R, hRr⟩ : ∃ R, R = runes s.data.toList := ⟨_, rfl⟩
    have Hright := hide (show rightB s.data.toList = R.all fR by rw [hRr]; rfl)
    have Hplain := hide (show plainB s.data.toList = (decide (0 < R.length) && R.all fP) by
      rw [hRr]
      unfold plainB
      congr 1
      cases hl : s.data.toList with
      | nil => rfl
      | cons c r =>
        have := List.length_pos_iff.2 (runes_ne (l := c :: r) (by simp))
        simp [this])
    have Hcut := hide (show cutL s.data.toList n = cutJ R n R.length by rw [hRr]; unfold cutL cutJ; rw [List.take_length])
    have HcutL := hide (fun j => (show (cutJ R n j).length ≤ 300 by rw [hRr]; have := cutJ_len s.data.toList n j; omega))
    have HRl := hide (show R.length ≤ 300 by rw [hRr]; have := runes_length s.data.toList; omega)
    have HRp := hide (show ∀ p ∈ R, p ≠ [] ∧ p.length ≤ 300 by
      rw [hRr]
      intro p hp
      have hne : ∀ l : List UInt8, ∀ p ∈ runes l, p ≠ [] := by
        intro l
        refine rune_ind (P := fun l => ∀ p ∈ runes l, p ≠ []) (by simp [runes_nil]) (fun l hl ih => ?_) l
        intro p hp
        rw [runes_cons hl, List.mem_cons] at hp
        rcases hp with rfl | hp
        · have h1 := wd_pos l
          have h2 := wd_len hl
          have h4 : (l.take (wd l)).length = wd l := by rw [List.length_take]; omega
          exact fun h => by rw [h] at h4; simp at h4; omega
        · exact ih p hp
      refine ⟨hne _ p hp, ?_⟩
      have hm := congrArg List.length (runes_join s.data.toList)
      have : p.length ≤ (runes s.data.toList).flatten.length := by
        obtain ⟨a, b, hab⟩ := List.append_of_mem hp
        rw [hab]; simp; omega
      omega)
    rw [← hRr] at hPt hCn
    rw [Hright.out] at hRg
    rw [Hplain.out] at hPl
    rw [Hcut.out] at hCt
    obtain ⟨N, hN⟩ : ∃ N, N = R.length := ⟨_, rfl⟩
    rw [← hN] at hPt hCn hPl hCt HRl
    have HN := hide hN
    have hN3 := HRl.out
    clear hN hRr hdl hR
    go_enter Tryd.func3, Tryd.ntmps3
    go_wp2_with (go_at_call 8; (with_reducible refine hPt.mono ?_); rintro e w1 ⟨A, c, rfl, ho, hb⟩; have Hl := hide (Lies.of_own ho); have B1 := hide hb; have hsz1 := hb.size; clear hb ho hPt)
    go_loopw [6, 7, 8, 9] (fun r p q i wr => ∃ (j : Nat) (rb pb : Bool) (P : ByteArray), r = .bool rb ∧ p = .bool pb ∧ q = .string P ∧ i = .int .i64 (j : Int) ∧ j ≤ N ∧ Below w1.heap.size w1 wr ∧
      Hid (Lies wr w1.heap.size A (strs R) ∧ rb = (R.take j).all fR ∧ pb = (decide (0 < N) && (R.take j).all fP) ∧ P = st (cutJ R n j))) (fun _ _ _ i _ => N - (intOf i).toNat)
    case atStart => exact ⟨0, true, decide (0 < N), _, rfl, by first | rfl | (congr 1; exact decide_eq_decide.2 ⟨fun h => by omega, fun h => by omega⟩), rfl, rfl, Nat.zero_le _, Below.refl _ _, hide ⟨Hl.out, rfl, by simp, by unfold cutJ; simp; rfl⟩⟩
    case round =>
      obtain ⟨j, rb, pb, P, rfl, rfl, rfl, rfl, hj, hb, Hw⟩ := hrel
      by_cases hlt : j < N
      · have g1 : (j : Int) < (N : Int) := by omega
        have hjl : j < R.length := by have := HN.out; omega
        obtain ⟨a, rfl, ha, hc⟩ := Hw.out.1.at_ (k := j) (by rw [strs_len]; exact hjl)
        have hadd : (a.add j).block < wr.heap.size := by
          have e : (a.add j).block = a.block := by unfold Addr.add; split <;> rfl
          rw [e]; exact Nat.lt_of_lt_of_le ha hb.size
        rw [strs_at _ _ hjl] at hc
        obtain ⟨p, hp⟩ : ∃ p, p = R[j]'hjl := ⟨_, rfl⟩
        have Hall := hide (fun f => all_succ f R j hjl)
        have Hci := hide (fun h => cutJ_in R n j hjl h)
        have Hco := hide (cutJ_out R n j)
        rw [← hp] at hc Hall Hci
        have hpm := HRp.out p (by rw [hp]; exact List.getElem_mem _)
        clear hp
        have hv := ref_value (st p) wr (by rw [st_size]; have := List.length_pos_iff.2 hpm.1; omega) (by rw [st_size]; omega)
        rw [st_list] at hv
        have Hf := hide (show fR p = decide (0 ≤ val p) ∧ fP p = decide (32 < val p ∧ val p < 127) from ⟨rfl, rfl⟩)
        have hp0 : (st p).size ≤ 300 := by rw [st_size]; exact hpm.2
        obtain ⟨S, hS⟩ : ∃ S, S = st p := ⟨_, rfl⟩
        rw [← hS] at hc hv hp0
        have HS := hide hS
        clear hS hpm
        have hPs : P.size ≤ 300 := by rw [Hw.out.2.2.2, st_size]; exact HcutL.out j
        have hcat : ¬ 9223372036854775807 < P.size + S.size := by omega
        obtain ⟨v, hvv⟩ : ∃ v, v = val p := ⟨_, rfl⟩
        rw [← hvv] at hv Hf
        clear hvv
        have hvc : v < 0 ∨ (0 ≤ v ∧ v ≤ 32) ∨ ((32 < v ∧ 0 ≤ v) ∧ v < 127) ∨ (127 ≤ v ∧ 32 < v ∧ 0 ≤ v) := by omega
        have hcell2 : ∀ W, Below wr.heap.size wr W → W.cell? (a.add j) = some (.string S) := fun W hW => (hW.cell hadd).trans hc
        by_cases hjn : (j : Int) < n
        · have Hcc := hide (Hci.out hjn)
          rcases hvc with k1 | ⟨k1, k2⟩ | ⟨⟨k1, k2⟩, k3⟩ | ⟨k1, k2, k3⟩
          · have Hk := hide (show fR p = false ∧ fP p = false by
              obtain ⟨e1, e2⟩ := Hf.out
              rw [e1, e2]
              exact ⟨decide_eq_false (by omega), decide_eq_false (by omega)⟩)
            have k2 : ¬ (0 : Int) ≤ v := by omega
            go_wp2_with fail
            (with_reducible refine hv.mono ?_)
            rintro e w2 ⟨rfl, hb2⟩
            have hc2 := hcell2 w2 hb2
            have Hb2 := hide hb2
            clear hv hcell2 hb2 hc
            have hbb := hb.trans (Hb2.out.mono hb.size)
            have Hrb := hide Hw.out.2.1
            have Hpb := hide Hw.out.2.2.1
            have HlI := hide (Hw.out.1.below (Hb2.out.mono hb.size))
            have HPc := hide Hw.out.2.2.2
            clear Hw
            cases rb <;> cases pb
            all_goals
              go_wp2
              refine ⟨⟨j + 1, _, _, _, rfl, rfl, rfl, by go_num, by omega, hbb, hide ⟨HlI.out, ?_, ?_, ?_⟩⟩, by simp [intOf]; omega⟩
              · rw [Hall.out, ← Hrb.out, Hk.out.1]; first | rfl | exact decide_eq_false (by omega) | exact decide_eq_true (by omega)
              · rw [Hall.out, Hk.out.2, ← Bool.and_assoc, ← Hpb.out]; first | rfl | exact decide_eq_false (by omega) | exact decide_eq_true (by omega)
              · rw [Hcc.out, HPc.out, HS.out, st_app]
          · have Hk := hide (show fR p = true ∧ fP p = false by
              obtain ⟨e1, e2⟩ := Hf.out
              rw [e1, e2]
              exact ⟨decide_eq_true (by omega), decide_eq_false (by omega)⟩)
            have k3 : ¬ (32 : Int) < v := by omega
            go_wp2_with fail
            (with_reducible refine hv.mono ?_)
            rintro e w2 ⟨rfl, hb2⟩
            have hc2 := hcell2 w2 hb2
            have Hb2 := hide hb2
            clear hv hcell2 hb2 hc
            have hbb := hb.trans (Hb2.out.mono hb.size)
            have Hrb := hide Hw.out.2.1
            have Hpb := hide Hw.out.2.2.1
            have HlI := hide (Hw.out.1.below (Hb2.out.mono hb.size))
            have HPc := hide Hw.out.2.2.2
            clear Hw
            cases rb <;> cases pb
            all_goals
              go_wp2
              refine ⟨⟨j + 1, _, _, _, rfl, rfl, rfl, by go_num, by omega, hbb, hide ⟨HlI.out, ?_, ?_, ?_⟩⟩, by simp [intOf]; omega⟩
              · rw [Hall.out, ← Hrb.out, Hk.out.1]; first | rfl | exact decide_eq_false (by omega) | exact decide_eq_true (by omega)
              · rw [Hall.out, Hk.out.2, ← Bool.and_assoc, ← Hpb.out]; first | rfl | exact decide_eq_false (by omega) | exact decide_eq_true (by omega)
              · rw [Hcc.out, HPc.out, HS.out, st_app]
          · have Hk := hide (show fR p = true ∧ fP p = true by
              obtain ⟨e1, e2⟩ := Hf.out
              rw [e1, e2]
              exact ⟨decide_eq_true (by omega), decide_eq_true (by omega)⟩)
            go_wp2_with fail
            (with_reducible refine hv.mono ?_)
            rintro e w2 ⟨rfl, hb2⟩
            have hc2 := hcell2 w2 hb2
            have Hb2 := hide hb2
            clear hv hcell2 hb2 hc
            have hbb := hb.trans (Hb2.out.mono hb.size)
            have Hrb := hide Hw.out.2.1
            have Hpb := hide Hw.out.2.2.1
            have HlI := hide (Hw.out.1.below (Hb2.out.mono hb.size))
            have HPc := hide Hw.out.2.2.2
            clear Hw
            cases rb <;> cases pb
            all_goals
              go_wp2
              refine ⟨⟨j + 1, _, _, _, rfl, rfl, rfl, by go_num, by omega, hbb, hide ⟨HlI.out, ?_, ?_, ?_⟩⟩, by simp [intOf]; omega⟩
              · rw [Hall.out, ← Hrb.out, Hk.out.1]; first | rfl | exact decide_eq_false (by omega) | exact decide_eq_true (by omega)
              · rw [Hall.out, Hk.out.2, ← Bool.and_assoc, ← Hpb.out]; first | rfl | exact decide_eq_false (by omega) | exact decide_eq_true (by omega)
              · rw [Hcc.out, HPc.out, HS.out, st_app]
          · have Hk := hide (show fR p = true ∧ fP p = false by
              obtain ⟨e1, e2⟩ := Hf.out
              rw [e1, e2]
              exact ⟨decide_eq_true (by omega), decide_eq_false (by omega)⟩)
            have k4 : ¬ v < 127 := by omega
            go_wp2_with fail
            (with_reducible refine hv.mono ?_)
            rintro e w2 ⟨rfl, hb2⟩
            have hc2 := hcell2 w2 hb2
            have Hb2 := hide hb2
            clear hv hcell2 hb2 hc
            have hbb := hb.trans (Hb2.out.mono hb.size)
            have Hrb := hide Hw.out.2.1
            have Hpb := hide Hw.out.2.2.1
            have HlI := hide (Hw.out.1.below (Hb2.out.mono hb.size))
            have HPc := hide Hw.out.2.2.2
            clear Hw
            cases rb <;> cases pb
            all_goals
              go_wp2
              refine ⟨⟨j + 1, _, _, _, rfl, rfl, rfl, by go_num, by omega, hbb, hide ⟨HlI.out, ?_, ?_, ?_⟩⟩, by simp [intOf]; omega⟩
              · rw [Hall.out, ← Hrb.out, Hk.out.1]; first | rfl | exact decide_eq_false (by omega) | exact decide_eq_true (by omega)
              · rw [Hall.out, Hk.out.2, ← Bool.and_assoc, ← Hpb.out]; first | rfl | exact decide_eq_false (by omega) | exact decide_eq_true (by omega)
              · rw [Hcc.out, HPc.out, HS.out, st_app]
        · have Hcc := hide (Hco.out hjn)
          rcases hvc with k1 | ⟨k1, k2⟩ | ⟨⟨k1, k2⟩, k3⟩ | ⟨k1, k2, k3⟩
          · have Hk := hide (show fR p = false ∧ fP p = false by
              obtain ⟨e1, e2⟩ := Hf.out
              rw [e1, e2]
              exact ⟨decide_eq_false (by omega), decide_eq_false (by omega)⟩)
            have k2 : ¬ (0 : Int) ≤ v := by omega
            go_wp2_with fail
            (with_reducible refine hv.mono ?_)
            rintro e w2 ⟨rfl, hb2⟩
            have hc2 := hcell2 w2 hb2
            have Hb2 := hide hb2
            clear hv hcell2 hb2 hc
            have hbb := hb.trans (Hb2.out.mono hb.size)
            have Hrb := hide Hw.out.2.1
            have Hpb := hide Hw.out.2.2.1
            have HlI := hide (Hw.out.1.below (Hb2.out.mono hb.size))
            have HPc := hide Hw.out.2.2.2
            clear Hw
            cases rb <;> cases pb
            all_goals
              go_wp2
              refine ⟨⟨j + 1, _, _, _, rfl, rfl, rfl, by go_num, by omega, hbb, hide ⟨HlI.out, ?_, ?_, ?_⟩⟩, by simp [intOf]; omega⟩
              · rw [Hall.out, ← Hrb.out, Hk.out.1]; first | rfl | exact decide_eq_false (by omega) | exact decide_eq_true (by omega)
              · rw [Hall.out, Hk.out.2, ← Bool.and_assoc, ← Hpb.out]; first | rfl | exact decide_eq_false (by omega) | exact decide_eq_true (by omega)
              · rw [Hcc.out, HPc.out]
          · have Hk := hide (show fR p = true ∧ fP p = false by
              obtain ⟨e1, e2⟩ := Hf.out
              rw [e1, e2]
              exact ⟨decide_eq_true (by omega), decide_eq_false (by omega)⟩)
            have k3 : ¬ (32 : Int) < v := by omega
            go_wp2_with fail
            (with_reducible refine hv.mono ?_)
            rintro e w2 ⟨rfl, hb2⟩
            have hc2 := hcell2 w2 hb2
            have Hb2 := hide hb2
            clear hv hcell2 hb2 hc
            have hbb := hb.trans (Hb2.out.mono hb.size)
            have Hrb := hide Hw.out.2.1
            have Hpb := hide Hw.out.2.2.1
            have HlI := hide (Hw.out.1.below (Hb2.out.mono hb.size))
            have HPc := hide Hw.out.2.2.2
            clear Hw
            cases rb <;> cases pb
            all_goals
              go_wp2
              refine ⟨⟨j + 1, _, _, _, rfl, rfl, rfl, by go_num, by omega, hbb, hide ⟨HlI.out, ?_, ?_, ?_⟩⟩, by simp [intOf]; omega⟩
              · rw [Hall.out, ← Hrb.out, Hk.out.1]; first | rfl | exact decide_eq_false (by omega) | exact decide_eq_true (by omega)
              · rw [Hall.out, Hk.out.2, ← Bool.and_assoc, ← Hpb.out]; first | rfl | exact decide_eq_false (by omega) | exact decide_eq_true (by omega)
              · rw [Hcc.out, HPc.out]
          · have Hk := hide (show fR p = true ∧ fP p = true by
              obtain ⟨e1, e2⟩ := Hf.out
              rw [e1, e2]
              exact ⟨decide_eq_true (by omega), decide_eq_true (by omega)⟩)
            go_wp2_with fail
            (with_reducible refine hv.mono ?_)
            rintro e w2 ⟨rfl, hb2⟩
            have hc2 := hcell2 w2 hb2
            have Hb2 := hide hb2
            clear hv hcell2 hb2 hc
            have hbb := hb.trans (Hb2.out.mono hb.size)
            have Hrb := hide Hw.out.2.1
            have Hpb := hide Hw.out.2.2.1
            have HlI := hide (Hw.out.1.below (Hb2.out.mono hb.size))
            have HPc := hide Hw.out.2.2.2
            clear Hw
            cases rb <;> cases pb
            all_goals
              go_wp2
              refine ⟨⟨j + 1, _, _, _, rfl, rfl, rfl, by go_num, by omega, hbb, hide ⟨HlI.out, ?_, ?_, ?_⟩⟩, by simp [intOf]; omega⟩
              · rw [Hall.out, ← Hrb.out, Hk.out.1]; first | rfl | exact decide_eq_false (by omega) | exact decide_eq_true (by omega)
              · rw [Hall.out, Hk.out.2, ← Bool.and_assoc, ← Hpb.out]; first | rfl | exact decide_eq_false (by omega) | exact decide_eq_true (by omega)
              · rw [Hcc.out, HPc.out]
          · have Hk := hide (show fR p = true ∧ fP p = false by
              obtain ⟨e1, e2⟩ := Hf.out
              rw [e1, e2]
              exact ⟨decide_eq_true (by omega), decide_eq_false (by omega)⟩)
            have k4 : ¬ v < 127 := by omega
            go_wp2_with fail
            (with_reducible refine hv.mono ?_)
            rintro e w2 ⟨rfl, hb2⟩
            have hc2 := hcell2 w2 hb2
            have Hb2 := hide hb2
            clear hv hcell2 hb2 hc
            have hbb := hb.trans (Hb2.out.mono hb.size)
            have Hrb := hide Hw.out.2.1
            have Hpb := hide Hw.out.2.2.1
            have HlI := hide (Hw.out.1.below (Hb2.out.mono hb.size))
            have HPc := hide Hw.out.2.2.2
            clear Hw
            cases rb <;> cases pb
            all_goals
              go_wp2
              refine ⟨⟨j + 1, _, _, _, rfl, rfl, rfl, by go_num, by omega, hbb, hide ⟨HlI.out, ?_, ?_, ?_⟩⟩, by simp [intOf]; omega⟩
              · rw [Hall.out, ← Hrb.out, Hk.out.1]; first | rfl | exact decide_eq_false (by omega) | exact decide_eq_true (by omega)
              · rw [Hall.out, Hk.out.2, ← Bool.and_assoc, ← Hpb.out]; first | rfl | exact decide_eq_false (by omega) | exact decide_eq_true (by omega)
              · rw [Hcc.out, HPc.out]
      · obtain rfl : j = N := by omega
        have hcm : (P.toList == P.toList) = true := beq_self_eq_true _
        have e1 : R.all fR = rb := by rw [Hw.out.2.1, HN.out, List.take_length]
        have e2 : (decide (0 < j) && R.all fP) = pb := by rw [Hw.out.2.2.1]; congr 1; rw [HN.out, List.take_length]
        have e3 : st (cutJ R n j) = P := Hw.out.2.2.2.symm
        rw [e1] at hRg
        rw [e2] at hPl
        rw [e3] at hCt
        have hbb : Below w.heap.size w wr := B1.out.trans (hb.mono hsz1)
        clear e1 e2 e3 Hw hb
        have hrr : (rb == rb) = true := beq_self_eq_true _
        have hpp : (pb == pb) = true := beq_self_eq_true _
        go_wp2_with (first
          | (go_at_call 7; (with_reducible refine (haw wr hbb).mono ?_); rintro e w2 ⟨rfl, hb⟩; have B2 := hide hb; clear hb haw)
          | (go_at_call 10; (with_reducible refine (hRg w2 B2.out).mono ?_); rintro e w3 ⟨rfl, hb⟩; have B3 := hide hb; clear hb hRg)
          | (go_at_call 11; (with_reducible refine (hPl w3 B3.out).mono ?_); rintro e w4 ⟨rfl, hb⟩; have B4 := hide hb; clear hb hPl)
          | (go_at_call 12; (with_reducible refine (hCn w4 B4.out).mono ?_); rintro e w5 ⟨rfl, hb⟩; have B5 := hide hb; clear hb hCn)
          | (go_at_call 13; (with_reducible refine (hCt w5 B5.out).mono ?_); rintro e w6 ⟨rfl, hb⟩; have B6 := hide hb; clear hb hCt))
        go_ret
        exact ⟨rfl, B6.out⟩
  · have g0 : (300 : Int) < (s.size : Int) := by omega
    clear hR
    go_enter Tryd.func3, Tryd.ntmps3
    go_wp2_with (go_at_call 7; (with_reducible refine (haw w (Below.refl _ _)).mono ?_); rintro e w1 ⟨rfl, hb⟩; have B1 := hide hb; clear hb haw)
    go_ret
    exact ⟨rfl, B1.out⟩

end Go.Proofs.YtlenlopeakmplaaDoor
