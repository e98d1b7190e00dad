/-
  LAYER 21, THE REFERENCE: Least, Most. (By gen/WrR.gen.py.)
-/
import Derived.Test.YtpepifbdndcbjaaWrG
namespace Go.Proofs.Ytpepifbdndcbjaa
open Go.RowKit
set_option maxRecDepth 8000

theorem of_back {f : Nat} {args : Array Value} {W : World} {v : Value} (h : Calls Try.prog f args W fun e w' => e = .returned v ∧ W = w') : Calls Try.prog f args W fun e w' => e = .returned v ∧ w' = W := h.mono fun e w' ⟨h1, h2⟩ => ⟨h1, h2.symm⟩
set_option maxHeartbeats 8000000 in
theorem leastR21 (A A2 : Option Addr) (n c n2 c2 : Nat) (l cs : List Int) (w : World) (hl : Lies w w.heap.size A (nums .i64 l)) (hc : Lies w w.heap.size A2 (nums .i64 cs)) (hn : n = l.length) (hn2 : n2 = cs.length) (hbig : n ≤ 1000000) (hbig2 : n2 ≤ 1000000) :
    Calls Try.prog 9 #[.slice A n c, .slice A2 n2 c2] w fun e w' => e = .returned (.int .i64 (idxZ (ahL cs) l n)) ∧ Below w.heap.size w w' := by
  have HL := hide hl
  have HF := hide (fun W b (hW : Below w.heap.size w W) => of_back (ofR21 A2 n2 c2 w.heap.size cs b W (hc.below hW) hn2 hbig2))
  have Hn := hide hn
  have Hbig := hide hbig
  have S0 : Hid (idxZ (ahL cs) l 0 = -1) := hide rfl
  clear hl hc hn hbig hn2
  go_enter Try.func9, Try.ntmps9
  go_wp2
  go_loopw [5, 6] (fun k i wr => ∃ j : Nat, j ≤ n ∧ k = .int .i64 (idxZ (ahL cs) l j) ∧ i = .int .i64 (j : Int) ∧ Hid (Below w.heap.size w wr)) (fun _ i _ => n - (intOf i).toNat)
  case atStart => exact ⟨0, Nat.zero_le _, congrArg (Value.int .i64) S0.out.symm, rfl, hide (Below.refl _ _)⟩
  case round =>
    clear S0
    obtain ⟨j, hj, rfl, rfl, HW⟩ := hrel
    by_cases hlt : j < n
    · have hlt' : (j : Int) < (n : Int) := by omega
      have hjl : j < l.length := by rw [← Hn.out]; exact hlt
      have e7 : wrap64 ((j : Int) + 1) = ((j + 1 : Nat) : Int) := by have := Hbig.out; unfold wrap64; omega
      have Hnx : Hid (idxZ (ahL cs) l (j + 1) = if idxZ (ahL cs) l j < 0 ∨ ahL cs (l.getD j 0) (l.getD (idxZ (ahL cs) l j).toNat 0) = true then (j : Int) else idxZ (ahL cs) l j) := hide rfl
      have Hix := hide (idxZ_lt (p := ahL cs) (l := l) j)
      obtain ⟨a, rfl, hab, hca⟩ := (HL.out.below HW.out).num (i := j) hjl
      generalize idxZ (ahL cs) l j = K at *
      by_cases hneg : K < 0
      · have gK : decide (K < 0) = true := decide_eq_true hneg
        have Hm := hide (show idxZ (ahL cs) l (j + 1) = (j : Int) by rw [Hnx.out, if_pos (.inl hneg)])
        clear Hnx Hix hneg hca hab hjl HF HL
        go_upto_region 5 with fail
        go_quiet (fail)
        go_wp2
        go_roundw
        case rel => exact ⟨j + 1, hlt, congrArg (Value.int .i64) Hm.out.symm, congrArg (Value.int .i64) e7, hide (bel_drewN HW.out _)⟩
        case measure => first | exact measT hlt | exact measT2 e7 hlt
      · have gK : decide (K < 0) = false := decide_eq_false hneg
        obtain ⟨i1, i2, _⟩ := Hix.out hneg
        obtain ⟨k, rfl⟩ : ∃ k : Nat, K = (k : Int) := ⟨K.toNat, by omega⟩
        rw [Int.toNat_natCast] at i2 Hnx
        have hkn : (k : Int) < (n : Int) := by omega
        have hk0 : (0 : Int) ≤ (k : Int) := by omega
        obtain ⟨a2, ha2, hab2, hca2⟩ := (HL.out.below HW.out).num (i := k) (by omega)
        obtain rfl : a = a2 := by injection ha2
        have F1 := fun q => HF.out (wr.drewN q) (l.getD j 0) (bel_drewN HW.out q)
        have F2 := fun q => HF.out (wr.drewN q) (l.getD k 0) (bel_drewN HW.out q)
        have Hah : Hid (ahL cs (l.getD j 0) (l.getD k 0) = decide (ofZ cs (l.getD j 0) < ofZ cs (l.getD k 0) ∨ ofZ cs (l.getD j 0) = ofZ cs (l.getD k 0) ∧ l.getD j 0 < l.getD k 0)) := hide rfl
        clear hab hab2 hjl ha2 i1 Hix HF HL
        generalize l.getD j 0 = x at *
        generalize l.getD k 0 = y at *
        generalize ahL cs x y = B at *
        generalize ofZ cs x = u at *
        generalize ofZ cs y = v at *
        by_cases h1 : u < v
        · have g1 : decide (u < v) = true := decide_eq_true h1
          have Hm := hide (show idxZ (ahL cs) l (j + 1) = (j : Int) by rw [Hnx.out, if_pos (.inr (by rw [Hah.out]; exact decide_eq_true (by omega)))])
          clear Hnx Hah h1
          go_upto_region 5 with fail
          go_quiet (first | (go_at_call 12; first | (with_reducible exact Calls.quiet_of_same (F1 _)) | (with_reducible exact Calls.quiet_of_same (F2 _))))
          go_wp2
          go_roundw
          case rel => exact ⟨j + 1, hlt, congrArg (Value.int .i64) Hm.out.symm, congrArg (Value.int .i64) e7, hide (bel_drewN HW.out _)⟩
          case measure => first | exact measT hlt | exact measT2 e7 hlt
        · have g1 : decide (u < v) = false := decide_eq_false h1
          by_cases h2 : u = v
          · have g2 : (u == v) = true := beq_iff_eq.2 h2
            by_cases h3 : x < y
            · have g3 : decide (x < y) = true := decide_eq_true h3
              have Hm := hide (show idxZ (ahL cs) l (j + 1) = (j : Int) by rw [Hnx.out, if_pos (.inr (by rw [Hah.out]; exact decide_eq_true (by omega)))])
              clear Hnx Hah h1 h2 h3
              go_upto_region 5 with fail
              go_quiet (first | (go_at_call 12; first | (with_reducible exact Calls.quiet_of_same (F1 _)) | (with_reducible exact Calls.quiet_of_same (F2 _))))
              go_wp2
              go_roundw
              case rel => exact ⟨j + 1, hlt, congrArg (Value.int .i64) Hm.out.symm, congrArg (Value.int .i64) e7, hide (bel_drewN HW.out _)⟩
              case measure => first | exact measT hlt | exact measT2 e7 hlt
            · have g3 : decide (x < y) = false := decide_eq_false h3
              have Hm := hide (show idxZ (ahL cs) l (j + 1) = (k : Int) by rw [Hnx.out, if_neg (by rw [Hah.out, decide_eq_true_eq]; omega)])
              clear Hnx Hah h1 h2 h3
              go_upto_region 5 with fail
              go_quiet (first | (go_at_call 12; first | (with_reducible exact Calls.quiet_of_same (F1 _)) | (with_reducible exact Calls.quiet_of_same (F2 _))))
              go_wp2
              go_roundw
              case rel => exact ⟨j + 1, hlt, congrArg (Value.int .i64) Hm.out.symm, congrArg (Value.int .i64) e7, hide (bel_drewN HW.out _)⟩
              case measure => first | exact measT hlt | exact measT2 e7 hlt
          · have g2 : (u == v) = false := beq_eq_false_iff_ne.2 h2
            have Hm := hide (show idxZ (ahL cs) l (j + 1) = (k : Int) by rw [Hnx.out, if_neg (by rw [Hah.out, decide_eq_true_eq]; omega)])
            clear Hnx Hah h1 h2
            go_upto_region 5 with fail
            go_quiet (first | (go_at_call 12; first | (with_reducible exact Calls.quiet_of_same (F1 _)) | (with_reducible exact Calls.quiet_of_same (F2 _))))
            go_wp2
            go_roundw
            case rel => exact ⟨j + 1, hlt, congrArg (Value.int .i64) Hm.out.symm, congrArg (Value.int .i64) e7, hide (bel_drewN HW.out _)⟩
            case measure => first | exact measT hlt | exact measT2 e7 hlt
    · obtain rfl : j = n := by omega
      clear HL HF
      go_wp2
      go_ret
      exact ⟨rfl, HW.out⟩
set_option maxHeartbeats 8000000 in
theorem mostR21 (A A2 : Option Addr) (n c n2 c2 : Nat) (l cs : List Int) (w : World) (hl : Lies w w.heap.size A (nums .i64 l)) (hc : Lies w w.heap.size A2 (nums .i64 cs)) (hn : n = l.length) (hn2 : n2 = cs.length) (hbig : n ≤ 1000000) (hbig2 : n2 ≤ 1000000) :
    Calls Try.prog 10 #[.slice A n c, .slice A2 n2 c2] w fun e w' => e = .returned (.int .i64 (idxZ (ahM cs) l n)) ∧ Below w.heap.size w w' := by
  have HL := hide hl
  have HF := hide (fun W b (hW : Below w.heap.size w W) => of_back (ofR21 A2 n2 c2 w.heap.size cs b W (hc.below hW) hn2 hbig2))
  have Hn := hide hn
  have Hbig := hide hbig
  have S0 : Hid (idxZ (ahM cs) l 0 = -1) := hide rfl
  clear hl hc hn hbig hn2
  go_enter Try.func10, Try.ntmps10
  go_wp2
  go_loopw [5, 6] (fun k i wr => ∃ j : Nat, j ≤ n ∧ k = .int .i64 (idxZ (ahM cs) l j) ∧ i = .int .i64 (j : Int) ∧ Hid (Below w.heap.size w wr)) (fun _ i _ => n - (intOf i).toNat)
  case atStart => exact ⟨0, Nat.zero_le _, congrArg (Value.int .i64) S0.out.symm, rfl, hide (Below.refl _ _)⟩
  case round =>
    clear S0
    obtain ⟨j, hj, rfl, rfl, HW⟩ := hrel
    by_cases hlt : j < n
    · have hlt' : (j : Int) < (n : Int) := by omega
      have hjl : j < l.length := by rw [← Hn.out]; exact hlt
      have e7 : wrap64 ((j : Int) + 1) = ((j + 1 : Nat) : Int) := by have := Hbig.out; unfold wrap64; omega
      have Hnx : Hid (idxZ (ahM cs) l (j + 1) = if idxZ (ahM cs) l j < 0 ∨ ahM cs (l.getD j 0) (l.getD (idxZ (ahM cs) l j).toNat 0) = true then (j : Int) else idxZ (ahM cs) l j) := hide rfl
      have Hix := hide (idxZ_lt (p := ahM cs) (l := l) j)
      obtain ⟨a, rfl, hab, hca⟩ := (HL.out.below HW.out).num (i := j) hjl
      generalize idxZ (ahM cs) l j = K at *
      by_cases hneg : K < 0
      · have gK : decide (K < 0) = true := decide_eq_true hneg
        have Hm := hide (show idxZ (ahM cs) l (j + 1) = (j : Int) by rw [Hnx.out, if_pos (.inl hneg)])
        clear Hnx Hix hneg hca hab hjl HF HL
        go_upto_region 5 with fail
        go_quiet (fail)
        go_wp2
        go_roundw
        case rel => exact ⟨j + 1, hlt, congrArg (Value.int .i64) Hm.out.symm, congrArg (Value.int .i64) e7, hide (bel_drewN HW.out _)⟩
        case measure => first | exact measT hlt | exact measT2 e7 hlt
      · have gK : decide (K < 0) = false := decide_eq_false hneg
        obtain ⟨i1, i2, _⟩ := Hix.out hneg
        obtain ⟨k, rfl⟩ : ∃ k : Nat, K = (k : Int) := ⟨K.toNat, by omega⟩
        rw [Int.toNat_natCast] at i2 Hnx
        have hkn : (k : Int) < (n : Int) := by omega
        have hk0 : (0 : Int) ≤ (k : Int) := by omega
        obtain ⟨a2, ha2, hab2, hca2⟩ := (HL.out.below HW.out).num (i := k) (by omega)
        obtain rfl : a = a2 := by injection ha2
        have F1 := fun q => HF.out (wr.drewN q) (l.getD j 0) (bel_drewN HW.out q)
        have F2 := fun q => HF.out (wr.drewN q) (l.getD k 0) (bel_drewN HW.out q)
        have Hah : Hid (ahM cs (l.getD j 0) (l.getD k 0) = decide (ofZ cs (l.getD k 0) < ofZ cs (l.getD j 0) ∨ ofZ cs (l.getD j 0) = ofZ cs (l.getD k 0) ∧ l.getD j 0 < l.getD k 0)) := hide rfl
        clear hab hab2 hjl ha2 i1 Hix HF HL
        generalize l.getD j 0 = x at *
        generalize l.getD k 0 = y at *
        generalize ahM cs x y = B at *
        generalize ofZ cs x = u at *
        generalize ofZ cs y = v at *
        by_cases h1 : v < u
        · have g1 : decide (v < u) = true := decide_eq_true h1
          have Hm := hide (show idxZ (ahM cs) l (j + 1) = (j : Int) by rw [Hnx.out, if_pos (.inr (by rw [Hah.out]; exact decide_eq_true (by omega)))])
          clear Hnx Hah h1
          go_upto_region 5 with fail
          go_quiet (first | (go_at_call 12; first | (with_reducible exact Calls.quiet_of_same (F1 _)) | (with_reducible exact Calls.quiet_of_same (F2 _))))
          go_wp2
          go_roundw
          case rel => exact ⟨j + 1, hlt, congrArg (Value.int .i64) Hm.out.symm, congrArg (Value.int .i64) e7, hide (bel_drewN HW.out _)⟩
          case measure => first | exact measT hlt | exact measT2 e7 hlt
        · have g1 : decide (v < u) = false := decide_eq_false h1
          by_cases h2 : u = v
          · have g2 : (u == v) = true := beq_iff_eq.2 h2
            by_cases h3 : x < y
            · have g3 : decide (x < y) = true := decide_eq_true h3
              have Hm := hide (show idxZ (ahM cs) l (j + 1) = (j : Int) by rw [Hnx.out, if_pos (.inr (by rw [Hah.out]; exact decide_eq_true (by omega)))])
              clear Hnx Hah h1 h2 h3
              go_upto_region 5 with fail
              go_quiet (first | (go_at_call 12; first | (with_reducible exact Calls.quiet_of_same (F1 _)) | (with_reducible exact Calls.quiet_of_same (F2 _))))
              go_wp2
              go_roundw
              case rel => exact ⟨j + 1, hlt, congrArg (Value.int .i64) Hm.out.symm, congrArg (Value.int .i64) e7, hide (bel_drewN HW.out _)⟩
              case measure => first | exact measT hlt | exact measT2 e7 hlt
            · have g3 : decide (x < y) = false := decide_eq_false h3
              have Hm := hide (show idxZ (ahM cs) l (j + 1) = (k : Int) by rw [Hnx.out, if_neg (by rw [Hah.out, decide_eq_true_eq]; omega)])
              clear Hnx Hah h1 h2 h3
              go_upto_region 5 with fail
              go_quiet (first | (go_at_call 12; first | (with_reducible exact Calls.quiet_of_same (F1 _)) | (with_reducible exact Calls.quiet_of_same (F2 _))))
              go_wp2
              go_roundw
              case rel => exact ⟨j + 1, hlt, congrArg (Value.int .i64) Hm.out.symm, congrArg (Value.int .i64) e7, hide (bel_drewN HW.out _)⟩
              case measure => first | exact measT hlt | exact measT2 e7 hlt
          · have g2 : (u == v) = false := beq_eq_false_iff_ne.2 h2
            have Hm := hide (show idxZ (ahM cs) l (j + 1) = (k : Int) by rw [Hnx.out, if_neg (by rw [Hah.out, decide_eq_true_eq]; omega)])
            clear Hnx Hah h1 h2
            go_upto_region 5 with fail
            go_quiet (first | (go_at_call 12; first | (with_reducible exact Calls.quiet_of_same (F1 _)) | (with_reducible exact Calls.quiet_of_same (F2 _))))
            go_wp2
            go_roundw
            case rel => exact ⟨j + 1, hlt, congrArg (Value.int .i64) Hm.out.symm, congrArg (Value.int .i64) e7, hide (bel_drewN HW.out _)⟩
            case measure => first | exact measT hlt | exact measT2 e7 hlt
    · obtain rfl : j = n := by omega
      clear HL HF
      go_wp2
      go_ret
      exact ⟨rfl, HW.out⟩
end Go.Proofs.Ytpepifbdndcbjaa
