/-
  CONTRACTS of package runes, first part: stray, plain, Right, Plain, Count, Cut.
-/
import Derived.Test.YtlenlopeakmplaaDoorRefE
import Derived.Test.YtlenlopeakmplaaDoorShelf
import Derived.Lib.OthersKept
import Derived.BigCall
namespace Go.Proofs.YtlenlopeakmplaaDoor
open Go.RowKit

theorem plain_run (r : Int) (w : World) : Calls Tryd.prog 26 #[.int .i32 r] w fun e w' => e = .returned (.bool (decide (33 ≤ r ∧ r ≤ 126))) ∧ w' = w := by
  by_cases h1 : 33 ≤ r
  · by_cases h2 : r ≤ 126
    · rw [decide_eq_true (show 33 ≤ r ∧ r ≤ 126 from ⟨h1, h2⟩)]
      go_enter Tryd.func26, Tryd.ntmps26
      go_wp2
      go_ret
      exact ⟨rfl, rfl⟩
    · rw [decide_eq_false (show ¬ (33 ≤ r ∧ r ≤ 126) from fun h => h2 h.2)]
      go_enter Tryd.func26, Tryd.ntmps26
      go_wp2
      go_ret
      exact ⟨rfl, rfl⟩
  · rw [decide_eq_false (show ¬ (33 ≤ r ∧ r ≤ 126) from fun h => h1 h.1)]
    go_enter Tryd.func26, Tryd.ntmps26
    go_wp2
    go_ret
    exact ⟨rfl, rfl⟩

theorem stray_run (s : ByteArray) (pos : Nat) (w : World) (hp : pos < s.size) (l : List UInt8) (hl : l = s.data.toList.drop pos) :
    Calls Tryd.prog 25 #[.string s, .int .i64 pos, .int .i32 (va l : Int)] w fun e w' => e = .returned (.bool (decide (sz l = 0))) ∧ w' = w := by
  have hne : l ≠ [] := fun h => by
    have := congrArg List.length hl
    rw [h, List.length_drop, Array.length_toList] at this
    have e : s.size = s.data.size := rfl
    simp at this; omega
  have hst := stray_iff hne
  by_cases h : va l = 65533
  · have hpre := fun w' => Tryd.strings_HasPrefix (s.extract pos s.size) ⟨#[239, 191, 189]⟩ w'
    rw [show (s.extract pos s.size).data.toList = l by rw [st_from, st_list, hl]] at hpre
    have Hd := hide (show (! Lib.hasPrefix l [239, 191, 189]) = decide (sz l = 0) by
      cases hb : Lib.hasPrefix l [239, 191, 189] with
      | false => rw [decide_eq_true (hst.1 ⟨h, hb⟩)]; rfl
      | true => rw [decide_eq_false (fun hz => by have := (hst.2 hz).2; rw [hb] at this; cases this)]; rfl)
    rw [h]
    clear hl hst h hne
    change ∀ w', Calls Tryd.prog 39 #[.string (s.extract pos s.size), .string ⟨#[239, 191, 189]⟩] w' fun e w'_1 => e = .returned (.bool (Lib.hasPrefix l [239, 191, 189])) ∧ w'_1 = w' at hpre
    generalize Lib.hasPrefix l [239, 191, 189] = b at hpre Hd
    go_enter Tryd.func25, Tryd.ntmps25
    go_wp2_with (go_at_call 39; (with_reducible refine (hpre w).mono ?_); rintro e w' ⟨rfl, rfl⟩)
    go_ret
    exact ⟨ret_bool Hd.out, rfl⟩
  · have hz : sz l ≠ 0 := fun hz => h (hst.2 hz).1
    rw [decide_eq_false hz]
    obtain ⟨v, hv⟩ : ∃ v : Int, v = (va l : Int) := ⟨_, rfl⟩
    rw [← hv]
    have hv1 : ¬ v = 65533 := by omega
    clear hv h hst hz hl hne
    go_enter Tryd.func25, Tryd.ntmps25
    go_wp2
    go_ret
    exact ⟨rfl, rfl⟩

/-! ### a text gone through rune by rune -/
theorem nx (wr : World) (k : Nat) (s : ByteArray) (pos : Nat) (ty : TypeId) (hk : wr.heap[k]? = some (.stringIter s pos)) (h : pos < s.size) :
    (Instr.next (.pointer (some ⟨k, 0, none⟩)) true ty).run Tryd.prog wr = .ok (.tuple #[.bool true, .int .i64 pos, .int .i32 (va (s.data.toList.drop pos) : Nat)]) (wr.iterAt k s (pos + wd (s.data.toList.drop pos))) := by
  rw [Lib.run_next_any_at wr k s pos ty hk h, dec_eq]
theorem nx_end (wr : World) (k : Nat) (s : ByteArray) (pos : Nat) (ty : TypeId) (hk : wr.heap[k]? = some (.stringIter s pos)) (h : ¬ pos < s.size) :
    (Instr.next (.pointer (some ⟨k, 0, none⟩)) true ty).run Tryd.prog wr = .ok (.tuple #[.bool false]) wr := Lib.run_next_end_at wr k s pos ty hk h

/-- What a round of such a loop knows. -/
theorem step_facts (s : ByteArray) (pos : Nat) (h : pos < s.size) : s.data.toList.drop pos ≠ [] ∧ 1 ≤ wd (s.data.toList.drop pos) ∧ pos + wd (s.data.toList.drop pos) ≤ s.size ∧
    runes (s.data.toList.drop pos) = (s.data.toList.drop pos).take (wd (s.data.toList.drop pos)) :: runes (s.data.toList.drop (pos + wd (s.data.toList.drop pos))) := by
  have hlen : (s.data.toList.drop pos).length = s.size - pos := by rw [List.length_drop, Array.length_toList]; rfl
  have hne : s.data.toList.drop pos ≠ [] := fun hh => by rw [hh] at hlen; simp at hlen; omega
  have := wd_len hne
  refine ⟨hne, wd_pos _, by omega, ?_⟩
  rw [runes_cons hne, List.drop_drop]
theorem end_facts (s : ByteArray) (pos : Nat) (h : ¬ pos < s.size) : runes (s.data.toList.drop pos) = [] := by
  rw [List.drop_eq_nil_of_le (by rw [Array.length_toList]; exact Nat.not_lt.1 h)]; rfl

def rightB (l : List UInt8) : Bool := (runes l).all fun p => decide (0 ≤ val p)
def plainAll (l : List UInt8) : Bool := (runes l).all fun p => decide (32 < val p ∧ val p < 127)
def plainB (l : List UInt8) : Bool := !l.isEmpty && plainAll l

set_option maxRecDepth 100000 in
set_option maxHeartbeats 1000000 in
theorem right_run (s : ByteArray) (w : World) : Calls Tryd.prog 10 #[.string s] w fun e w' => e = .returned (.bool (rightB s.data.toList)) ∧ Below w.heap.size w w' := by
  obtain ⟨R, hR⟩ : ∃ R, R = rightB s.data.toList := ⟨_, rfl⟩
  rw [← hR]
  have HR := hide hR
  clear hR
  go_enter Tryd.func10, Tryd.ntmps10
  go_wp2
  go_loopw [] (fun wr => ∃ (pos : Nat), wr.heap[w.heap.size]? = some (.stringIter s pos) ∧ Below w.heap.size w wr ∧ Hid (rightB (s.data.toList.drop pos) = R)) (fun wr => s.size - wr.iterPos w.heap.size)
  case atStart =>
    refine ⟨0, ?_, (Below.refl _ w).alloc (Nat.le_refl _) _, hide (by rw [HR.out, List.drop_zero])⟩
    have := World.iter_heap w s 0
    simpa using this
  case round =>
    obtain ⟨pos, hit, hbw, HP⟩ := hrel
    have hsz : w.heap.size < wr.heap.size := (Array.getElem?_eq_some_iff.1 hit).1
    by_cases hp : pos < s.size
    · have hnx := fun ty => nx wr w.heap.size s pos ty hit hp
      obtain ⟨hne, hw1, hw2, hru⟩ := step_facts s pos hp
      have hst := fun w' => stray_run s pos w' hp _ rfl
      have Hstep := hide (show rightB (s.data.toList.drop pos) = (decide (¬ sz (s.data.toList.drop pos) = 0) && rightB (s.data.toList.drop (pos + wd (s.data.toList.drop pos)))) by
        conv => lhs; unfold rightB
        rw [hru, List.all_cons, val_take hne]
        congr 1
        unfold val
        by_cases hz : sz (s.data.toList.drop pos) = 0 <;> simp [hz])
      clear hru
      obtain ⟨d, hd⟩ : ∃ d, d = wd (s.data.toList.drop pos) := ⟨_, rfl⟩
      obtain ⟨v, hv⟩ : ∃ v, v = va (s.data.toList.drop pos) := ⟨_, rfl⟩
      obtain ⟨z, hz⟩ : ∃ z, z = sz (s.data.toList.drop pos) := ⟨_, rfl⟩
      rw [← hd] at hnx hw1 hw2 Hstep
      rw [← hv] at hnx hst
      rw [← hz] at hst Hstep
      clear hd hv hz hne
      have hit2 := Lib.iterAt_heap wr w.heap.size s pos (pos + d) hit
      have hbw2 := Lib.below_iterAt hbw (k := w.heap.size) (Nat.le_refl _) s (pos + d)
      generalize wr.iterAt w.heap.size s (pos + d) = w2 at hnx hit2 hbw2
      by_cases hz0 : z = 0
      · rw [hz0] at hst Hstep
        have hRf : R = false := by rw [← HP.out, Hstep.out]; rfl
        subst hRf
        go_wp2_with (go_at_call 25; (with_reducible refine (hst w2).mono ?_); rintro e w' ⟨rfl, rfl⟩)
        go_ret
        exact ⟨rfl, hbw2⟩
      · rw [decide_eq_false hz0] at hst
        have hS : rightB (s.data.toList.drop (pos + d)) = R := by rw [← HP.out, Hstep.out]; simp [hz0]
        have HS := hide hS
        clear hS
        go_wp2_with (go_at_call 25; (with_reducible refine (hst w2).mono ?_); rintro e w' ⟨rfl, rfl⟩)
        go_roundw
        case rel => exact ⟨pos + d, hit2, hbw2, HS⟩
        case measure => simp only [World.iterPos, hit2, hit]; omega
    · have hnx := fun ty => nx_end wr w.heap.size s pos ty hit hp
      have hRt : R = true := by rw [← HP.out]; unfold rightB; rw [end_facts s pos hp]; rfl
      subst hRt
      go_wp2
      go_ret
      exact ⟨rfl, hbw⟩

theorem plain_val (l : List UInt8) : decide (32 < val l ∧ val l < 127) = decide (33 ≤ (va l : Int) ∧ (va l : Int) ≤ 126) := by
  unfold val
  by_cases hz : sz l = 0
  · rw [if_pos hz, va_of.1 hz]; rfl
  · rw [if_neg hz]
    exact decide_eq_decide.2 ⟨fun h => by omega, fun h => by omega⟩

set_option maxRecDepth 100000 in
set_option maxHeartbeats 1000000 in
theorem plainB_run (s : ByteArray) (w : World) : Calls Tryd.prog 11 #[.string s] w fun e w' => e = .returned (.bool (plainB s.data.toList)) ∧ Below w.heap.size w w' := by
  have Hemp := hide (show (!s.toList.isEmpty) = !s.data.toList.isEmpty by rw [ByteArray.toList_eq])
  obtain ⟨R, hR⟩ : ∃ R, R = plainAll s.data.toList := ⟨_, rfl⟩
  have HB := hide (show plainB s.data.toList = (!s.toList.isEmpty && R) by rw [hR, Hemp.out]; rfl)
  have HR := hide hR
  clear hR
  obtain ⟨B, hB⟩ : ∃ B, B = plainB s.data.toList := ⟨_, rfl⟩
  rw [← hB] at HB ⊢
  clear hB
  go_enter Tryd.func11, Tryd.ntmps11
  go_wp2
  go_loopw [] (fun wr => ∃ (pos : Nat), wr.heap[w.heap.size]? = some (.stringIter s pos) ∧ Below w.heap.size w wr ∧ Hid (plainAll (s.data.toList.drop pos) = R)) (fun wr => s.size - wr.iterPos w.heap.size)
  case atStart =>
    refine ⟨0, ?_, (Below.refl _ w).alloc (Nat.le_refl _) _, hide (by rw [HR.out, List.drop_zero])⟩
    have := World.iter_heap w s 0
    simpa using this
  case round =>
    obtain ⟨pos, hit, hbw, HP⟩ := hrel
    have hsz : w.heap.size < wr.heap.size := (Array.getElem?_eq_some_iff.1 hit).1
    by_cases hp : pos < s.size
    · have hnx := fun ty => nx wr w.heap.size s pos ty hit hp
      obtain ⟨hne, hw1, hw2, hru⟩ := step_facts s pos hp
      have hst := fun w' => plain_run (va (s.data.toList.drop pos) : Nat) w'
      have Hstep := hide (show plainAll (s.data.toList.drop pos) = (decide (33 ≤ (va (s.data.toList.drop pos) : Int) ∧ (va (s.data.toList.drop pos) : Int) ≤ 126) && plainAll (s.data.toList.drop (pos + wd (s.data.toList.drop pos)))) by
        conv => lhs; unfold plainAll
        rw [hru, List.all_cons, val_take hne, plain_val]
        rfl)
      clear hru
      obtain ⟨d, hd⟩ : ∃ d, d = wd (s.data.toList.drop pos) := ⟨_, rfl⟩
      obtain ⟨v, hv⟩ : ∃ v : Int, v = (va (s.data.toList.drop pos) : Nat) := ⟨_, rfl⟩
      rw [← hd] at hnx hw1 hw2 Hstep
      rw [← hv] at hnx hst Hstep
      clear hd hv hne
      have hit2 := Lib.iterAt_heap wr w.heap.size s pos (pos + d) hit
      have hbw2 := Lib.below_iterAt hbw (k := w.heap.size) (Nat.le_refl _) s (pos + d)
      generalize wr.iterAt w.heap.size s (pos + d) = w2 at hnx hit2 hbw2
      by_cases hz0 : 33 ≤ v ∧ v ≤ 126
      · rw [decide_eq_true hz0] at hst Hstep
        have HS := hide (show plainAll (s.data.toList.drop (pos + d)) = R by rw [← HP.out, Hstep.out]; simp)
        clear hz0
        go_wp2_with (go_at_call 26; (with_reducible refine (hst w2).mono ?_); rintro e w' ⟨rfl, rfl⟩)
        go_roundw
        case rel => exact ⟨pos + d, hit2, hbw2, HS⟩
        case measure => simp only [World.iterPos, hit2, hit]; omega
      · rw [decide_eq_false hz0] at hst Hstep
        have hRf : B = false := by rw [HB.out, ← HP.out, Hstep.out]; simp
        subst hRf
        clear hz0
        go_wp2_with (go_at_call 26; (with_reducible refine (hst w2).mono ?_); rintro e w' ⟨rfl, rfl⟩)
        go_ret
        exact ⟨rfl, hbw2⟩
    · have hnx := fun ty => nx_end wr w.heap.size s pos ty hit hp
      have HRt := hide (show B = !s.toList.isEmpty by
        have h := HB.out
        rw [← HP.out] at h
        unfold plainAll at h
        rw [end_facts s pos hp] at h
        simpa using h)
      go_wp2
      go_ret
      exact ⟨ret_bool HRt.out.symm, hbw⟩

set_option maxRecDepth 100000 in
set_option maxHeartbeats 1000000 in
theorem count_run (s : ByteArray) (w : World) (hs : s.size ≤ 1000000) : Calls Tryd.prog 12 #[.string s] w fun e w' => e = .returned (.int .i64 ((runes s.data.toList).length : Nat)) ∧ Below w.heap.size w w' := by
  obtain ⟨R, hR⟩ : ∃ R, R = (runes s.data.toList).length := ⟨_, rfl⟩
  have hRb : R ≤ 1000000 := by rw [hR]; have := runes_length s.data.toList; rw [Array.length_toList] at this; exact Nat.le_trans this hs
  rw [← hR]
  have HR := hide hR
  clear hR
  go_enter Tryd.func12, Tryd.ntmps12
  go_wp2
  go_loopw [3] (fun c wr => ∃ (pos n : Nat), c = .int .i64 (n : Int) ∧ wr.heap[w.heap.size]? = some (.stringIter s pos) ∧ Below w.heap.size w wr ∧ Hid (n + (runes (s.data.toList.drop pos)).length = R)) (fun _ wr => s.size - wr.iterPos w.heap.size)
  case atStart =>
    refine ⟨0, 0, rfl, ?_, (Below.refl _ w).alloc (Nat.le_refl _) _, hide (by rw [HR.out, List.drop_zero, Nat.zero_add])⟩
    have := World.iter_heap w s 0
    simpa using this
  case round =>
    obtain ⟨pos, n, rfl, hit, hbw, HP⟩ := hrel
    have hsz : w.heap.size < wr.heap.size := (Array.getElem?_eq_some_iff.1 hit).1
    by_cases hp : pos < s.size
    · have hnx := fun ty => nx wr w.heap.size s pos ty hit hp
      obtain ⟨hne, hw1, hw2, hru⟩ := step_facts s pos hp
      have hn : n < 1000000 := by have := HP.out; rw [hru, List.length_cons] at this; omega
      have HS := hide (show n + 1 + (runes (s.data.toList.drop (pos + wd (s.data.toList.drop pos)))).length = R by
        have := HP.out; rw [hru, List.length_cons] at this; omega)
      clear hru hne
      obtain ⟨d, hd⟩ : ∃ d, d = wd (s.data.toList.drop pos) := ⟨_, rfl⟩
      obtain ⟨v, hv⟩ : ∃ v : Int, v = (va (s.data.toList.drop pos) : Nat) := ⟨_, rfl⟩
      rw [← hd] at hnx hw1 hw2 HS
      rw [← hv] at hnx
      clear hd hv
      have hit2 := Lib.iterAt_heap wr w.heap.size s pos (pos + d) hit
      have hbw2 := Lib.below_iterAt hbw (k := w.heap.size) (Nat.le_refl _) s (pos + d)
      generalize wr.iterAt w.heap.size s (pos + d) = w2 at hnx hit2 hbw2
      go_wp2
      go_roundw
      case rel => exact ⟨pos + d, n + 1, by go_num, hit2, hbw2, HS⟩
      case measure => simp only [World.iterPos, hit2, hit]; omega
    · have hnx := fun ty => nx_end wr w.heap.size s pos ty hit hp
      obtain rfl : n = R := by have := HP.out; rw [end_facts s pos hp] at this; simpa using this
      go_wp2
      go_ret
      exact ⟨rfl, hbw⟩

def cutL (l : List UInt8) (n : Int) : List UInt8 := ((runes l).take n.toNat).flatten

theorem take_flat {l : List UInt8} (hl : l ≠ []) {n : Int} (hn : 1 ≤ n) : cutL l n = l.take (wd l) ++ cutL (l.drop (wd l)) (n - 1) := by
  unfold cutL
  rw [runes_cons hl, show n.toNat = (n - 1).toNat + 1 by omega, List.take_succ_cons, List.flatten_cons]

set_option maxRecDepth 100000 in
set_option maxHeartbeats 1000000 in
theorem cut_run (s : ByteArray) (n : Int) (w : World) (hlo : -9223372036854775808 ≤ n) (hhi : n ≤ 9223372036854775807) (_hs : s.size ≤ 1000000) : Calls Tryd.prog 13 #[.string s, .int .i64 n] w fun e w' => e = .returned (.string (st (cutL s.data.toList n))) ∧ Below w.heap.size w w' := by
  obtain ⟨R, hR⟩ : ∃ R, R = st (cutL s.data.toList n) := ⟨_, rfl⟩
  rw [← hR]
  have HR := hide hR
  clear hR
  have Hst := hide (st_of s)
  have Hext := hide (st_ext s 0)
  go_enter Tryd.func13, Tryd.ntmps13
  go_wp2
  go_loopw [1] (fun c wr => ∃ (pos : Nat) (m : Int), c = .int .i64 m ∧ m ≤ n ∧ -9223372036854775808 ≤ m ∧ wr.heap[w.heap.size]? = some (.stringIter s pos) ∧ Below w.heap.size w wr ∧ Hid (R = st (s.data.toList.take pos ++ cutL (s.data.toList.drop pos) m))) (fun _ wr => s.size - wr.iterPos w.heap.size)
  case atStart =>
    refine ⟨0, n, rfl, Int.le_refl _, hlo, ?_, (Below.refl _ w).alloc (Nat.le_refl _) _, hide (by rw [HR.out, List.drop_zero]; rfl)⟩
    have := World.iter_heap w s 0
    simpa using this
  case round =>
    obtain ⟨pos, m, rfl, hmn, hm0, hit, hbw, HP⟩ := hrel
    have hsz : w.heap.size < wr.heap.size := (Array.getElem?_eq_some_iff.1 hit).1
    by_cases hp : pos < s.size
    · have hnx := fun ty => nx wr w.heap.size s pos ty hit hp
      obtain ⟨hne, hw1, hw2, hru⟩ := step_facts s pos hp
      have Htf := hide (fun h => take_flat hne (n := m) h)
      clear hru hne
      obtain ⟨d, hd⟩ : ∃ d, d = wd (s.data.toList.drop pos) := ⟨_, rfl⟩
      obtain ⟨v, hv⟩ : ∃ v : Int, v = (va (s.data.toList.drop pos) : Nat) := ⟨_, rfl⟩
      rw [← hd] at hnx hw1 hw2 Htf
      rw [← hv] at hnx
      clear hd hv
      have hit2 := Lib.iterAt_heap wr w.heap.size s pos (pos + d) hit
      have hbw2 := Lib.below_iterAt hbw (k := w.heap.size) (Nat.le_refl _) s (pos + d)
      generalize wr.iterAt w.heap.size s (pos + d) = w2 at hnx hit2 hbw2
      by_cases hm : m < 1
      · have HRf := hide (show R = s.extract 0 pos by
          rw [HP.out, Hext.out]
          unfold cutL
          rw [show m.toNat = 0 by omega]; simp)
        have h1 : (pos : Int) ≤ (s.size : Int) := by omega
        go_wp2
        go_ret
        exact ⟨ret_str HRf.out.symm, hbw2⟩
      · have HS := hide (show R = st (s.data.toList.take (pos + d) ++ cutL (s.data.toList.drop (pos + d)) (m - 1)) by
          rw [HP.out, Htf.out (by omega), List.drop_drop, List.take_add, List.append_assoc])
        have hwr : wrap64 (m - 1) = m - 1 := wr64 (by omega)
        go_wp2
        go_roundw
        case rel => exact ⟨pos + d, m - 1, rfl, by omega, by omega, hit2, hbw2, HS⟩
        case measure => simp only [World.iterPos, hit2, hit]; omega
    · have hnx := fun ty => nx_end wr w.heap.size s pos ty hit hp
      have HRf := hide (show R = s by
        rw [HP.out]
        unfold cutL
        rw [end_facts s pos hp, List.take_of_length_le (by rw [Array.length_toList]; exact Nat.not_lt.1 hp)]
        simp only [List.take_nil, List.flatten_nil, List.append_nil]
        exact Hst.out.symm)
      go_wp2
      go_ret
      exact ⟨ret_str HRf.out.symm, hbw⟩

end Go.Proofs.YtlenlopeakmplaaDoor
