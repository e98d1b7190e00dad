/-
  CONTRACTS of package runes that names want: plain, Plain; and what they say of bytes.
-/
import Derived.Test.YtlbgcbekjjkokaaRuneM
import Derived.Test.YtlbgcbekjjkokaaBytes
import Derived.Lib.OthersKept
import Derived.BigCall
namespace Go.Proofs.Ytlbgcbekjjkokaa
open Go.RowKit

theorem plain_run (r : Int) (w : World) : Calls Try.prog 82 #[.int .i32 r] w fun e w' => e = .returned (.bool (decide (33 ≤ r ∧ r ≤ 126))) ∧ w' = w := by
  by_cases h1 : 33 ≤ r
  · by_cases h2 : r ≤ 126
    · rw [decide_eq_true (show 33 ≤ r ∧ r ≤ 126 from ⟨h1, h2⟩)]
      go_enter Try.func82, Try.ntmps82
      go_wp2
      go_ret
      exact ⟨rfl, rfl⟩
    · rw [decide_eq_false (show ¬ (33 ≤ r ∧ r ≤ 126) from fun h => h2 h.2)]
      go_enter Try.func82, Try.ntmps82
      go_wp2
      go_ret
      exact ⟨rfl, rfl⟩
  · rw [decide_eq_false (show ¬ (33 ≤ r ∧ r ≤ 126) from fun h => h1 h.1)]
    go_enter Try.func82, Try.ntmps82
    go_wp2
    go_ret
    exact ⟨rfl, rfl⟩

/-! ### a text gone through rune by rune -/
theorem nx (wr : World) (k : Nat) (s : ByteArray) (pos : Nat) (ty : TypeId) (hk : wr.heap[k]? = some (.stringIter s pos)) (h : pos < s.size) :
    (Instr.next (.pointer (some ⟨k, 0, none⟩)) true ty).run Try.prog wr = .ok (.tuple #[.bool true, .int .i64 pos, .int .i32 (va (s.data.toList.drop pos) : Nat)]) (wr.iterAt k s (pos + wd (s.data.toList.drop pos))) := by
  rw [Lib.run_next_any_at wr k s pos ty hk h, dec_eq]
theorem nx_end (wr : World) (k : Nat) (s : ByteArray) (pos : Nat) (ty : TypeId) (hk : wr.heap[k]? = some (.stringIter s pos)) (h : ¬ pos < s.size) :
    (Instr.next (.pointer (some ⟨k, 0, none⟩)) true ty).run Try.prog wr = .ok (.tuple #[.bool false]) wr := Lib.run_next_end_at wr k s pos ty hk h

/-- What a round of such a loop knows. -/
theorem step_facts (s : ByteArray) (pos : Nat) (h : pos < s.size) : s.data.toList.drop pos ≠ [] ∧ 1 ≤ wd (s.data.toList.drop pos) ∧ pos + wd (s.data.toList.drop pos) ≤ s.size ∧
    runes (s.data.toList.drop pos) = (s.data.toList.drop pos).take (wd (s.data.toList.drop pos)) :: runes (s.data.toList.drop (pos + wd (s.data.toList.drop pos))) := by
  have hlen : (s.data.toList.drop pos).length = s.size - pos := by rw [List.length_drop, Array.length_toList]; rfl
  have hne : s.data.toList.drop pos ≠ [] := fun hh => by rw [hh] at hlen; simp at hlen; omega
  have := wd_len hne
  refine ⟨hne, wd_pos _, by omega, ?_⟩
  rw [runes_cons hne, List.drop_drop]
theorem end_facts (s : ByteArray) (pos : Nat) (h : ¬ pos < s.size) : runes (s.data.toList.drop pos) = [] := by
  rw [List.drop_eq_nil_of_le (by rw [Array.length_toList]; exact Nat.not_lt.1 h)]; rfl

def plainAll (l : List UInt8) : Bool := (runes l).all fun p => decide (32 < val p ∧ val p < 127)
def plainB (l : List UInt8) : Bool := !l.isEmpty && plainAll l

theorem plain_val (l : List UInt8) : decide (32 < val l ∧ val l < 127) = decide (33 ≤ (va l : Int) ∧ (va l : Int) ≤ 126) := by
  unfold val
  by_cases hz : sz l = 0
  · rw [if_pos hz, va_of.1 hz]; rfl
  · rw [if_neg hz]
    exact decide_eq_decide.2 ⟨fun h => by omega, fun h => by omega⟩

set_option maxRecDepth 100000 in
set_option maxHeartbeats 1000000 in
theorem plainB_run (s : ByteArray) (w : World) : Calls Try.prog 79 #[.string s] w fun e w' => e = .returned (.bool (plainB s.data.toList)) ∧ Below w.heap.size w w' := by
  have Hemp := hide (show (!s.toList.isEmpty) = !s.data.toList.isEmpty by rw [ByteArray.toList_eq])
  obtain ⟨R, hR⟩ : ∃ R, R = plainAll s.data.toList := ⟨_, rfl⟩
  have HB := hide (show plainB s.data.toList = (!s.toList.isEmpty && R) by rw [hR, Hemp.out]; rfl)
  have HR := hide hR
  clear hR
  obtain ⟨B, hB⟩ : ∃ B, B = plainB s.data.toList := ⟨_, rfl⟩
  rw [← hB] at HB ⊢
  clear hB
  go_enter Try.func79, Try.ntmps79
  go_wp2
  go_loopw [] (fun wr => ∃ (pos : Nat), wr.heap[w.heap.size]? = some (.stringIter s pos) ∧ Below w.heap.size w wr ∧ Hid (plainAll (s.data.toList.drop pos) = R)) (fun wr => s.size - wr.iterPos w.heap.size)
  case atStart =>
    refine ⟨0, ?_, (Below.refl _ w).alloc (Nat.le_refl _) _, hide (by rw [HR.out, List.drop_zero])⟩
    have := World.iter_heap w s 0
    simpa using this
  case round =>
    obtain ⟨pos, hit, hbw, HP⟩ := hrel
    have hsz : w.heap.size < wr.heap.size := (Array.getElem?_eq_some_iff.1 hit).1
    by_cases hp : pos < s.size
    · have hnx := fun ty => nx wr w.heap.size s pos ty hit hp
      obtain ⟨hne, hw1, hw2, hru⟩ := step_facts s pos hp
      have hst := fun w' => plain_run (va (s.data.toList.drop pos) : Nat) w'
      have Hstep := hide (show plainAll (s.data.toList.drop pos) = (decide (33 ≤ (va (s.data.toList.drop pos) : Int) ∧ (va (s.data.toList.drop pos) : Int) ≤ 126) && plainAll (s.data.toList.drop (pos + wd (s.data.toList.drop pos)))) by
        conv => lhs; unfold plainAll
        rw [hru, List.all_cons, val_take hne, plain_val]
        rfl)
      clear hru
      obtain ⟨d, hd⟩ : ∃ d, d = wd (s.data.toList.drop pos) := ⟨_, rfl⟩
      obtain ⟨v, hv⟩ : ∃ v : Int, v = (va (s.data.toList.drop pos) : Nat) := ⟨_, rfl⟩
      rw [← hd] at hnx hw1 hw2 Hstep
      rw [← hv] at hnx hst Hstep
      clear hd hv hne
      have hit2 := Lib.iterAt_heap wr w.heap.size s pos (pos + d) hit
      have hbw2 := Lib.below_iterAt hbw (k := w.heap.size) (Nat.le_refl _) s (pos + d)
      generalize wr.iterAt w.heap.size s (pos + d) = w2 at hnx hit2 hbw2
      by_cases hz0 : 33 ≤ v ∧ v ≤ 126
      · rw [decide_eq_true hz0] at hst Hstep
        have HS := hide (show plainAll (s.data.toList.drop (pos + d)) = R by rw [← HP.out, Hstep.out]; simp)
        clear hz0
        go_wp2_with (go_at_call 82; (with_reducible refine (hst w2).mono ?_); rintro e w' ⟨rfl, rfl⟩)
        go_roundw
        case rel => exact ⟨pos + d, hit2, hbw2, HS⟩
        case measure => simp only [World.iterPos, hit2, hit]; omega
      · rw [decide_eq_false hz0] at hst Hstep
        have hRf : B = false := by rw [HB.out, ← HP.out, Hstep.out]; simp
        subst hRf
        clear hz0
        go_wp2_with (go_at_call 82; (with_reducible refine (hst w2).mono ?_); rintro e w' ⟨rfl, rfl⟩)
        go_ret
        exact ⟨rfl, hbw2⟩
    · have hnx := fun ty => nx_end wr w.heap.size s pos ty hit hp
      have HRt := hide (show B = !s.toList.isEmpty by
        have h := HB.out
        rw [← HP.out] at h
        unfold plainAll at h
        rw [end_facts s pos hp] at h
        simpa using h)
      go_wp2
      go_ret
      exact ⟨ret_bool HRt.out.symm, hbw⟩


/-- A text is plain just if each byte is. -/
theorem plainAll_bytes (l : List UInt8) : plainAll l = l.all fun b => decide (33 ≤ b.toNat ∧ b.toNat ≤ 126) := by
  induction l using rune_ind with
  | h0 => rfl
  | h1 l hl ih =>
    obtain ⟨b, t, rfl⟩ := List.exists_cons_of_ne_nil hl
    have hb0 : bt (b :: t) 0 = b.toNat := rfl
    have hstep : plainAll (b :: t) = (decide (32 < val (b :: t) ∧ val (b :: t) < 127) && plainAll ((b :: t).drop (wd (b :: t)))) := by
      conv => lhs; unfold plainAll
      rw [runes_cons hl, List.all_cons, val_take hl]
      rfl
    rw [hstep, ih, List.all_cons]
    have no : 128 ≤ b.toNat → ¬ (32 < val (b :: t) ∧ val (b :: t) < 127) → (decide (32 < val (b :: t) ∧ val (b :: t) < 127) && ((b :: t).drop (wd (b :: t))).all fun b => decide (33 ≤ b.toNat ∧ b.toNat ≤ 126)) = (decide (33 ≤ b.toNat ∧ b.toNat ≤ 126) && t.all fun b => decide (33 ≤ b.toNat ∧ b.toNat ≤ 126)) := by
      intro h1 h2
      rw [decide_eq_false h2, decide_eq_false (fun h => by omega)]; rfl
    rcases sz_facts (b :: t) with ⟨hz, h⟩ | ⟨hz, hv, h⟩ | ⟨hz, hv, h, _, k, _⟩ | ⟨hz, hv, h, _, _, k, _⟩ | ⟨hz, hv, h, _, _, _, k, _⟩
    · exact no (by omega) (by unfold val; rw [if_pos hz]; omega)
    · have hw : wd (b :: t) = 1 := by unfold wd; rw [if_neg (by omega), hz]
      have hval : val (b :: t) = (b.toNat : Int) := by unfold val; rw [if_neg (by omega), hv, hb0]
      rw [hw, hval]
      congr 1
      exact decide_eq_decide.2 ⟨fun h => by omega, fun h => by omega⟩
    · exact no (by omega) (by unfold val; rw [if_neg (by omega)]; omega)
    · exact no (by omega) (by unfold val; rw [if_neg (by omega)]; omega)
    · exact no (by omega) (by unfold val; rw [if_neg (by omega)]; omega)

end Go.Proofs.Ytlbgcbekjjkokaa
