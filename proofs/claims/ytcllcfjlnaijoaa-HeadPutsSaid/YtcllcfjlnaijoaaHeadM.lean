/-
  Heads of CBOR as plain mathematics: the lowest five bits, how many bytes stand behind, a head's bytes, a head read; nothing of any program.
-/
import Derived.Test.YtcllcfjlnaijoaaNum
namespace Go.Proofs.Ytcllcfjlnaijoaa

/-- How many bytes stand behind a first byte with those lowest five bits. -/
def beh (k : Nat) : Nat := if k < 24 then 0 else 2 ^ (k - 24)
/-- The lowest five bits of the first byte of a head with n. -/
def lowN (n : Nat) : Nat := if n < 24 then n else if n < 256 then 24 else if n < 65536 then 25 else if n < 4294967296 then 26 else 27
/-- How many bytes a head with n has. -/
def sizeN (n : Nat) : Nat := 1 + beh (lowN n)
/-- A head's bytes. -/
def headB (m n : Nat) : List UInt8 := UInt8.ofNat (32 * m + lowN n) :: beB (beh (lowN n)) n
/-- The head of bytes: major type, n, how many bytes, an error. -/
def getH (l : List UInt8) : Nat × Nat × Nat × Nat :=
  match l with
  | [] => (0, 0, 0, 5)
  | b :: _ =>
    if 27 < b.toNat % 32 then (0, 0, 0, 6)
    else if l.length < 1 + beh (b.toNat % 32) then (0, 0, 0, 5)
    else
      let n := if b.toNat % 32 < 24 then b.toNat % 32 else numAt l 1 (beh (b.toNat % 32))
      if 1 + beh (b.toNat % 32) ≠ sizeN n then (0, 0, 0, 6) else (b.toNat / 32, n, 1 + beh (b.toNat % 32), 0)

theorem lowN_le (n : Nat) : lowN n ≤ 27 := by unfold lowN; split <;> (try split) <;> (try split) <;> (try split) <;> omega
theorem beh_le (k : Nat) (h : k ≤ 27) : beh k ≤ 8 := by
  unfold beh; split
  · omega
  · exact (show (2 : Nat) ^ (k - 24) ≤ 2 ^ 3 from Nat.pow_le_pow_right (by decide) (by omega))
theorem beh_pos (k : Nat) (h : 24 ≤ k) : 0 < beh k := by
  unfold beh; rw [if_neg (by omega)]; exact Nat.pow_pos (by decide)
theorem beh_small (k : Nat) (h : k < 24) : beh k = 0 := if_pos h
theorem beh_24 : beh 24 = 1 := by decide
theorem beh_25 : beh 25 = 2 := by decide
theorem beh_26 : beh 26 = 4 := by decide
theorem beh_27 : beh 27 = 8 := by decide
theorem sizeN_le (n : Nat) : 1 ≤ sizeN n ∧ sizeN n ≤ 9 := by have := beh_le _ (lowN_le n); unfold sizeN; omega
theorem headB_len (m n : Nat) : (headB m n).length = sizeN n := by simp [headB, beB_len, sizeN]; omega
theorem lowN_small {n : Nat} (h : n < 24) : lowN n = n := if_pos h
theorem lowN_ge {n : Nat} (h : 24 ≤ n) : 24 ≤ lowN n := by unfold lowN; rw [if_neg (by omega)]; split <;> (try split) <;> (try split) <;> omega
theorem lowN_lt {n : Nat} (h : lowN n < 24) : n < 24 := by
  rcases Nat.lt_or_ge n 24 with h' | h'
  · exact h'
  · have := lowN_ge h'; omega
/-- A head's n has room behind it. -/
theorem lowN_fits {n : Nat} (h : 24 ≤ n) (hn : n < 18446744073709551616) : n < 256 ^ beh (lowN n) := by
  unfold lowN
  rw [if_neg (by omega)]
  split
  · rw [beh_24]; omega
  split
  · rw [beh_25]; omega
  split
  · rw [beh_26]; omega
  · rw [beh_27]; omega
theorem beh_inj {j k : Nat} (hj : 24 ≤ j) (hk : 24 ≤ k) (hj2 : j ≤ 27) (hk2 : k ≤ 27) (h : beh j = beh k) : j = k := by
  have e : ∀ x, 24 ≤ x → x ≤ 27 → (x = 24 ∧ beh x = 1) ∨ (x = 25 ∧ beh x = 2) ∨ (x = 26 ∧ beh x = 4) ∨ (x = 27 ∧ beh x = 8) := by
    intro x h1 h2
    have : x = 24 ∨ x = 25 ∨ x = 26 ∨ x = 27 := by omega
    rcases this with rfl | rfl | rfl | rfl <;> decide
  have h1 := e j hj hj2
  have h2 := e k hk hk2
  omega
/-- No less would do. -/
theorem lowN_first {n q : Nat} (h : 24 ≤ q) (hq : q < lowN n) : 256 ^ beh q ≤ n := by
  have e : q = 24 ∨ q = 25 ∨ q = 26 := by have := lowN_le n; omega
  unfold lowN at hq
  split at hq
  · omega
  split at hq
  · omega
  split at hq
  · have : q = 24 := by omega
    subst this; rw [beh_24]; omega
  split at hq
  · rcases e with rfl | rfl | rfl
    · rw [beh_24]; omega
    · rw [beh_25]; omega
    · omega
  · rcases e with rfl | rfl | rfl
    · rw [beh_24]; omega
    · rw [beh_25]; omega
    · rw [beh_26]; omega
theorem first_mod (m n : Nat) (hm : m < 8) : (UInt8.ofNat (32 * m + lowN n)).toNat = 32 * m + lowN n := by
  have := lowN_le n
  simp
  omega

/-- Get of Put, whatever follows. -/
theorem getH_headB (m n : Nat) (more : List UInt8) (hm : m < 8) (hn : n < 18446744073709551616) : getH (headB m n ++ more) = (m, n, sizeN n, 0) := by
  have hl := lowN_le n
  have e1 := first_mod m n hm
  have hlen : (headB m n ++ more).length = sizeN n + more.length := by rw [List.length_append, headB_len]
  have e2 : (32 * m + lowN n) % 32 = lowN n := by omega
  have e3 : (32 * m + lowN n) / 32 = m := by omega
  have ec : headB m n ++ more = UInt8.ofNat (32 * m + lowN n) :: (beB (beh (lowN n)) n ++ more) := rfl
  rw [ec] at hlen ⊢
  unfold getH
  simp only [e1, e2, e3]
  rw [if_neg (by omega), if_neg (by rw [hlen]; unfold sizeN; omega)]
  have en : (if lowN n < 24 then lowN n else numAt (UInt8.ofNat (32 * m + lowN n) :: (beB (beh (lowN n)) n ++ more)) 1 (beh (lowN n))) = n := by
    by_cases h24 : n < 24
    · rw [lowN_small h24, if_pos h24]
    · rw [if_neg (by have := lowN_ge (Nat.le_of_not_lt h24); omega)]
      have := numAt_beB [UInt8.ofNat (32 * m + lowN n)] more n (beh (lowN n)) (beh (lowN n)) (Nat.le_refl _)
      rw [Nat.sub_self, Nat.pow_zero, Nat.div_one, Nat.mod_eq_of_lt (lowN_fits (Nat.le_of_not_lt h24) hn)] at this
      simpa using this
  rw [en]
  rw [if_neg (by unfold sizeN; omega)]
  rfl

theorem beB_numAt (l : List UInt8) (p : Nat) : ∀ w, p + w ≤ l.length → beB w (numAt l (p : Int) w) = (l.drop p).take w
  | 0, _ => by simp [beB]
  | w + 1, h => by
    have hb := byteAt_lt l ((p : Int) + (w : Int))
    have e : byteAt l ((p : Int) + (w : Int)) = (l.getD (p + w) 0).toNat := by rw [show (p : Int) + (w : Int) = ((p + w : Nat) : Int) by omega, byteAt_nat]
    rw [beB_snoc, numAt, show (numAt l p w * 256 + byteAt l ((p : Int) + (w : Int))) / 256 = numAt l p w by omega, beB_numAt l p w (by omega), List.take_add_one, List.getElem?_drop, List.getElem?_eq_getElem (by omega)]
    congr 1
    simp only [Option.toList_some, List.cons.injEq, and_true]
    apply UInt8.toNat_inj.1
    rw [e, List.getD_eq_getElem?_getD, List.getElem?_eq_getElem (by omega)]
    simp

/-- Put of Get. -/
theorem headB_getH (l : List UInt8) (m n k : Nat) (h : getH l = (m, n, k, 0)) : m < 8 ∧ n < 18446744073709551616 ∧ k ≤ l.length ∧ k = sizeN n ∧ headB m n = l.take k := by
  unfold getH at h
  split at h
  · simp at h
  · rename_i b r
    have hb := b.toNat_lt
    generalize hq : b.toNat % 32 = q at h
    split at h
    · simp at h
    split at h
    · simp at h
    rename_i h27 hlen
    dsimp only at h
    generalize hn : (if q < 24 then q else numAt (b :: r) 1 (beh q)) = x at h
    by_cases hsz : 1 + beh q ≠ sizeN x
    · rw [if_pos hsz] at h; simp at h
    rw [if_neg hsz] at h
    simp only [Prod.mk.injEq, and_true] at h
    obtain ⟨rfl, rfl, rfl⟩ := h
    have hsz' : 1 + beh q = sizeN x := by omega
    have hq27 : q ≤ 27 := by omega
    have hb8 := beh_le q hq27
    have hn64 : x < 18446744073709551616 := by
      rw [← hn]
      split
      · omega
      · have h1 := numAt_lt (b :: r) 1 (beh q)
        have h2 : 256 ^ beh q ≤ 256 ^ 8 := Nat.pow_le_pow_right (by decide) hb8
        have h3 : (256 : Nat) ^ 8 = 18446744073709551616 := by decide
        omega
    refine ⟨by omega, hn64, by omega, hsz', ?_⟩
    have hlow : lowN x = q := by
      by_cases h24 : q < 24
      · rw [if_pos h24] at hn; subst hn; exact lowN_small h24
      · have hp := beh_pos q (by omega)
        unfold sizeN at hsz'
        have h3 : 24 ≤ lowN x := by
          rcases Nat.lt_or_ge (lowN x) 24 with h4 | h4
          · have := beh_small _ h4; omega
          · exact h4
        exact beh_inj h3 (by omega) (lowN_le x) hq27 (by omega)
    unfold headB
    rw [hlow, show 32 * (b.toNat / 32) + q = b.toNat by omega, UInt8.ofNat_toNat, Nat.add_comm 1 (beh q), List.take_succ_cons]
    congr 1
    by_cases h24 : q < 24
    · rw [beh_small q h24]; simp [beB]
    · rw [if_neg h24] at hn
      have := beB_numAt (b :: r) 1 (beh q) (by simp at hlen; simp; omega)
      rw [show ((1 : Nat) : Int) = 1 from rfl, hn] at this
      simpa using this

/-- What Get tells lies within its kinds. -/
theorem getH_lt (l : List UInt8) : (getH l).1 < 8 ∧ (getH l).2.1 < 18446744073709551616 ∧ (getH l).2.2.1 ≤ 9 ∧ ((getH l).2.2.2 = 0 ∨ (getH l).2.2.2 = 5 ∨ (getH l).2.2.2 = 6) := by
  obtain ⟨m, n, k, e, h⟩ : ∃ m n k e, getH l = (m, n, k, e) := ⟨_, _, _, _, rfl⟩
  rw [h]
  by_cases he : e = 0
  · subst he
    have := headB_getH l m n k h
    have h2 := sizeN_le n
    exact ⟨this.1, this.2.1, by have := this.2.2.2.1; dsimp only; omega, .inl rfl⟩
  · unfold getH at h
    split at h
    · simp only [Prod.mk.injEq] at h; dsimp only; omega
    · split at h
      · simp only [Prod.mk.injEq] at h; dsimp only; omega
      · split at h
        · simp only [Prod.mk.injEq] at h; dsimp only; omega
        · rename_i b r _ _
          dsimp only at h
          generalize (if b.toNat % 32 < 24 then b.toNat % 32 else numAt (b :: r) 1 (beh (b.toNat % 32))) = x at h
          by_cases hsz : 1 + beh (b.toNat % 32) ≠ sizeN x
          · rw [if_pos hsz] at h; simp only [Prod.mk.injEq] at h; dsimp only; omega
          · rw [if_neg hsz] at h; simp only [Prod.mk.injEq] at h; omega
end Go.Proofs.Ytcllcfjlnaijoaa
