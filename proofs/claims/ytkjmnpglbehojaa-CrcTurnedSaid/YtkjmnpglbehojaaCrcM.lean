/-
  Check sums as plain mathematics: bit by bit, to the right. Nothing of any program.
-/
import Derived.Below
import Derived.Laws.BitsAllLaws
namespace Go.Proofs.Ytkjmnpglbehojaa

/-- One bit on, several bits on, a byte on, bytes on. -/
def sh1 (p s : Nat) : Nat := if s % 2 = 1 then (s / 2) ^^^ p else s / 2
def shN (p : Nat) : Nat → Nat → Nat
  | 0, s => s
  | k + 1, s => sh1 p (shN p k s)
def onB (p s : Nat) (x : UInt8) : Nat := shN p 8 (s ^^^ x.toNat)
def onL (p s : Nat) (l : List UInt8) : Nat := l.foldl (onB p) s

theorem onL_app (p s : Nat) (l m : List UInt8) : onL p s (l ++ m) = onL p (onL p s l) m := by simp [onL]
theorem onL_take (p s : Nat) (l : List UInt8) (j : Nat) (h : j < l.length) : onL p s (l.take (j + 1)) = onB p (onL p s (l.take j)) (l.getD j 0) := by
  rw [List.take_add_one, onL_app]
  simp [onL, List.getD, List.getElem?_eq_getElem h]

section
variable {n p : Nat} (hp : p < 2 ^ n)
include hp
theorem sh1_lt (s : Nat) (h : s < 2 ^ n) : sh1 p s < 2 ^ n := by
  have : s / 2 < 2 ^ n := by omega
  unfold sh1
  split
  · exact Nat.xor_lt_two_pow this hp
  · exact this
theorem shN_lt (s : Nat) (h : s < 2 ^ n) : ∀ k, shN p k s < 2 ^ n
  | 0 => h
  | k + 1 => sh1_lt hp _ (shN_lt s h k)
variable (h8 : 8 ≤ n)
include h8
omit hp in
theorem byte_lt (x : UInt8) : x.toNat < 2 ^ n := Nat.lt_of_lt_of_le x.toNat_lt (Nat.pow_le_pow_right (by omega) h8)
theorem onB_lt (s : Nat) (h : s < 2 ^ n) (x : UInt8) : onB p s x < 2 ^ n := shN_lt hp _ (Nat.xor_lt_two_pow h (byte_lt h8 x)) 8
theorem onL_lt : ∀ (l : List UInt8) (s : Nat), s < 2 ^ n → onL p s l < 2 ^ n
  | [], _, h => h
  | x :: l, s, h => onL_lt l (onB p s x) (onB_lt hp h8 s h x)
end

/-- The number has the highest bit: nothing is lost. -/
theorem sh1_inj {m p : Nat} (ht : p.testBit m = true) {s t : Nat} (hs : s < 2 ^ (m + 1)) (htt : t < 2 ^ (m + 1)) (h : sh1 p s = sh1 p t) : s = t := by
  have hs2 : s / 2 < 2 ^ m := by rw [Nat.pow_succ] at hs; omega
  have ht2 : t / 2 < 2 ^ m := by rw [Nat.pow_succ] at htt; omega
  have fs : (s / 2).testBit m = false := Nat.testBit_lt_two_pow hs2
  have ft : (t / 2).testBit m = false := Nat.testBit_lt_two_pow ht2
  unfold sh1 at h
  by_cases h1 : s % 2 = 1 <;> by_cases h2 : t % 2 = 1
  · rw [if_pos h1, if_pos h2] at h
    have h' := congrArg (· ^^^ p) h
    simp only [Nat.xor_assoc, Nat.xor_self, Nat.xor_zero] at h'
    omega
  · rw [if_pos h1, if_neg h2] at h
    have h' := congrArg (fun z => z.testBit m) h
    simp only [Nat.testBit_xor, fs, ft, ht] at h'
    cases h'
  · rw [if_neg h1, if_pos h2] at h
    have h' := congrArg (fun z => z.testBit m) h
    simp only [Nat.testBit_xor, fs, ft, ht] at h'
    cases h'
  · rw [if_neg h1, if_neg h2] at h
    omega
section
variable {m p : Nat} (hp : p < 2 ^ (m + 1)) (ht : p.testBit m = true)
include hp ht
theorem shN_inj {s t : Nat} (hs : s < 2 ^ (m + 1)) (h2 : t < 2 ^ (m + 1)) : ∀ k, shN p k s = shN p k t → s = t
  | 0, h => h
  | k + 1, h => shN_inj hs h2 k (sh1_inj ht (shN_lt hp _ hs k) (shN_lt hp _ h2 k) h)
variable (h8 : 8 ≤ m + 1)
include h8
theorem onB_inj {s t : Nat} (hs : s < 2 ^ (m + 1)) (h2 : t < 2 ^ (m + 1)) {x y : UInt8} (h : onB p s x = onB p t y) : s ^^^ x.toNat = t ^^^ y.toNat :=
  shN_inj hp ht (Nat.xor_lt_two_pow hs (byte_lt h8 x)) (Nat.xor_lt_two_pow h2 (byte_lt h8 y)) 8 h
theorem onL_inj : ∀ (l : List UInt8) {s t : Nat}, s < 2 ^ (m + 1) → t < 2 ^ (m + 1) → onL p s l = onL p t l → s = t
  | [], _, _, _, _, h => h
  | x :: l, s, t, hs, h2, h => by
    have h3 := onL_inj l (onB_lt hp h8 s hs x) (onB_lt hp h8 t h2 x) h
    have h4 := congrArg (· ^^^ x.toNat) (onB_inj hp ht h8 hs h2 h3)
    simpa only [Nat.xor_assoc, Nat.xor_self, Nat.xor_zero] using h4
/-- Just one byte is another one: another sum. -/
theorem onL_turned : ∀ (l : List UInt8) {s : Nat} (q : Nat) (y : UInt8), s < 2 ^ (m + 1) → q < l.length → y ≠ l.getD q 0 → onL p s l ≠ onL p s (l.set q y)
  | x :: l, s, 0, y, hs, _, hy, h => by
    have h3 := onL_inj hp ht h8 l (onB_lt hp h8 s hs x) (onB_lt hp h8 s hs y) h
    have h4 := congrArg (s ^^^ ·) (onB_inj hp ht h8 hs hs h3)
    simp only [← Nat.xor_assoc, Nat.xor_self, Nat.zero_xor] at h4
    exact hy (UInt8.toNat_inj.1 h4.symm)
  | x :: l, s, q + 1, y, hs, hq, hy, h => onL_turned l q y (onB_lt hp h8 s hs x) (by simpa using hq) (by simpa using hy) h
end

/-- The reference's bit: of two numbers added, and halved apart. -/
theorem ref_step (p s c t : Nat) (h : s ^^^ c = t) : (if (s + c) % 2 = 1 then s / 2 ^^^ p else s / 2) ^^^ (c / 2) = sh1 p t := by
  subst h
  have h1 : (s ^^^ c) % 2 = (s + c) % 2 := by
    have h3 := @Nat.xor_mod_two_eq_one s c
    rcases (by omega : s % 2 = 0 ∨ s % 2 = 1) with h4 | h4 <;> rcases (by omega : c % 2 = 0 ∨ c % 2 = 1) with h5 | h5 <;> rw [h4, h5] at h3 <;> omega
  have h2 : (s ^^^ c) / 2 = s / 2 ^^^ c / 2 := Nat.xor_div_two
  unfold sh1
  rw [h1, h2]
  split
  · rw [Nat.xor_assoc, Nat.xor_comm p, Nat.xor_assoc]
  · rfl

/-- Both sums, of any bytes, as told. -/
def shortOf (s : Nat) (l : List UInt8) : Nat := 65535 ^^^ onL 33800 (65535 ^^^ s) l
def longOf (s : Nat) (l : List UInt8) : Nat := 4294967295 ^^^ onL 2197175160 (4294967295 ^^^ s) l
theorem xor_back (a b : Nat) : a ^^^ (a ^^^ b) = b := by rw [← Nat.xor_assoc, Nat.xor_self, Nat.zero_xor]
theorem shortOf_app (s : Nat) (l m : List UInt8) : shortOf (shortOf s l) m = shortOf s (l ++ m) := by
  unfold shortOf; rw [xor_back, onL_app]
theorem longOf_app (s : Nat) (l m : List UInt8) : longOf (longOf s l) m = longOf s (l ++ m) := by
  unfold longOf; rw [xor_back, onL_app]
theorem short_p : (33800 : Nat) < 2 ^ 16 := by decide
theorem long_p : (2197175160 : Nat) < 2 ^ 32 := by decide
theorem shortOf_lt (s : Nat) (h : s < 65536) (l : List UInt8) : shortOf s l < 65536 :=
  Nat.xor_lt_two_pow (n := 16) (by decide) (onL_lt short_p (by decide) l _ (Nat.xor_lt_two_pow (by decide) h))
theorem longOf_lt (s : Nat) (h : s < 4294967296) (l : List UInt8) : longOf s l < 4294967296 :=
  Nat.xor_lt_two_pow (n := 32) (by decide) (onL_lt long_p (by decide) l _ (Nat.xor_lt_two_pow (by decide) h))
theorem xor_inj {a b c : Nat} (h : a ^^^ b = a ^^^ c) : b = c := by
  have := congrArg (a ^^^ ·) h
  simpa only [xor_back] using this
theorem shortOf_turned (l : List UInt8) (q : Nat) (y : UInt8) (hq : q < l.length) (hy : y ≠ l.getD q 0) : shortOf 0 l ≠ shortOf 0 (l.set q y) := fun h =>
  onL_turned (m := 15) short_p (by decide) (by decide) l q y (by decide) hq hy (xor_inj h)
theorem longOf_turned (l : List UInt8) (q : Nat) (y : UInt8) (hq : q < l.length) (hy : y ≠ l.getD q 0) : longOf 0 l ≠ longOf 0 (l.set q y) := fun h =>
  onL_turned (m := 31) long_p (by decide) (by decide) l q y (by decide) hq hy (xor_inj h)

end Go.Proofs.Ytkjmnpglbehojaa
