/-
  Bits of bytes, as plain mathematics: how many are 0, what covers what, what masks leave. Nothing of any program.
-/
import Derived.Below
import Derived.Laws.BitsAllLaws
namespace Go.Proofs.Ytigpplckddnghaa

/-- Bit k of a number. -/
def bitN (x k : Nat) : Nat := x / 2 ^ k % 2
theorem bitN_two (x k : Nat) : bitN x k = 0 ∨ bitN x k = 1 := by unfold bitN; omega
theorem bitN_test (x k : Nat) : (bitN x k == 1) = x.testBit k := by
  rw [Nat.testBit_eq_decide_div_mod_eq]; unfold bitN; rw [Bool.beq_eq_decide_eq]
theorem bitN_toNat (x k : Nat) : bitN x k = (x.testBit k).toNat := by rw [Nat.toNat_testBit]; rfl
/-- Bit i of bytes, the lowest of each byte first. -/
def bitAt (l : List UInt8) (i : Nat) : Nat := bitN (l.getD (i / 8) 0).toNat (i % 8)
theorem bitAt_two (l : List UInt8) (i : Nat) : bitAt l i = 0 ∨ bitAt l i = 1 := bitN_two _ _
theorem bitAt_of (l : List UInt8) (j k : Nat) (h : k < 8) : bitAt l (8 * j + k) = bitN (l.getD j 0).toNat k := by
  unfold bitAt; rw [show (8 * j + k) / 8 = j by omega, show (8 * j + k) % 8 = k by omega]

theorem byte_eq_of_bits (x y : UInt8) (h : ∀ k, k < 8 → bitN x.toNat k = bitN y.toNat k) : x = y := by
  apply UInt8.toNat_inj.1
  apply Nat.eq_of_testBit_eq
  intro i
  by_cases hi : i < 8
  · rw [← bitN_test, ← bitN_test, h i hi]
  · rw [Nat.testBit_lt_two_pow (Nat.lt_of_lt_of_le x.toNat_lt (Nat.pow_le_pow_right (n := 2) (by omega) (by omega : 8 ≤ i))), Nat.testBit_lt_two_pow (Nat.lt_of_lt_of_le y.toNat_lt (Nat.pow_le_pow_right (n := 2) (by omega) (by omega : 8 ≤ i)))]

theorem bytes_eq_of_bits (a b : List UInt8) (hl : a.length = b.length) (h : ∀ i, i < 8 * b.length → bitAt a i = bitAt b i) : a = b := by
  apply List.ext_getElem hl
  intro j h1 h2
  apply byte_eq_of_bits
  intro k hk
  have := h (8 * j + k) (by omega)
  rw [bitAt_of _ _ _ hk, bitAt_of _ _ _ hk] at this
  simpa [List.getD, List.getElem?_eq_getElem h1, List.getElem?_eq_getElem h2] using this

/-- How many of the first i bits are 0. -/
def zc (l : List UInt8) : Nat → Nat
  | 0 => 0
  | i + 1 => zc l i + (1 - bitAt l i)
theorem zc_le (l : List UInt8) : ∀ i, zc l i ≤ i
  | 0 => Nat.le_refl _
  | i + 1 => by have := zc_le l i; rw [zc]; omega
theorem zc_zero (l : List UInt8) : ∀ n, zc l n = 0 ↔ ∀ i, i < n → bitAt l i = 1
  | 0 => by simp [zc]
  | n + 1 => by
    rw [zc]
    have ih := zc_zero l n
    constructor
    · intro h i hi
      have h1 : zc l n = 0 := by omega
      rcases Nat.lt_or_ge i n with h2 | h2
      · exact ih.1 h1 i h2
      · obtain rfl : i = n := by omega
        have := bitAt_two l i; omega
    · intro h
      have h1 := ih.2 (fun i hi => h i (by omega))
      have h2 := h n (by omega)
      omega

theorem bits_255 (k : Nat) (hk : k < 8) : bitN 255 k = 1 := by
  rcases (by omega : k = 0 ∨ k = 1 ∨ k = 2 ∨ k = 3 ∨ k = 4 ∨ k = 5 ∨ k = 6 ∨ k = 7) with rfl | rfl | rfl | rfl | rfl | rfl | rfl | rfl <;> rfl
theorem zc_blank (l : List UInt8) : zc l (8 * l.length) = 0 ↔ ∀ j, j < l.length → l.getD j 0 = 255 := by
  rw [zc_zero]
  constructor
  · intro h j hj
    apply byte_eq_of_bits
    intro k hk
    have := h (8 * j + k) (by omega)
    rw [bitAt_of _ _ _ hk] at this
    rw [this, show (255 : UInt8).toNat = 255 from rfl, bits_255 k hk]
  · intro h i hi
    have h1 := h (i / 8) (by omega)
    unfold bitAt
    rw [h1, show (255 : UInt8).toNat = 255 from rfl, bits_255 _ (by omega)]

/-- a covers b: it is as long, and has all the bits of b that are 1. -/
def covB (a b : List UInt8) : Bool := decide (a.length = b.length ∧ ∀ i, i < 8 * b.length → bitAt b i ≤ bitAt a i)
theorem covB_iff (a b : List UInt8) : covB a b = true ↔ a.length = b.length ∧ ∀ i, i < 8 * b.length → bitAt b i ≤ bitAt a i := by simp [covB]
theorem zc_mono (a b : List UInt8) : ∀ n, (∀ i, i < n → bitAt b i ≤ bitAt a i) → zc a n ≤ zc b n ∧ (zc a n = zc b n → ∀ i, i < n → bitAt a i = bitAt b i)
  | 0, _ => ⟨Nat.le_refl _, fun _ i hi => by omega⟩
  | n + 1, h => by
    have ih := zc_mono a b n (fun i hi => h i (by omega))
    have h1 := h n (by omega)
    have h2 := bitAt_two a n
    have h3 := bitAt_two b n
    rw [zc, zc]
    refine ⟨by omega, fun he i hi => ?_⟩
    rcases Nat.lt_or_ge i n with h4 | h4
    · exact ih.2 (by omega) i h4
    · obtain rfl : i = n := by omega
      omega
/-- What covers bytes has no more bits that are 0; with as many it is the very bytes. -/
theorem cov_count (a b : List UInt8) (h : covB a b = true) : zc a (8 * a.length) < zc b (8 * b.length) ∨ a = b := by
  obtain ⟨hl, hc⟩ := (covB_iff a b).1 h
  have := zc_mono a b (8 * b.length) hc
  rw [hl]
  by_cases he : zc a (8 * b.length) = zc b (8 * b.length)
  · exact .inr (bytes_eq_of_bits a b hl (this.2 he))
  · exact .inl (by omega)

/-- The byte of a mask at a place. -/
def maskB (m : List UInt8) (p : Nat) : UInt8 := if m.length = 0 then 0 else m.getD (p % m.length) 0
/-- A byte of which just the mask's bits are done. -/
def mixB (is want d : UInt8) : UInt8 := (is &&& ~~~d) ||| (want &&& d)
theorem mixB_toNat (is want d : UInt8) : (mixB is want d).toNat = (is.toNat &&& (255 - d.toNat)) ||| (want.toNat &&& d.toNat) := by
  simp [mixB]
theorem not_test (d : UInt8) (k : Nat) (hk : k < 8) : (255 - d.toNat).testBit k = !d.toNat.testBit k := by
  have := Nat.testBit_two_pow_sub_succ d.toNat_lt k
  rw [show 2 ^ 8 - (d.toNat + 1) = 255 - d.toNat by omega] at this
  rw [this]; simp [hk]
theorem mixB_test (is want d : UInt8) (k : Nat) (hk : k < 8) : (mixB is want d).toNat.testBit k = if d.toNat.testBit k then want.toNat.testBit k else is.toNat.testBit k := by
  rw [mixB_toNat, Nat.testBit_or, Nat.testBit_and, Nat.testBit_and, not_test d k hk]
  cases d.toNat.testBit k <;> simp

/-- Is a bit in a mask? -/
def inMask (m : List UInt8) (i : Nat) : Bool := bitN (maskB m (i / 8)).toNat (i % 8) == 1
/-- What is programmed, byte by byte. -/
def progB (old b m : List UInt8) (p : Nat) : UInt8 := if p < b.length then mixB (old.getD p 0) (old.getD p 0 &&& b.getD p 0) (maskB m p) else old.getD p 0
def progL (old b m : List UInt8) : List UInt8 := (List.range old.length).map (progB old b m)
/-- What is erased, byte by byte, and bit by bit. -/
def erasB (old m : List UInt8) (p : Nat) : UInt8 := mixB (old.getD p 0) 255 (maskB m p)
def erasL (old m : List UInt8) : List UInt8 := (List.range old.length).map (erasB old m)
def erasF (old m : List UInt8) (i : Nat) : Bool := bitAt old i == 1 || inMask m i
theorem erasF_bit (old m : List UInt8) (j k : Nat) (hk : k < 8) : erasF old m (8 * j + k) = (erasB old m j).toNat.testBit k := by
  unfold erasF erasB
  rw [bitAt_of _ _ _ hk, bitN_test, show inMask m (8 * j + k) = (maskB m j).toNat.testBit k by
    unfold inMask; rw [show (8 * j + k) / 8 = j by omega, show (8 * j + k) % 8 = k by omega, bitN_test], mixB_test _ _ _ k hk]
  have : (255 : UInt8).toNat.testBit k = true := by rw [← bitN_test, show (255 : UInt8).toNat = 255 from rfl, bits_255 k hk]; rfl
  rw [this]
  cases (old.getD j 0).toNat.testBit k <;> cases (maskB m j).toNat.testBit k <;> rfl
theorem progL_len (old b m : List UInt8) : (progL old b m).length = old.length := by simp [progL]
theorem erasL_len (old m : List UInt8) : (erasL old m).length = old.length := by simp [erasL]
theorem range_getD (f : Nat → UInt8) (n j : Nat) (h : j < n) : ((List.range n).map f).getD j 0 = f j := by simp [List.getD, h]
theorem bit_of_test (x y : Nat) (k : Nat) (h : x.testBit k = true → y.testBit k = true) : bitN x k ≤ bitN y k := by
  rw [bitN_toNat, bitN_toNat]
  cases hx : x.testBit k
  · simp
  · rw [h hx]; exact Nat.le_refl _
/-- Whatever the mask: what is programmed of b on nothing but 1 covers b. -/
theorem prog_covers (o b m : List UInt8) (hl : o.length = b.length) (ho : ∀ j, j < b.length → o.getD j 0 = 255) : covB (progL o b m) b = true := by
  rw [covB_iff, progL_len]
  refine ⟨hl, fun i hi => ?_⟩
  have hk : i % 8 < 8 := by omega
  have hj : i / 8 < b.length := by omega
  rw [← Nat.div_add_mod i 8, bitAt_of _ _ _ hk, bitAt_of _ _ _ hk]
  unfold progL
  rw [range_getD _ _ _ (by omega), progB, if_pos hj, ho _ hj]
  apply bit_of_test
  rw [mixB_test _ _ _ _ hk, UInt8.toNat_and, Nat.testBit_and]
  have : (255 : UInt8).toNat.testBit (i % 8) = true := by rw [← bitN_test, show (255 : UInt8).toNat = 255 from rfl, bits_255 _ hk]; rfl
  rw [this]
  intro h
  rw [h]; simp
/-- Whatever the mask: what is erased covers what was. -/
theorem eras_covers (b m : List UInt8) : covB (erasL b m) b = true := by
  rw [covB_iff, erasL_len]
  refine ⟨rfl, fun i hi => ?_⟩
  have hk : i % 8 < 8 := by omega
  have hj : i / 8 < b.length := by omega
  rw [← Nat.div_add_mod i 8, bitAt_of _ _ _ hk, bitAt_of _ _ _ hk]
  unfold erasL
  rw [range_getD _ _ _ hj]
  apply bit_of_test
  rw [← erasF_bit b m _ _ hk]
  unfold erasF
  rw [bitAt_of _ _ _ hk, bitN_test]
  intro h
  rw [h]; rfl

/-- Bytes laid one after another over others. -/
def laid (f : Nat → UInt8) (l : List UInt8) (j : Nat) : List UInt8 := (List.range l.length).map fun p => if p < j then f p else l.getD p 0
theorem laid_zero (f : Nat → UInt8) (l : List UInt8) : laid f l 0 = l := by
  apply List.ext_getElem (by simp [laid])
  intro i h1 h2
  simp [laid, List.getD, List.getElem?_eq_getElem h2]
theorem laid_all (f : Nat → UInt8) (l : List UInt8) (j : Nat) (h : l.length ≤ j) : laid f l j = (List.range l.length).map f := by
  apply List.map_congr_left
  intro p hp
  rw [if_pos (by have := List.mem_range.1 hp; omega)]
theorem laid_len (f : Nat → UInt8) (l : List UInt8) (j : Nat) : (laid f l j).length = l.length := by simp [laid]
theorem laid_succ (f : Nat → UInt8) (l : List UInt8) (j : Nat) (_ : j < l.length) : laid f l (j + 1) = (laid f l j).set j (f j) := by
  apply List.ext_getElem (by simp [laid])
  intro i h1 h2
  rw [List.getElem_set]
  by_cases hij : j = i
  · subst hij; simp [laid]
  · rw [if_neg hij]
    simp only [laid, List.getElem_map, List.getElem_range]
    by_cases h3 : i < j
    · rw [if_pos (by omega), if_pos h3]
    · rw [if_neg (by omega), if_neg h3]
theorem laid_prog (old b m : List UInt8) (j : Nat) (h : min old.length b.length ≤ j) : laid (progB old b m) old j = progL old b m := by
  apply List.map_congr_left
  intro p hp
  have := List.mem_range.1 hp
  by_cases h1 : p < j
  · rw [if_pos h1]
  · rw [if_neg h1, progB, if_neg (by omega)]
theorem bits_mix (x y d : Nat) (hx : x < 256) (hy : y < 256) (hd : d < 256) : bits .or .u8 (bits .andNot .u8 (x : Int) (d : Int)) (bits .and .u8 (y : Int) (d : Int)) = (((x &&& (255 - d)) ||| (y &&& d) : Nat) : Int) := by
  have h1 : x &&& (255 - d) < 256 := Nat.lt_of_le_of_lt Nat.and_le_left hx
  have h2 : y &&& d < 256 := Nat.lt_of_le_of_lt Nat.and_le_left hy
  rw [u8_andNot_nat x d hx hd, u8_and_nat y d hy hd, u8_or_nat _ _ h1 h2]
theorem bits_not (x k : Nat) (hx : x < 256) (hk : k < 8) : bits .and .u8 (bits .xor .u8 (if IntKind.u8.signed = true then -1 else IntKind.u8.max) (x : Int) / 2 ^ k) 1 = ((1 - bitN x k : Nat) : Int) := by
  have e0 : (if IntKind.u8.signed = true then -1 else IntKind.u8.max) = ((255 : Nat) : Int) := by rfl
  have h1 : 255 ^^^ x < 256 := Nat.xor_lt_two_pow (n := 8) (by omega) hx
  have h2 : (255 ^^^ x) / 2 ^ k < 256 := Nat.lt_of_le_of_lt (Nat.div_le_self _ _) h1
  rw [e0, u8_xor_nat 255 x (by omega) hx, show (((255 ^^^ x : Nat) : Int) / 2 ^ k) = (((255 ^^^ x) / 2 ^ k : Nat) : Int) by simp, show (1 : Int) = ((1 : Nat) : Int) from rfl, u8_and_nat _ 1 h2 (by omega), nat_mask1]
  have e1 : (255 ^^^ x) / 2 ^ k % 2 = bitN (255 ^^^ x) k := rfl
  rw [e1, bitN_toNat, bitN_toNat, Nat.testBit_xor]
  have : (255 : Nat).testBit k = true := by rw [← bitN_test, bits_255 k hk]; rfl
  rw [this]
  cases x.testBit k <;> rfl
end Go.Proofs.Ytigpplckddnghaa
