/-
  Numbers as bytes, the highest first, as plain mathematics: nothing of any program.
-/
import Derived.Below
import Derived.Laws.BitsAllLaws
namespace Go.Proofs.YtigpplckddnghaaGreat

/-- The lowest k bytes of n, the highest first. -/
def beB : Nat → Nat → List UInt8
  | 0, _ => []
  | k + 1, n => UInt8.ofNat (n / 256 ^ k) :: beB k n

theorem beB_len (k n : Nat) : (beB k n).length = k := by
  induction k with
  | zero => rfl
  | succ k ih => simp [beB, ih]

theorem beB_get (n : Nat) : ∀ (k j : Nat), j < k → (beB k n)[j]? = some (UInt8.ofNat (n / 256 ^ (k - 1 - j)))
  | 0, j, h => by omega
  | k + 1, 0, _ => by simp [beB]
  | k + 1, j + 1, h => by
    have := beB_get n k j (by omega)
    simp only [beB, List.getElem?_cons_succ, this]
    congr 4
    omega

theorem beB_take_succ (n k j : Nat) (h : j < k) : (beB k n).take (j + 1) = (beB k n).take j ++ [UInt8.ofNat (n / 256 ^ (k - 1 - j))] := by
  rw [List.take_add_one, beB_get n k j h]; rfl

theorem beB_mod (k n : Nat) : beB k (n % 256 ^ k) = beB k n := by
  apply List.ext_getElem?
  intro j
  by_cases h : j < k
  · rw [beB_get _ k j h, beB_get _ k j h]
    congr 1
    apply UInt8.toNat_inj.1
    simp only [UInt8.toNat_ofNat']
    have e : 256 ^ k = 256 ^ (k - 1 - j) * 256 ^ (j + 1) := by rw [← Nat.pow_add]; congr 1; omega
    rw [e, Nat.mod_mul_right_div_self]
    rw [Nat.pow_succ, Nat.mul_comm (256 ^ j) 256]
    exact Nat.mod_mul_right_mod _ _ _
  · rw [List.getElem?_eq_none (by rw [beB_len]; omega), List.getElem?_eq_none (by rw [beB_len]; omega)]

/-- Behind the last byte: what is left when the low byte is struck. -/
theorem beB_snoc : ∀ (k n : Nat), beB (k + 1) n = beB k (n / 256) ++ [UInt8.ofNat n]
  | 0, n => by simp [beB]
  | k + 1, n => by
    rw [beB, beB_snoc k n]
    simp [beB, Nat.pow_succ, Nat.mul_comm, Nat.div_div_eq_div_mul]

/-- The byte at a place; what is not there counts as 0. -/
def byteAt (l : List UInt8) (z : Int) : Nat := if 0 ≤ z then (l.getD z.toNat 0).toNat else 0
theorem byteAt_lt (l : List UInt8) (z : Int) : byteAt l z < 256 := by
  unfold byteAt; split
  · exact UInt8.toNat_lt _
  · omega
/-- The number of w bytes from a place on, the highest first. -/
def numAt (l : List UInt8) (at_ : Int) : Nat → Nat
  | 0 => 0
  | w + 1 => numAt l at_ w * 256 + byteAt l (at_ + w)
theorem numAt_lt (l : List UInt8) (z : Int) : ∀ w, numAt l z w < 256 ^ w
  | 0 => by simp [numAt]
  | w + 1 => by
    have h1 := numAt_lt l z w
    have h2 := byteAt_lt l (z + w)
    rw [numAt, Nat.pow_succ]; omega
theorem byteAt_nat (l : List UInt8) (i : Nat) : byteAt l (i : Int) = (l.getD i 0).toNat := by simp [byteAt]
/-- Bytes that lie one behind the other, read back. -/
theorem numAt_beB (l m : List UInt8) (n : Nat) : ∀ (k w : Nat), w ≤ k → numAt (l ++ beB k n ++ m) (l.length : Int) w = n / 256 ^ (k - w) % 256 ^ w
  | k, 0, _ => by simp [numAt, Nat.mod_one]
  | k, w + 1, h => by
    rw [numAt, numAt_beB l m n k w (by omega)]
    have e : byteAt (l ++ beB k n ++ m) ((l.length : Int) + (w : Int)) = n / 256 ^ (k - (w + 1)) % 256 := by
      rw [show ((l.length : Int) + (w : Int)) = ((l.length + w : Nat) : Int) by omega, byteAt_nat]
      have : (l ++ beB k n ++ m)[l.length + w]? = some (UInt8.ofNat (n / 256 ^ (k - 1 - w))) := by
        rw [List.append_assoc, List.getElem?_append_right (by omega), List.getElem?_append_left (by rw [beB_len]; omega)]
        rw [show l.length + w - l.length = w by omega]
        exact beB_get n k w (by omega)
      rw [List.getD_eq_getElem?_getD, this, show k - 1 - w = k - (w + 1) by omega]
      simp
    rw [e]
    have e2 : k - w = (k - (w + 1)) + 1 := by omega
    rw [e2, Nat.pow_succ, ← Nat.div_div_eq_div_mul, Nat.pow_succ]
    generalize n / 256 ^ (k - (w + 1)) = x
    rw [Nat.mul_comm (256 ^ w) 256, Nat.mod_mul]
    omega

theorem beB_split (n : Nat) : ∀ (a b : Nat), beB (a + b) n = beB a (n / 256 ^ b) ++ beB b n
  | 0, b => by simp [beB]
  | a + 1, b => by
    rw [show a + 1 + b = (a + b) + 1 by omega, beB, beB_split n a b, beB]
    simp only [List.cons_append]
    congr 2
    rw [Nat.div_div_eq_div_mul, ← Nat.pow_add, Nat.add_comm b a]
theorem numAt_low (n k : Nat) (h : k ≤ 8) : numAt (beB 8 n) (8 - (k : Int)) k = n % 256 ^ k := by
  have e := beB_split n (8 - k) k
  rw [show 8 - k + k = 8 by omega] at e
  have := numAt_beB (beB (8 - k) (n / 256 ^ k)) [] n k k (Nat.le_refl _)
  rw [List.append_nil, ← e, beB_len, Nat.sub_self, Nat.pow_zero, Nat.div_one] at this
  rw [← this]
  congr 1
  omega
theorem numAt_back (l : List UInt8) (n k : Nat) : numAt (l ++ beB k n) (l.length : Int) k = n % 256 ^ k := by
  have := numAt_beB l [] n k k (Nat.le_refl _)
  rwa [List.append_nil, Nat.sub_self, Nat.pow_zero, Nat.div_one] at this
theorem numAt_out (l : List UInt8) (z : Int) (h : z ≤ -8 ∨ (l.length : Int) ≤ z) : ∀ w, w ≤ 8 → numAt l z w = 0
  | 0, _ => rfl
  | w + 1, hw => by
    rw [numAt, numAt_out l z h w (by omega)]
    unfold byteAt
    split
    · have : l.length ≤ (z + w).toNat := by omega
      simp [List.getD, List.getElem?_eq_none this]
    · rfl
theorem numAt_lt56 (l : List UInt8) (z : Int) (w : Nat) (h : w < 8) : numAt l z w < 72057594037927936 :=
  Nat.lt_of_lt_of_le (numAt_lt l z w) (Nat.pow_le_pow_right (n := 256) (by decide) (show w ≤ 7 by omega))
theorem u64_wrap_small (x : Nat) (h : x < 18446744073709551616) : IntKind.u64.wrap (x : Int) = (x : Int) := by
  simp only [IntKind.wrap, IntKind.bits, IntKind.signed]; simp; omega
/-- One byte more: no number of at most seven bytes leaves the kind. -/
theorem u64_more (d b : Nat) (hd : d < 72057594037927936) (hb : b < 256) : IntKind.u64.wrap (IntKind.u64.wrap ((d : Int) * 256) + (b : Int)) = ((d * 256 + b : Nat) : Int) := by
  rw [show (d : Int) * 256 = ((d * 256 : Nat) : Int) by omega, u64_wrap_small _ (by omega), show ((d * 256 : Nat) : Int) + (b : Int) = ((d * 256 + b : Nat) : Int) by omega, u64_wrap_small _ (by omega)]
theorem u64_more0 (d : Nat) (hd : d < 72057594037927936) : IntKind.u64.wrap ((d : Int) * 256) = ((d * 256 : Nat) : Int) := by
  rw [show (d : Int) * 256 = ((d * 256 : Nat) : Int) by omega, u64_wrap_small _ (by omega)]
theorem u64_join (d b : Nat) (hd : d < 72057594037927936) (hb : b < 256) : bits .or .u64 (IntKind.u64.wrap ((d : Int) * 256)) (b : Int) = ((d * 256 + b : Nat) : Int) := by
  rw [u64_more0 d hd, u64_or_nat _ _ (by omega) (by omega), nat_join 8 (d * 256) b (by omega) (by omega)]
theorem byteAt_in (l : List UInt8) (z : Int) (h : 0 ≤ z) : byteAt l z = (l.getD z.toNat 0).toNat := if_pos h
theorem byteAt_out (l : List UInt8) (z : Int) (h : z < 0 ∨ (l.length : Int) ≤ z) : byteAt l z = 0 := by
  unfold byteAt
  split
  · rw [List.getD_eq_getElem?_getD, List.getElem?_eq_none (by omega)]; rfl
  · rfl
theorem u8_wrap_nat (x : Nat) : IntKind.u8.wrap (x : Int) = ((UInt8.ofNat x).toNat : Int) := by
  simp [IntKind.wrap, IntKind.bits, IntKind.signed]
theorem two_pow_eight (s : Nat) : (2 : Int) ^ (8 * (s : Int)).toNat = ((256 ^ s : Nat) : Int) := by
  have e : (8 * (s : Int)).toNat = 8 * s := by omega
  rw [e, Int.pow_mul, Int.natCast_pow]; rfl
theorem u8_of_shr (n : Int) (h : 0 ≤ n) (s : Nat) : IntKind.u8.wrap (n / 2 ^ (8 * (s : Int)).toNat) = ((UInt8.ofNat (n.toNat / 256 ^ s)).toNat : Int) := by
  obtain ⟨N, rfl⟩ := Int.eq_ofNat_of_zero_le h
  rw [two_pow_eight, ← u8_wrap_nat, Int.natCast_ediv]; rfl
end Go.Proofs.YtigpplckddnghaaGreat
