/-
  PAGES AS BYTES, plain mathematics: heads, the bytes of a page, what is read of them; whatever covers a page, and is another one, is none.
  TABLES AS BYTES, plain mathematics: numbers as cells, tables that may be, their data, what is read of data.
-/
import Derived.Test.YtigpplckddnghaaGreatMakes
import Derived.Test.YtigpplckddnghaaGreatBits
import Derived.Test.YtigpplckddnghaaGreatWords
namespace Go.Proofs.YtigpplckddnghaaGreat
section
/-- A head. -/
structure Hd where
  kind : Int
  index : Int
  count : Int
  batch : Nat
  opn : Nat
  lpn : Int
  len : Int
deriving DecidableEq
def Hd.May (h : Hd) : Prop := 1 ≤ h.kind ∧ h.kind ≤ 5 ∧ 1 ≤ h.count ∧ h.count ≤ 16 ∧ 0 ≤ h.index ∧ h.index < h.count ∧ h.batch < 2147483648 ∧ h.opn < 2147483648 ∧ 0 ≤ h.lpn ∧ h.lpn ≤ 65535 ∧ 0 ≤ h.len ∧ h.len ≤ 228
instance (h : Hd) : Decidable h.May := by unfold Hd.May; infer_instance

/-- The first 24 bytes of a page. -/
def hdB (h : Hd) : List UInt8 := beB 1 h.kind.toNat ++ beB 1 h.index.toNat ++ beB 1 h.count.toNat ++ beB 1 0 ++ beB 8 h.batch ++ beB 8 h.opn ++ beB 2 h.lpn.toNat ++ beB 2 h.len.toNat
theorem hdB_len (h : Hd) : (hdB h).length = 24 := by simp [hdB, beB_len]
def bodyB (h : Hd) (d : List UInt8) : List UInt8 := hdB h ++ d ++ List.replicate (228 - d.length) 255
theorem bodyB_len (h : Hd) (d : List UInt8) (hd : d.length ≤ 228) : (bodyB h d).length = 252 := by
  simp only [bodyB, List.length_append, hdB_len, List.length_replicate]; omega
/-- Bytes, and behind them how many of their bits are 0. -/
def sealB (l : List UInt8) : List UInt8 := l ++ beB 4 (zc l (8 * l.length))
theorem sealB_len (l : List UInt8) : (sealB l).length = l.length + 4 := by simp [sealB, beB_len]
def pageB (h : Hd) (d : List UInt8) : List UInt8 := sealB (bodyB h d)
theorem pageB_len (h : Hd) (d : List UInt8) (hd : d.length ≤ 228) : (pageB h d).length = 256 := by
  rw [pageB, sealB_len, bodyB_len h d hd]

/-- The head that stands in bytes, whether it may be or not. -/
def headOf (b : List UInt8) : Hd := ⟨(numAt b 0 1 : Nat), (numAt b 1 1 : Nat), (numAt b 2 1 : Nat), numAt b 4 8, numAt b 12 8, (numAt b 20 2 : Nat), (numAt b 22 2 : Nat)⟩
def dataOf (b : List UInt8) : List UInt8 := (b.drop 24).take (headOf b).len.toNat
/-- Are bytes a page's? -/
def rightB (b : List UInt8) : Bool := decide (b.length = 256 ∧ (headOf b).May ∧ pageB (headOf b) (dataOf b) = b)
/-- The class of bytes. -/
def classN (b : List UInt8) : Nat := if b = List.replicate 256 255 then 0 else if rightB b = true then 1 else 2

theorem dataOf_len (b : List UInt8) (hb : b.length = 256) (hm : (headOf b).May) : (dataOf b).length = (headOf b).len.toNat := by
  obtain ⟨_, _, _, _, _, _, _, _, _, _, h1, h2⟩ := hm
  unfold dataOf
  rw [List.length_take, List.length_drop, hb]
  omega
theorem numAt_mid (a m : List UInt8) (n k : Nat) (p : Int) (hp : p = (a.length : Int)) (hn : n < 256 ^ k) : numAt (a ++ (beB k n ++ m)) p k = n := by
  rw [hp, ← List.append_assoc, numAt_beB a m n k k (Nat.le_refl _), Nat.sub_self, Nat.pow_zero, Nat.div_one, Nat.mod_eq_of_lt hn]
theorem head_back (h : Hd) (m : List UInt8) (hm : h.May) : headOf (hdB h ++ m) = h := by
  obtain ⟨h1, h2, h3, h4, h5, h6, h7, h8, h9, h10, h11, h12⟩ := hm
  rcases h with ⟨kd, ix, ct, bt, op, lp, ln⟩
  simp only at *
  have n0 := numAt_mid [] (beB 1 ix.toNat ++ (beB 1 ct.toNat ++ (beB 1 0 ++ (beB 8 bt ++ (beB 8 op ++ (beB 2 lp.toNat ++ (beB 2 ln.toNat ++ m))))))) kd.toNat 1 0 rfl (by omega)
  have n1 := numAt_mid (beB 1 kd.toNat) (beB 1 ct.toNat ++ (beB 1 0 ++ (beB 8 bt ++ (beB 8 op ++ (beB 2 lp.toNat ++ (beB 2 ln.toNat ++ m)))))) ix.toNat 1 1 (by simp [beB_len]) (by omega)
  have n2 := numAt_mid (beB 1 kd.toNat ++ beB 1 ix.toNat) (beB 1 0 ++ (beB 8 bt ++ (beB 8 op ++ (beB 2 lp.toNat ++ (beB 2 ln.toNat ++ m))))) ct.toNat 1 2 (by simp [beB_len]) (by omega)
  have n4 := numAt_mid (beB 1 kd.toNat ++ beB 1 ix.toNat ++ beB 1 ct.toNat ++ beB 1 0) (beB 8 op ++ (beB 2 lp.toNat ++ (beB 2 ln.toNat ++ m))) bt 8 4 (by simp [beB_len]) (by omega)
  have n12 := numAt_mid (beB 1 kd.toNat ++ beB 1 ix.toNat ++ beB 1 ct.toNat ++ beB 1 0 ++ beB 8 bt) (beB 2 lp.toNat ++ (beB 2 ln.toNat ++ m)) op 8 12 (by simp [beB_len]) (by omega)
  have n20 := numAt_mid (beB 1 kd.toNat ++ beB 1 ix.toNat ++ beB 1 ct.toNat ++ beB 1 0 ++ beB 8 bt ++ beB 8 op) (beB 2 ln.toNat ++ m) lp.toNat 2 20 (by simp [beB_len]) (by omega)
  have n22 := numAt_mid (beB 1 kd.toNat ++ beB 1 ix.toNat ++ beB 1 ct.toNat ++ beB 1 0 ++ beB 8 bt ++ beB 8 op ++ beB 2 lp.toNat) m ln.toNat 2 22 (by simp [beB_len]) (by omega)
  simp only [List.nil_append, List.append_assoc] at n0 n1 n2 n4 n12 n20 n22
  simp only [headOf, hdB, List.append_assoc, n0, n1, n2, n4, n12, n20, n22]
  congr 1 <;> omega
theorem page_back (h : Hd) (d : List UInt8) (hm : h.May) (hd : d.length = h.len.toNat) : headOf (pageB h d) = h ∧ dataOf (pageB h d) = d := by
  have e : pageB h d = hdB h ++ (d ++ (List.replicate (228 - d.length) 255 ++ beB 4 (zc (bodyB h d) (8 * (bodyB h d).length)))) := by
    simp only [pageB, sealB]
    conv => lhs; unfold bodyB
    simp only [List.append_assoc]
    rfl
  have e1 : headOf (pageB h d) = h := by rw [e]; exact head_back h _ hm
  refine ⟨e1, ?_⟩
  unfold dataOf
  rw [e1, e, List.drop_append_of_le_length (by rw [hdB_len]; omega), List.drop_of_length_le (by rw [hdB_len]; omega), List.nil_append, ← hd, List.take_left]
theorem page_right (h : Hd) (d : List UInt8) (hm : h.May) (hd : d.length = h.len.toNat) : rightB (pageB h d) = true := by
  obtain ⟨e1, e2⟩ := page_back h d hm hd
  unfold rightB
  rw [decide_eq_true_eq, e1, e2]
  exact ⟨pageB_len h d (by have := hm.2.2.2.2.2.2.2.2.2.2; omega), hm, rfl⟩
theorem numAt_one (b : List UInt8) : numAt b 0 1 = (b.getD 0 0).toNat := by
  simp [numAt, byteAt]
theorem right_not_blank (b : List UInt8) (h : rightB b = true) : b ≠ List.replicate 256 255 := by
  rintro rfl
  unfold rightB at h
  rw [decide_eq_true_eq] at h
  have h2 := h.2.1.2.1
  have e : (headOf (List.replicate 256 255)).kind = 255 := by
    show ((numAt (List.replicate 256 255) 0 1 : Nat) : Int) = 255
    rw [numAt_one]
    rfl
  rw [e] at h2
  omega
theorem class_page (h : Hd) (d : List UInt8) (hm : h.May) (hd : d.length = h.len.toNat) : classN (pageB h d) = 1 := by
  have hr := page_right h d hm hd
  unfold classN
  rw [if_neg (right_not_blank _ hr), if_pos hr]
theorem class_one (b : List UInt8) : classN b = 1 ↔ rightB b = true := by
  unfold classN
  constructor
  · intro h
    split at h
    · cases h
    · split at h
      · assumption
      · cases h
  · intro h
    rw [if_neg (right_not_blank b h), if_pos h]
theorem class_le (b : List UInt8) : classN b ≤ 2 := by
  unfold classN
  split
  · exact Nat.zero_le _
  · split
    · exact Nat.le_succ _
    · exact Nat.le_refl _

/-! ### what is torn -/
theorem bits_le (x y : Nat) (h : ∀ k, k < 8 → bitN x k ≤ bitN y k) (hx : x < 256) : x ≤ y := by
  have : x &&& y = x := by
    apply Nat.eq_of_testBit_eq
    intro k
    rw [Nat.testBit_and]
    by_cases hk : k < 8
    · have h1 := h k hk
      rw [bitN_toNat, bitN_toNat] at h1
      cases hx1 : x.testBit k
      · rfl
      · cases hy1 : y.testBit k
        · rw [hx1, hy1] at h1; exact absurd h1 (by decide)
        · rfl
    · rw [Nat.testBit_lt_two_pow (Nat.lt_of_lt_of_le hx (Nat.pow_le_pow_right (n := 2) (by decide) (show 8 ≤ k by omega)))]
      rfl
  rw [← this]
  exact Nat.and_le_right
theorem cov_byte (a b : List UInt8) (h : covB a b = true) (j : Nat) (hj : j < b.length) : (b.getD j 0).toNat ≤ (a.getD j 0).toNat := by
  obtain ⟨hl, hc⟩ := (covB_iff a b).1 h
  refine bits_le _ _ (fun k hk => ?_) (UInt8.toNat_lt _)
  have := hc (8 * j + k) (by omega)
  rwa [bitAt_of _ _ _ hk, bitAt_of _ _ _ hk] at this
theorem numAt_le (a b : List UInt8) (h : ∀ j, j < b.length → (b.getD j 0).toNat ≤ (a.getD j 0).toNat) : ∀ w, w ≤ b.length → numAt b 0 w ≤ numAt a 0 w
  | 0, _ => Nat.le_refl _
  | w + 1, hw => by
    have h1 := numAt_le a b h w (by omega)
    have h2 := h w (by omega)
    rw [numAt, numAt, Int.zero_add, byteAt_nat, byteAt_nat]
    omega
theorem bitAt_app_left (a m : List UInt8) (i : Nat) (hi : i < 8 * a.length) : bitAt (a ++ m) i = bitAt a i := by
  unfold bitAt
  rw [List.getD_eq_getElem?_getD, List.getD_eq_getElem?_getD, List.getElem?_append_left (by omega)]
theorem bitAt_app_right (a m : List UInt8) (i : Nat) : bitAt (a ++ m) (8 * a.length + i) = bitAt m i := by
  unfold bitAt
  rw [show (8 * a.length + i) / 8 = a.length + i / 8 by omega, show (8 * a.length + i) % 8 = i % 8 by omega, List.getD_eq_getElem?_getD, List.getD_eq_getElem?_getD, List.getElem?_append_right (by omega), show a.length + i / 8 - a.length = i / 8 by omega]
theorem cov_app (a b m n : List UInt8) (hab : a.length = b.length) (h : covB (a ++ m) (b ++ n) = true) : covB a b = true ∧ covB m n = true := by
  obtain ⟨hl, hc⟩ := (covB_iff _ _).1 h
  rw [List.length_append, List.length_append] at hl
  refine ⟨(covB_iff _ _).2 ⟨hab, fun i hi => ?_⟩, (covB_iff _ _).2 ⟨by omega, fun i hi => ?_⟩⟩
  · have := hc i (by rw [List.length_append]; omega)
    rwa [bitAt_app_left b n i hi, bitAt_app_left a m i (by omega)] at this
  · have := hc (8 * b.length + i) (by rw [List.length_append]; omega)
    rw [bitAt_app_right] at this
    rw [← hab, bitAt_app_right] at this
    exact this
/-- Sealed bytes that cover sealed bytes are the same. -/
theorem seal_told (x y : List UInt8) (hx : x.length = 252) (hy : y.length = 252) (h : covB (sealB x) (sealB y) = true) : sealB x = sealB y := by
  obtain ⟨h1, h2⟩ := cov_app x y _ _ (hx.trans hy.symm) h
  rcases cov_count x y h1 with hlt | rfl
  · exfalso
    have h3 := numAt_le _ _ (cov_byte _ _ h2) 4 (by rw [beB_len]; omega)
    have e1 := numAt_back [] (zc x (8 * x.length)) 4
    have e2 := numAt_back [] (zc y (8 * y.length)) 4
    have z1 := zc_le x (8 * x.length)
    have z2 := zc_le y (8 * y.length)
    rw [List.nil_append, List.length_nil] at e1 e2
    rw [show ((0 : Nat) : Int) = 0 from rfl] at e1 e2
    rw [e1, e2, Nat.mod_eq_of_lt (by omega), Nat.mod_eq_of_lt (by omega)] at h3
    omega
  · rfl
/-- Whatever covers a page, and is a page, is that page. -/
theorem page_told (h : Hd) (d b : List UInt8) (hm : h.May) (hd : d.length = h.len.toNat) (hc : covB b (pageB h d) = true) (hr : rightB b = true) : b = pageB h d := by
  unfold rightB at hr
  rw [decide_eq_true_eq] at hr
  obtain ⟨hl, hm2, he⟩ := hr
  have hd2 := dataOf_len b hl hm2
  have b1 := hm.2.2.2.2.2.2.2.2.2.2
  have b2 := hm2.2.2.2.2.2.2.2.2.2.2
  rw [← he] at hc ⊢
  exact seal_told _ _ (bodyB_len _ _ (by omega)) (bodyB_len _ _ (by omega)) hc
theorem blank_iff (b : List UInt8) (hb : b.length = 256) : (zc b (8 * b.length) == 0) = decide (b = List.replicate 256 255) := by
  rw [Bool.eq_iff_iff, beq_iff_eq, decide_eq_true_eq, zc_blank]
  constructor
  · intro h
    refine List.ext_getElem (by rw [hb, List.length_replicate]) (fun j h1 h2 => ?_)
    have := h j h1
    rw [List.getD_eq_getElem?_getD, List.getElem?_eq_getElem h1] at this
    rw [List.getElem_replicate]
    exact this
  · rintro rfl j hj
    rw [List.length_replicate] at hj
    rw [List.getD_eq_getElem?_getD, List.getElem?_replicate, if_pos hj]
    rfl
end
section
open Go.RowKit

/-- Numbers of a kind as cells. -/
def nums (k : IntKind) (l : List Int) : List Value := l.map fun z => .int k z
theorem nums_len (k : IntKind) (l : List Int) : (nums k l).length = l.length := by simp [nums]
theorem nums_app (k : IntKind) (l m : List Int) : nums k (l ++ m) = nums k l ++ nums k m := by simp [nums]
theorem nums_at (k : IntKind) (l : List Int) (i : Nat) (h : i < l.length) : (nums k l)[i]? = some (.int k (l.getD i 0)) := by
  simp [nums, List.getD, List.getElem?_eq_getElem h]
theorem Lies.num {w : World} {B : Nat} {A : Option Addr} {k : IntKind} {l : List Int} {i : Nat} (h : Lies w B A (nums k l)) (hi : i < l.length) : ∃ a, A = some a ∧ a.block < B ∧ w.cell? (a.add i) = some (.int k (l.getD i 0)) := by
  obtain ⟨a, hA, hb, hc⟩ := h.at_ (k := i) (by rw [nums_len]; exact hi)
  refine ⟨a, hA, hb, hc.trans ?_⟩
  congr 1
  simp [nums, List.getD, List.getElem?_eq_getElem hi]

/-! ### tables -/
structure Tb where
  seq : Nat
  bad : List Int
  wear : List Int
  void : List Int
deriving DecidableEq
/-- A place of a list that rises, from 0 on, below b. -/
def okAt (b : Int) (l : List Int) (i : Nat) : Prop := 0 ≤ l.getD i 0 ∧ l.getD i 0 < b ∧ (0 < i → l.getD (i - 1) 0 < l.getD i 0)
def Rise (b : Int) (l : List Int) : Prop := ∀ i, i < l.length → okAt b l i
def Worn (l : List Int) : Prop := ∀ i, i < l.length → 0 ≤ l.getD i 0 ∧ l.getD i 0 ≤ 65535
instance (b : Int) (l : List Int) : Decidable (Rise b l) := by unfold Rise okAt; infer_instance
instance (l : List Int) : Decidable (Worn l) := by unfold Worn; infer_instance
def Tb.May (t : Tb) : Prop := t.seq < 2147483648 ∧ Rise 34 t.bad ∧ (Worn t.wear ∧ t.wear.length ≤ 34) ∧ t.void.length ≤ 36 ∧ Rise 2147483648 t.void
instance (t : Tb) : Decidable t.May := by unfold Tb.May; infer_instance

theorem rise_pair {b : Int} {l : List Int} (h : Rise b l) : l.Pairwise (· < ·) := by
  rw [List.pairwise_iff_getElem]
  have key : ∀ d i, (hi : i + d + 1 < l.length) → l.getD i 0 < l.getD (i + d + 1) 0 := by
    intro d
    induction d with
    | zero => intro i hi; have := (h (i + 0 + 1) hi).2.2 (by omega); rwa [show i + 0 + 1 - 1 = i by omega] at this
    | succ d ih =>
      intro i hi
      have h1 := ih i (by omega)
      have h2 := (h (i + (d + 1) + 1) hi).2.2 (by omega)
      rw [show i + (d + 1) + 1 - 1 = i + d + 1 by omega] at h2
      exact Int.lt_trans h1 h2
  intro i j hi hj hij
  have := key (j - i - 1) i (by omega)
  rw [show i + (j - i - 1) + 1 = j by omega] at this
  simpa [List.getD, List.getElem?_eq_getElem hi, List.getElem?_eq_getElem hj] using this
theorem rise_in {b : Int} {l : List Int} (h : Rise b l) : ∀ x ∈ l, 0 ≤ x ∧ x < b := by
  intro x hx
  obtain ⟨i, hi, rfl⟩ := List.getElem_of_mem hx
  have := h i hi
  unfold okAt at this
  simp [List.getD, List.getElem?_eq_getElem hi] at this
  exact ⟨this.1, this.2.1⟩
/-- Numbers that rise are as many as their bound at most. -/
theorem rise_len {b : Nat} {l : List Int} (h : Rise (b : Int) l) : l.length ≤ b := by
  have key : ∀ i, i < l.length → (i : Int) ≤ l.getD i 0 := by
    intro i
    induction i with
    | zero => intro hi; exact (h 0 hi).1
    | succ i ih =>
      intro hi
      have h1 := ih (by omega)
      have h2 := (h (i + 1) hi).2.2 (by omega)
      rw [show i + 1 - 1 = i by omega] at h2
      omega
  rcases Nat.eq_zero_or_pos l.length with h0 | h0
  · omega
  · have h1 := key (l.length - 1) (by omega)
    have h2 := (h (l.length - 1) (by omega)).2.1
    omega

/-! ### marks -/
/-- The bits of which p speaks, as a number. -/
def mk8 (p : Nat → Bool) : Nat → Nat
  | 0 => 0
  | k + 1 => mk8 p k + if p k = true then 2 ^ k else 0
theorem mk8_lt (p : Nat → Bool) : ∀ k, mk8 p k < 2 ^ k
  | 0 => by simp [mk8]
  | k + 1 => by
    have := mk8_lt p k
    rw [mk8, Nat.pow_succ]
    split <;> omega
theorem mk8_congr {p q : Nat → Bool} : ∀ k, (∀ j, j < k → p j = q j) → mk8 p k = mk8 q k
  | 0, _ => rfl
  | k + 1, h => by rw [mk8, mk8, mk8_congr k (fun j hj => h j (by omega)), h k (by omega)]
theorem mk8_bit (p : Nat → Bool) (n k : Nat) (hk : k < n) : mk8 p n / 2 ^ k % 2 = if p k = true then 1 else 0 := by
  induction n with
  | zero => omega
  | succ n ih =>
    rw [mk8]
    by_cases h : k = n
    · subst h
      have := mk8_lt p k
      split
      · rw [Nat.add_div_right _ (Nat.two_pow_pos k), Nat.div_eq_of_lt this]
      · rw [Nat.add_zero, Nat.div_eq_of_lt this]
    · have ih := ih (by omega)
      split
      · rw [← ih]
        obtain ⟨d, rfl⟩ : ∃ d, n = k + 1 + d := ⟨n - k - 1, by omega⟩
        rw [show 2 ^ (k + 1 + d) = 2 ^ k * (2 * 2 ^ d) by rw [Nat.pow_add, Nat.pow_succ, Nat.mul_assoc], Nat.add_mul_div_left _ _ (Nat.two_pow_pos k), Nat.add_mul_mod_self_left]
      · exact ih
theorem mk8_or (p : Nat → Bool) (n k : Nat) (hk : k < n) : mk8 (fun j => p j || j == k) n = mk8 p n ||| 2 ^ k := by
  have hlt : (mk8 p n ||| 2 ^ k) < 2 ^ n := Nat.or_lt_two_pow (mk8_lt p n) (Nat.pow_lt_pow_right (by decide) hk)
  apply Nat.eq_of_testBit_eq
  intro i
  have tb : ∀ q : Nat → Bool, (mk8 q n).testBit i = (decide (i < n) && q i) := by
    intro q
    by_cases hi : i < n
    · have := mk8_bit q n i hi
      rw [Nat.testBit_eq_decide_div_mod_eq, this, decide_eq_true hi]
      cases q i <;> simp
    · rw [Nat.testBit_lt_two_pow (Nat.lt_of_lt_of_le (mk8_lt q n) (Nat.pow_le_pow_right (by decide) (by omega))), decide_eq_false hi]
      rfl
  rw [Nat.testBit_or, tb, tb, Nat.testBit_two_pow]
  by_cases hi : i < n
  · rw [decide_eq_true hi]
    by_cases hik : i = k
    · simp [hik]
    · simp [hik, Ne.symm hik]
  · rw [decide_eq_false hi]
    have : ¬ k = i := by omega
    simp [this]
/-- The byte i of marks. -/
def mkN (l : List Int) (i : Nat) : Nat := mk8 (fun k => decide (((8 * i + k : Nat) : Int) ∈ l)) 8
theorem mkN_lt (l : List Int) (i : Nat) : mkN l i < 256 := mk8_lt _ 8
theorem mkN_nil (i : Nat) : mkN [] i = 0 := by
  unfold mkN
  rw [mk8_congr (q := fun _ => false) 8 (fun j _ => by simp)]
  rfl
theorem mkN_snoc (l : List Int) (b i : Nat) : mkN (l ++ [(b : Int)]) i = if i = b / 8 then mkN l i ||| 2 ^ (b % 8) else mkN l i := by
  unfold mkN
  by_cases h : i = b / 8
  · rw [if_pos h, ← mk8_or _ 8 (b % 8) (by omega)]
    refine mk8_congr 8 (fun j hj => ?_)
    have : (((8 * i + j : Nat) : Int) = (b : Int)) ↔ j = b % 8 := by omega
    by_cases hj2 : j = b % 8
    · simp [hj2, h]; omega
    · have h3 : ¬ ((8 * i + j : Nat) : Int) = (b : Int) := fun h => hj2 (this.1 h)
      simp only [List.mem_append, List.mem_singleton, h3, or_false]
      simp [hj2]
  · rw [if_neg h]
    refine mk8_congr 8 (fun j hj => ?_)
    have h3 : ¬ ((8 * i + j : Nat) : Int) = (b : Int) := by omega
    simp only [List.mem_append, List.mem_singleton, h3, or_false]
theorem mkN_bit (l : List Int) (b : Nat) : mkN l (b / 8) / 2 ^ (b % 8) % 2 = if (b : Int) ∈ l then 1 else 0 := by
  unfold mkN
  rw [mk8_bit _ 8 (b % 8) (by omega), show 8 * (b / 8) + b % 8 = b by omega]
  simp

/-! ### bytes of a table -/
/-- Numbers of one width, one behind the other. -/
def seqB (k : Nat) (f : Nat → Nat) (n : Nat) : List UInt8 := (List.range n).flatMap fun i => beB k (f i)
theorem seqB_zero (k : Nat) (f : Nat → Nat) : seqB k f 0 = [] := rfl
theorem seqB_succ (k : Nat) (f : Nat → Nat) (n : Nat) : seqB k f (n + 1) = seqB k f n ++ beB k (f n) := by
  simp [seqB, List.range_succ, List.flatMap_append]
theorem seqB_len (k : Nat) (f : Nat → Nat) (n : Nat) : (seqB k f n).length = k * n := by
  induction n with
  | zero => rfl
  | succ n ih => rw [seqB_succ, List.length_append, ih, beB_len, Nat.mul_succ]
def Tb.data (t : Tb) : List UInt8 := seqB 1 (mkN t.bad) 5 ++ seqB 2 (fun b => (t.wear.getD b 0).toNat) 34 ++ beB 1 t.void.length ++ seqB 4 (fun i => (t.void.getD i 0).toNat) t.void.length
theorem Tb.data_len (t : Tb) : t.data.length = 74 + 4 * t.void.length := by
  simp only [Tb.data, List.length_append, seqB_len, beB_len]
def Tb.hd (t : Tb) : Hd := ⟨1, 0, 1, t.seq, 0, (t.wear.length : Int), (t.data.length : Int)⟩
def Tb.page (t : Tb) : List UInt8 := pageB t.hd t.data
theorem Tb.hd_may {t : Tb} (h : t.May) : t.hd.May := by
  obtain ⟨h1, _, ⟨_, h3⟩, h4, _⟩ := h
  have := t.data_len
  unfold Tb.hd Hd.May
  simp only
  omega

/-! ### what is read of data -/
def rd (k : Nat) (l : List UInt8) : Nat × List UInt8 := if k ≤ l.length then (numAt l 0 k, l.drop k) else (0, [])
def rds (k : Nat) : Nat → List UInt8 → List Nat × List UInt8
  | 0, l => ([], l)
  | n + 1, l => ((rds k n l).1 ++ [(rd k (rds k n l).2).1], (rd k (rds k n l).2).2)
theorem rds_len (k n : Nat) (l : List UInt8) : (rds k n l).1.length = n := by
  induction n with
  | zero => rfl
  | succ n ih => rw [rds, List.length_append, ih]; rfl
theorem rd_lt (k : Nat) (l : List UInt8) : (rd k l).1 < 256 ^ k := by
  unfold rd; split
  · exact numAt_lt _ _ _
  · exact Nat.pow_pos (by decide)
theorem rds_lt (k : Nat) (l : List UInt8) : ∀ n, ∀ x ∈ (rds k n l).1, x < 256 ^ k := by
  intro n
  induction n with
  | zero => intro x hx; simp [rds] at hx
  | succ n ih =>
    intro x hx
    rw [rds, List.mem_append, List.mem_singleton] at hx
    rcases hx with hx | rfl
    · exact ih x hx
    · exact rd_lt _ _
theorem rd_back (k n : Nat) (r : List UInt8) (h : n < 256 ^ k) : rd k (beB k n ++ r) = (n, r) := by
  unfold rd
  rw [if_pos (by rw [List.length_append, beB_len]; omega), List.drop_append_of_le_length (by rw [beB_len]; omega), List.drop_of_length_le (by rw [beB_len]; omega), List.nil_append]
  have := numAt_mid [] r n k 0 rfl h
  rw [List.nil_append] at this
  rw [this]
theorem rds_back (k : Nat) (f : Nat → Nat) : ∀ (n : Nat) (r : List UInt8), (∀ i, i < n → f i < 256 ^ k) → rds k n (seqB k f n ++ r) = ((List.range n).map f, r)
  | 0, r, _ => by simp [rds, seqB]
  | n + 1, r, h => by
    rw [rds, seqB_succ, List.append_assoc, rds_back k f n _ (fun i hi => h i (by omega)), rd_back k _ _ (h n (by omega)), List.range_succ, List.map_append]
    rfl
def ints (l : List Nat) : List Int := l.map fun (n : Nat) => (n : Int)
/-- What marks say of the first n blocks. -/
def badsOf (m : List Nat) (n : Nat) : List Int := ints ((List.range n).filter fun b => decide (m.getD (b / 8) 0 / 2 ^ (b % 8) % 2 = 1))
theorem badsOf_succ (m : List Nat) (n : Nat) : badsOf m (n + 1) = badsOf m n ++ if m.getD (n / 8) 0 / 2 ^ (n % 8) % 2 = 1 then [(n : Int)] else [] := by
  unfold badsOf ints
  rw [List.range_succ, List.filter_append, List.map_append]
  by_cases h : m.getD (n / 8) 0 / 2 ^ (n % 8) % 2 = 1
  · rw [if_pos h, List.filter_cons_of_pos (by simpa using h)]; rfl
  · rw [if_neg h, List.filter_cons_of_neg (by simpa using h)]; rfl
def readT (h : Hd) (d : List UInt8) : Tb :=
  ⟨h.batch, badsOf (rds 1 5 d).1 34, ints ((rds 2 34 (rds 1 5 d).2).1.take h.lpn.toNat),
    ints (rds 4 (rd 1 (rds 2 34 (rds 1 5 d).2).2).1 (rd 1 (rds 2 34 (rds 1 5 d).2).2).2).1⟩

theorem bads_back (l : List Int) : ∀ (n lo : Nat), l.Pairwise (· < ·) → (∀ x ∈ l, (lo : Int) ≤ x ∧ x < ((lo + n : Nat) : Int)) → ints ((List.range' lo n).filter fun (b : Nat) => decide ((b : Int) ∈ l)) = l := by
  intro n
  induction n generalizing l with
  | zero =>
    intro lo _ h
    match l with
    | [] => rfl
    | x :: r => have := h x (by simp); omega
  | succ n ih =>
    intro lo hp h
    rw [List.range'_succ]
    by_cases hm : (lo : Int) ∈ l
    · match l, hp, h, hm with
      | x :: r, hp, h, hm =>
        have hx : x = (lo : Int) := by
          rcases List.mem_cons.1 hm with h1 | h1
          · exact h1.symm
          · have h2 := (List.pairwise_cons.1 hp).1 _ h1
            have h3 := (h x (by simp)).1
            omega
        subst hx
        rw [List.filter_cons_of_pos (by simp)]
        have hr := ih r (lo + 1) (List.pairwise_cons.1 hp).2 (fun y hy => by
          have h2 := (List.pairwise_cons.1 hp).1 y hy
          have h3 := (h y (by simp [hy])).2
          omega)
        rw [show (List.range' (lo + 1) n).filter (fun (b : Nat) => decide ((b : Int) ∈ (lo : Int) :: r)) = (List.range' (lo + 1) n).filter (fun (b : Nat) => decide ((b : Int) ∈ r)) from ?_]
        · show (lo : Int) :: ints _ = _
          rw [hr]
        · apply List.filter_congr
          intro b hb
          have := (List.mem_range'_1.1 hb).1
          have h4 : ¬ (b : Int) = (lo : Int) := by omega
          simp [h4]
    · rw [List.filter_cons_of_neg (by simpa using hm)]
      refine ih l (lo + 1) hp (fun y hy => ?_)
      have h2 := h y hy
      have h3 : y ≠ (lo : Int) := fun he => hm (he ▸ hy)
      omega
theorem wear_back (l : List Int) (n : Nat) (hn : l.length ≤ n) (h : ∀ i, i < l.length → 0 ≤ l.getD i 0) : ints (((List.range n).map fun b => (l.getD b 0).toNat).take l.length) = l := by
  apply List.ext_getElem
  · simp [ints]; omega
  · intro i h1 h2
    have := h i h2
    simp [List.getD, List.getElem?_eq_getElem h2] at this
    simp [ints, List.getElem?_eq_getElem h2]
    omega
theorem read_back {t : Tb} (hm : t.May) : readT t.hd t.data = t := by
  obtain ⟨h1, h2, ⟨h3, h4⟩, h5, h6⟩ := hm
  have hw : ∀ i, (t.wear.getD i 0).toNat < 256 ^ 2 := by
    intro i
    by_cases hi : i < t.wear.length
    · have := h3 i hi; omega
    · simp [List.getD, List.getElem?_eq_none (show t.wear.length ≤ i by omega)]
  have hv : ∀ i, (t.void.getD i 0).toNat < 256 ^ 4 := by
    intro i
    by_cases hi : i < t.void.length
    · have := h6 i hi; unfold okAt at this; omega
    · simp [List.getD, List.getElem?_eq_none (show t.void.length ≤ i by omega)]
  have e1 : rds 1 5 t.data = ((List.range 5).map (mkN t.bad), seqB 2 (fun b => (t.wear.getD b 0).toNat) 34 ++ (beB 1 t.void.length ++ seqB 4 (fun i => (t.void.getD i 0).toNat) t.void.length)) := by
    rw [Tb.data, List.append_assoc, List.append_assoc]
    exact rds_back 1 _ 5 _ (fun i _ => mkN_lt _ _)
  have e2 := rds_back 2 (fun b => (t.wear.getD b 0).toNat) 34 (beB 1 t.void.length ++ seqB 4 (fun i => (t.void.getD i 0).toNat) t.void.length) (fun i _ => hw i)
  have e3 := rd_back 1 t.void.length (seqB 4 (fun i => (t.void.getD i 0).toNat) t.void.length) (by omega)
  have e4 := rds_back 4 (fun i => (t.void.getD i 0).toNat) t.void.length [] (fun i _ => hv i)
  rw [List.append_nil] at e4
  unfold readT
  rw [e1]
  simp only
  rw [e2]
  simp only
  rw [e3]
  simp only
  rw [e4]
  have b1 : badsOf ((List.range 5).map (mkN t.bad)) 34 = t.bad := by
    unfold badsOf
    rw [show (List.range 34).filter (fun b => decide (((List.range 5).map (mkN t.bad)).getD (b / 8) 0 / 2 ^ (b % 8) % 2 = 1)) = (List.range' 0 34).filter (fun (b : Nat) => decide ((b : Int) ∈ t.bad)) from ?_]
    · exact bads_back t.bad 34 0 (rise_pair h2) (fun x hx => by have := rise_in h2 x hx; omega)
    · rw [← List.range_eq_range']
      apply List.filter_congr
      intro b hb
      have hb := List.mem_range.1 hb
      have : ((List.range 5).map (mkN t.bad)).getD (b / 8) 0 = mkN t.bad (b / 8) := by
        simp [List.getD, show b / 8 < 5 by omega]
      rw [this, mkN_bit]
      by_cases hq : (b : Int) ∈ t.bad <;> simp [hq]
  have b2 := wear_back t.wear 34 h4 (fun i hi => (h3 i hi).1)
  have b3 := wear_back t.void t.void.length (Nat.le_refl _) (fun i hi => (h6 i hi).1)
  rw [List.take_of_length_le (by simp)] at b3
  rw [b1, b3]
  show Tb.mk t.seq t.bad (ints (((List.range 34).map fun b => (t.wear.getD b 0).toNat).take ((t.wear.length : Int)).toNat)) t.void = t
  rw [Int.toNat_natCast, b2]
end
end Go.Proofs.YtigpplckddnghaaGreat
