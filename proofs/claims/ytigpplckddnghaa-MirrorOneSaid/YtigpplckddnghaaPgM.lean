/-
  PAGES AS BYTES, plain mathematics: heads, the bytes of a page, what is read of them; whatever covers a page, and is another one, is none.
-/
import Derived.Test.YtigpplckddnghaaGet
import Derived.Test.YtigpplckddnghaaBits
namespace Go.Proofs.Ytigpplckddnghaa

/-- A head. -/
structure Hd where
  kind : Int
  index : Int
  count : Int
  batch : Nat
  opn : Nat
  lpn : Int
  len : Int
deriving DecidableEq
def Hd.May (h : Hd) : Prop := 1 ≤ h.kind ∧ h.kind ≤ 5 ∧ 1 ≤ h.count ∧ h.count ≤ 16 ∧ 0 ≤ h.index ∧ h.index < h.count ∧ h.batch < 2147483648 ∧ h.opn < 2147483648 ∧ 0 ≤ h.lpn ∧ h.lpn ≤ 65535 ∧ 0 ≤ h.len ∧ h.len ≤ 228
instance (h : Hd) : Decidable h.May := by unfold Hd.May; infer_instance

/-- The first 24 bytes of a page. -/
def hdB (h : Hd) : List UInt8 := beB 1 h.kind.toNat ++ beB 1 h.index.toNat ++ beB 1 h.count.toNat ++ beB 1 0 ++ beB 8 h.batch ++ beB 8 h.opn ++ beB 2 h.lpn.toNat ++ beB 2 h.len.toNat
theorem hdB_len (h : Hd) : (hdB h).length = 24 := by simp [hdB, beB_len]
def bodyB (h : Hd) (d : List UInt8) : List UInt8 := hdB h ++ d ++ List.replicate (228 - d.length) 255
theorem bodyB_len (h : Hd) (d : List UInt8) (hd : d.length ≤ 228) : (bodyB h d).length = 252 := by
  simp only [bodyB, List.length_append, hdB_len, List.length_replicate]; omega
/-- Bytes, and behind them how many of their bits are 0. -/
def sealB (l : List UInt8) : List UInt8 := l ++ beB 4 (zc l (8 * l.length))
theorem sealB_len (l : List UInt8) : (sealB l).length = l.length + 4 := by simp [sealB, beB_len]
def pageB (h : Hd) (d : List UInt8) : List UInt8 := sealB (bodyB h d)
theorem pageB_len (h : Hd) (d : List UInt8) (hd : d.length ≤ 228) : (pageB h d).length = 256 := by
  rw [pageB, sealB_len, bodyB_len h d hd]

/-- The head that stands in bytes, whether it may be or not. -/
def headOf (b : List UInt8) : Hd := ⟨(numAt b 0 1 : Nat), (numAt b 1 1 : Nat), (numAt b 2 1 : Nat), numAt b 4 8, numAt b 12 8, (numAt b 20 2 : Nat), (numAt b 22 2 : Nat)⟩
def dataOf (b : List UInt8) : List UInt8 := (b.drop 24).take (headOf b).len.toNat
/-- Are bytes a page's? -/
def rightB (b : List UInt8) : Bool := decide (b.length = 256 ∧ (headOf b).May ∧ pageB (headOf b) (dataOf b) = b)
/-- The class of bytes. -/
def classN (b : List UInt8) : Nat := if b = List.replicate 256 255 then 0 else if rightB b = true then 1 else 2

theorem dataOf_len (b : List UInt8) (hb : b.length = 256) (hm : (headOf b).May) : (dataOf b).length = (headOf b).len.toNat := by
  obtain ⟨_, _, _, _, _, _, _, _, _, _, h1, h2⟩ := hm
  unfold dataOf
  rw [List.length_take, List.length_drop, hb]
  omega
theorem numAt_mid (a m : List UInt8) (n k : Nat) (p : Int) (hp : p = (a.length : Int)) (hn : n < 256 ^ k) : numAt (a ++ (beB k n ++ m)) p k = n := by
  rw [hp, ← List.append_assoc, numAt_beB a m n k k (Nat.le_refl _), Nat.sub_self, Nat.pow_zero, Nat.div_one, Nat.mod_eq_of_lt hn]
theorem head_back (h : Hd) (m : List UInt8) (hm : h.May) : headOf (hdB h ++ m) = h := by
  obtain ⟨h1, h2, h3, h4, h5, h6, h7, h8, h9, h10, h11, h12⟩ := hm
  rcases h with ⟨kd, ix, ct, bt, op, lp, ln⟩
  simp only at *
  have n0 := numAt_mid [] (beB 1 ix.toNat ++ (beB 1 ct.toNat ++ (beB 1 0 ++ (beB 8 bt ++ (beB 8 op ++ (beB 2 lp.toNat ++ (beB 2 ln.toNat ++ m))))))) kd.toNat 1 0 rfl (by omega)
  have n1 := numAt_mid (beB 1 kd.toNat) (beB 1 ct.toNat ++ (beB 1 0 ++ (beB 8 bt ++ (beB 8 op ++ (beB 2 lp.toNat ++ (beB 2 ln.toNat ++ m)))))) ix.toNat 1 1 (by simp [beB_len]) (by omega)
  have n2 := numAt_mid (beB 1 kd.toNat ++ beB 1 ix.toNat) (beB 1 0 ++ (beB 8 bt ++ (beB 8 op ++ (beB 2 lp.toNat ++ (beB 2 ln.toNat ++ m))))) ct.toNat 1 2 (by simp [beB_len]) (by omega)
  have n4 := numAt_mid (beB 1 kd.toNat ++ beB 1 ix.toNat ++ beB 1 ct.toNat ++ beB 1 0) (beB 8 op ++ (beB 2 lp.toNat ++ (beB 2 ln.toNat ++ m))) bt 8 4 (by simp [beB_len]) (by omega)
  have n12 := numAt_mid (beB 1 kd.toNat ++ beB 1 ix.toNat ++ beB 1 ct.toNat ++ beB 1 0 ++ beB 8 bt) (beB 2 lp.toNat ++ (beB 2 ln.toNat ++ m)) op 8 12 (by simp [beB_len]) (by omega)
  have n20 := numAt_mid (beB 1 kd.toNat ++ beB 1 ix.toNat ++ beB 1 ct.toNat ++ beB 1 0 ++ beB 8 bt ++ beB 8 op) (beB 2 ln.toNat ++ m) lp.toNat 2 20 (by simp [beB_len]) (by omega)
  have n22 := numAt_mid (beB 1 kd.toNat ++ beB 1 ix.toNat ++ beB 1 ct.toNat ++ beB 1 0 ++ beB 8 bt ++ beB 8 op ++ beB 2 lp.toNat) m ln.toNat 2 22 (by simp [beB_len]) (by omega)
  simp only [List.nil_append, List.append_assoc] at n0 n1 n2 n4 n12 n20 n22
  simp only [headOf, hdB, List.append_assoc, n0, n1, n2, n4, n12, n20, n22]
  congr 1 <;> omega
theorem page_back (h : Hd) (d : List UInt8) (hm : h.May) (hd : d.length = h.len.toNat) : headOf (pageB h d) = h ∧ dataOf (pageB h d) = d := by
  have e : pageB h d = hdB h ++ (d ++ (List.replicate (228 - d.length) 255 ++ beB 4 (zc (bodyB h d) (8 * (bodyB h d).length)))) := by
    simp only [pageB, sealB]
    conv => lhs; unfold bodyB
    simp only [List.append_assoc]
    rfl
  have e1 : headOf (pageB h d) = h := by rw [e]; exact head_back h _ hm
  refine ⟨e1, ?_⟩
  unfold dataOf
  rw [e1, e, List.drop_append_of_le_length (by rw [hdB_len]; omega), List.drop_of_length_le (by rw [hdB_len]; omega), List.nil_append, ← hd, List.take_left]
theorem page_right (h : Hd) (d : List UInt8) (hm : h.May) (hd : d.length = h.len.toNat) : rightB (pageB h d) = true := by
  obtain ⟨e1, e2⟩ := page_back h d hm hd
  unfold rightB
  rw [decide_eq_true_eq, e1, e2]
  exact ⟨pageB_len h d (by have := hm.2.2.2.2.2.2.2.2.2.2; omega), hm, rfl⟩
theorem numAt_one (b : List UInt8) : numAt b 0 1 = (b.getD 0 0).toNat := by
  simp [numAt, byteAt]
theorem right_not_blank (b : List UInt8) (h : rightB b = true) : b ≠ List.replicate 256 255 := by
  rintro rfl
  unfold rightB at h
  rw [decide_eq_true_eq] at h
  have h2 := h.2.1.2.1
  have e : (headOf (List.replicate 256 255)).kind = 255 := by
    show ((numAt (List.replicate 256 255) 0 1 : Nat) : Int) = 255
    rw [numAt_one]
    rfl
  rw [e] at h2
  omega
theorem class_page (h : Hd) (d : List UInt8) (hm : h.May) (hd : d.length = h.len.toNat) : classN (pageB h d) = 1 := by
  have hr := page_right h d hm hd
  unfold classN
  rw [if_neg (right_not_blank _ hr), if_pos hr]
theorem class_one (b : List UInt8) : classN b = 1 ↔ rightB b = true := by
  unfold classN
  constructor
  · intro h
    split at h
    · cases h
    · split at h
      · assumption
      · cases h
  · intro h
    rw [if_neg (right_not_blank b h), if_pos h]
theorem class_le (b : List UInt8) : classN b ≤ 2 := by
  unfold classN
  split
  · exact Nat.zero_le _
  · split
    · exact Nat.le_succ _
    · exact Nat.le_refl _

/-! ### what is torn -/
theorem bits_le (x y : Nat) (h : ∀ k, k < 8 → bitN x k ≤ bitN y k) (hx : x < 256) : x ≤ y := by
  have : x &&& y = x := by
    apply Nat.eq_of_testBit_eq
    intro k
    rw [Nat.testBit_and]
    by_cases hk : k < 8
    · have h1 := h k hk
      rw [bitN_toNat, bitN_toNat] at h1
      cases hx1 : x.testBit k
      · rfl
      · cases hy1 : y.testBit k
        · rw [hx1, hy1] at h1; exact absurd h1 (by decide)
        · rfl
    · rw [Nat.testBit_lt_two_pow (Nat.lt_of_lt_of_le hx (Nat.pow_le_pow_right (n := 2) (by decide) (show 8 ≤ k by omega)))]
      rfl
  rw [← this]
  exact Nat.and_le_right
theorem cov_byte (a b : List UInt8) (h : covB a b = true) (j : Nat) (hj : j < b.length) : (b.getD j 0).toNat ≤ (a.getD j 0).toNat := by
  obtain ⟨hl, hc⟩ := (covB_iff a b).1 h
  refine bits_le _ _ (fun k hk => ?_) (UInt8.toNat_lt _)
  have := hc (8 * j + k) (by omega)
  rwa [bitAt_of _ _ _ hk, bitAt_of _ _ _ hk] at this
theorem numAt_le (a b : List UInt8) (h : ∀ j, j < b.length → (b.getD j 0).toNat ≤ (a.getD j 0).toNat) : ∀ w, w ≤ b.length → numAt b 0 w ≤ numAt a 0 w
  | 0, _ => Nat.le_refl _
  | w + 1, hw => by
    have h1 := numAt_le a b h w (by omega)
    have h2 := h w (by omega)
    rw [numAt, numAt, Int.zero_add, byteAt_nat, byteAt_nat]
    omega
theorem bitAt_app_left (a m : List UInt8) (i : Nat) (hi : i < 8 * a.length) : bitAt (a ++ m) i = bitAt a i := by
  unfold bitAt
  rw [List.getD_eq_getElem?_getD, List.getD_eq_getElem?_getD, List.getElem?_append_left (by omega)]
theorem bitAt_app_right (a m : List UInt8) (i : Nat) : bitAt (a ++ m) (8 * a.length + i) = bitAt m i := by
  unfold bitAt
  rw [show (8 * a.length + i) / 8 = a.length + i / 8 by omega, show (8 * a.length + i) % 8 = i % 8 by omega, List.getD_eq_getElem?_getD, List.getD_eq_getElem?_getD, List.getElem?_append_right (by omega), show a.length + i / 8 - a.length = i / 8 by omega]
theorem cov_app (a b m n : List UInt8) (hab : a.length = b.length) (h : covB (a ++ m) (b ++ n) = true) : covB a b = true ∧ covB m n = true := by
  obtain ⟨hl, hc⟩ := (covB_iff _ _).1 h
  rw [List.length_append, List.length_append] at hl
  refine ⟨(covB_iff _ _).2 ⟨hab, fun i hi => ?_⟩, (covB_iff _ _).2 ⟨by omega, fun i hi => ?_⟩⟩
  · have := hc i (by rw [List.length_append]; omega)
    rwa [bitAt_app_left b n i hi, bitAt_app_left a m i (by omega)] at this
  · have := hc (8 * b.length + i) (by rw [List.length_append]; omega)
    rw [bitAt_app_right] at this
    rw [← hab, bitAt_app_right] at this
    exact this
/-- Sealed bytes that cover sealed bytes are the same. -/
theorem seal_told (x y : List UInt8) (hx : x.length = 252) (hy : y.length = 252) (h : covB (sealB x) (sealB y) = true) : sealB x = sealB y := by
  obtain ⟨h1, h2⟩ := cov_app x y _ _ (hx.trans hy.symm) h
  rcases cov_count x y h1 with hlt | rfl
  · exfalso
    have h3 := numAt_le _ _ (cov_byte _ _ h2) 4 (by rw [beB_len]; omega)
    have e1 := numAt_back [] (zc x (8 * x.length)) 4
    have e2 := numAt_back [] (zc y (8 * y.length)) 4
    have z1 := zc_le x (8 * x.length)
    have z2 := zc_le y (8 * y.length)
    rw [List.nil_append, List.length_nil] at e1 e2
    rw [show ((0 : Nat) : Int) = 0 from rfl] at e1 e2
    rw [e1, e2, Nat.mod_eq_of_lt (by omega), Nat.mod_eq_of_lt (by omega)] at h3
    omega
  · rfl
/-- Whatever covers a page, and is a page, is that page. -/
theorem page_told (h : Hd) (d b : List UInt8) (hm : h.May) (hd : d.length = h.len.toNat) (hc : covB b (pageB h d) = true) (hr : rightB b = true) : b = pageB h d := by
  unfold rightB at hr
  rw [decide_eq_true_eq] at hr
  obtain ⟨hl, hm2, he⟩ := hr
  have hd2 := dataOf_len b hl hm2
  have b1 := hm.2.2.2.2.2.2.2.2.2.2
  have b2 := hm2.2.2.2.2.2.2.2.2.2.2
  rw [← he] at hc ⊢
  exact seal_told _ _ (bodyB_len _ _ (by omega)) (bodyB_len _ _ (by omega)) hc
theorem blank_iff (b : List UInt8) (hb : b.length = 256) : (zc b (8 * b.length) == 0) = decide (b = List.replicate 256 255) := by
  rw [Bool.eq_iff_iff, beq_iff_eq, decide_eq_true_eq, zc_blank]
  constructor
  · intro h
    refine List.ext_getElem (by rw [hb, List.length_replicate]) (fun j h1 h2 => ?_)
    have := h j h1
    rw [List.getD_eq_getElem?_getD, List.getElem?_eq_getElem h1] at this
    rw [List.getElem_replicate]
    exact this
  · rintro rfl j hj
    rw [List.length_replicate] at hj
    rw [List.getD_eq_getElem?_getD, List.getElem?_replicate, if_pos hj]
    rfl
end Go.Proofs.Ytigpplckddnghaa
