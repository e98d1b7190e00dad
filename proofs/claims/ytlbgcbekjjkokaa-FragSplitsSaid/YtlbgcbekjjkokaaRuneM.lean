/-
  TEXTS, RUNE BY RUNE, AS PLAIN MATHEMATICS: what a text begins with, its runes as pieces, and how the model's own decoding tells the same. Nothing here runs a program.
-/
import Derived.Test.YtlbgcbekjjkokaaWords
import Derived.Laws.RangeAny
import Derived.Lib.RuneBytes
import Derived.Lib.Strings
namespace Go.Proofs.Ytlbgcbekjjkokaa
open Go.RowKit

/-- Byte k of a text, as a number; beyond the end 0. -/
def bt (l : List UInt8) (k : Nat) : Nat := (l.getD k 0).toNat
theorem bt_lt (l : List UInt8) (k : Nat) : bt l k < 256 := (l.getD k 0).toNat_lt

def v2 (b0 b1 : Nat) : Nat := 64 * (b0 - 192) + (b1 - 128)
def v3 (b0 b1 b2 : Nat) : Nat := 4096 * (b0 - 224) + 64 * (b1 - 128) + (b2 - 128)
def v4 (b0 b1 b2 b3 : Nat) : Nat := 262144 * (b0 - 240) + 4096 * (b1 - 128) + 64 * (b2 - 128) + (b3 - 128)
def inr (b : Nat) : Prop := 128 ≤ b ∧ b < 192
instance (b : Nat) : Decidable (inr b) := inferInstanceAs (Decidable (_ ∧ _))

/-- How many bytes the rune has that n bytes begin with, of which these are the first; 0: they begin with none. -/
def szN (n b0 b1 b2 b3 : Nat) : Nat :=
  if b0 < 128 then 1
  else if 192 ≤ b0 ∧ b0 < 224 then (if 2 ≤ n ∧ inr b1 ∧ 128 ≤ v2 b0 b1 then 2 else 0)
  else if 224 ≤ b0 ∧ b0 < 240 then (if 3 ≤ n ∧ inr b1 ∧ inr b2 ∧ 2048 ≤ v3 b0 b1 b2 ∧ (v3 b0 b1 b2 < 55296 ∨ 57344 ≤ v3 b0 b1 b2) then 3 else 0)
  else if 240 ≤ b0 ∧ b0 < 248 then (if 4 ≤ n ∧ inr b1 ∧ inr b2 ∧ inr b3 ∧ 65536 ≤ v4 b0 b1 b2 b3 ∧ v4 b0 b1 b2 b3 ≤ 1114111 then 4 else 0)
  else 0
/-- A rune's number, by its bytes; 65533 where there is none. -/
def vaN (n b0 b1 b2 b3 : Nat) : Nat :=
  if szN n b0 b1 b2 b3 = 1 then b0 else if szN n b0 b1 b2 b3 = 2 then v2 b0 b1 else if szN n b0 b1 b2 b3 = 3 then v3 b0 b1 b2 else if szN n b0 b1 b2 b3 = 4 then v4 b0 b1 b2 b3 else 65533

def sz (l : List UInt8) : Nat := szN l.length (bt l 0) (bt l 1) (bt l 2) (bt l 3)
def va (l : List UInt8) : Nat := vaN l.length (bt l 0) (bt l 1) (bt l 2) (bt l 3)
/-- A rune's number; below 0: it is none. -/
def val (l : List UInt8) : Int := if sz l = 0 then -1 else (va l : Int)
/-- So many bytes are taken at once. -/
def wd (l : List UInt8) : Nat := if sz l = 0 then 1 else sz l

theorem szN_le (n b0 b1 b2 b3 : Nat) : szN n b0 b1 b2 b3 ≤ 4 := by
  unfold szN
  repeat' split
  all_goals omega

/-- The model's decoding, by the first bytes. -/
def dcN (n b0 b1 b2 b3 : Nat) : Nat × Nat :=
  if b0 < 128 then (b0, 1)
  else if b0 / 32 = 6 ∧ (1 < n ∧ b1 / 64 = 2) then (if b0 % 32 * 64 + b1 % 64 ≥ 128 then (b0 % 32 * 64 + b1 % 64, 2) else (65533, 1))
  else if b0 / 16 = 14 ∧ (1 < n ∧ b1 / 64 = 2) ∧ (2 < n ∧ b2 / 64 = 2) then
    (if b0 % 16 * 4096 + b1 % 64 * 64 + b2 % 64 ≥ 2048 ∧ (b0 % 16 * 4096 + b1 % 64 * 64 + b2 % 64 < 55296 ∨ 57344 ≤ b0 % 16 * 4096 + b1 % 64 * 64 + b2 % 64 ∧ b0 % 16 * 4096 + b1 % 64 * 64 + b2 % 64 ≤ 1114111) then (b0 % 16 * 4096 + b1 % 64 * 64 + b2 % 64, 3) else (65533, 1))
  else if b0 / 8 = 30 ∧ (1 < n ∧ b1 / 64 = 2) ∧ (2 < n ∧ b2 / 64 = 2) ∧ (3 < n ∧ b3 / 64 = 2) then
    (if b0 % 8 * 262144 + b1 % 64 * 4096 + b2 % 64 * 64 + b3 % 64 ≥ 65536 ∧ (b0 % 8 * 262144 + b1 % 64 * 4096 + b2 % 64 * 64 + b3 % 64 < 55296 ∨ 57344 ≤ b0 % 8 * 262144 + b1 % 64 * 4096 + b2 % 64 * 64 + b3 % 64 ∧ b0 % 8 * 262144 + b1 % 64 * 4096 + b2 % 64 * 64 + b3 % 64 ≤ 1114111) then (b0 % 8 * 262144 + b1 % 64 * 4096 + b2 % 64 * 64 + b3 % 64, 4) else (65533, 1))
  else (65533, 1)

section
variable {n b0 b1 b2 b3 : Nat}
theorem va0 (h : szN n b0 b1 b2 b3 = 0) : vaN n b0 b1 b2 b3 = 65533 := by unfold vaN; rw [h]; rfl
theorem va1 (h : szN n b0 b1 b2 b3 = 1) : vaN n b0 b1 b2 b3 = b0 := by unfold vaN; rw [h]; rfl
theorem va2 (h : szN n b0 b1 b2 b3 = 2) : vaN n b0 b1 b2 b3 = v2 b0 b1 := by unfold vaN; rw [h]; rfl
theorem va3 (h : szN n b0 b1 b2 b3 = 3) : vaN n b0 b1 b2 b3 = v3 b0 b1 b2 := by unfold vaN; rw [h]; rfl
theorem va4 (h : szN n b0 b1 b2 b3 = 4) : vaN n b0 b1 b2 b3 = v4 b0 b1 b2 b3 := by unfold vaN; rw [h]; rfl
theorem sz_c1 (c1 : b0 < 128) : szN n b0 b1 b2 b3 = 1 := by unfold szN; rw [if_pos c1]
theorem sz_c2 (c1 : ¬ b0 < 128) (c2 : 192 ≤ b0 ∧ b0 < 224) : szN n b0 b1 b2 b3 = if 2 ≤ n ∧ inr b1 ∧ 128 ≤ v2 b0 b1 then 2 else 0 := by unfold szN; rw [if_neg c1, if_pos c2]
theorem sz_c3 (c3 : 224 ≤ b0 ∧ b0 < 240) : szN n b0 b1 b2 b3 = if 3 ≤ n ∧ inr b1 ∧ inr b2 ∧ 2048 ≤ v3 b0 b1 b2 ∧ (v3 b0 b1 b2 < 55296 ∨ 57344 ≤ v3 b0 b1 b2) then 3 else 0 := by
  unfold szN; rw [if_neg (by omega), if_neg (by omega), if_pos c3]
theorem sz_c4 (c4 : 240 ≤ b0 ∧ b0 < 248) : szN n b0 b1 b2 b3 = if 4 ≤ n ∧ inr b1 ∧ inr b2 ∧ inr b3 ∧ 65536 ≤ v4 b0 b1 b2 b3 ∧ v4 b0 b1 b2 b3 ≤ 1114111 then 4 else 0 := by
  unfold szN; rw [if_neg (by omega), if_neg (by omega), if_neg (by omega), if_pos c4]
theorem sz_c5 (c1 : ¬ b0 < 128) (c2 : ¬ (192 ≤ b0 ∧ b0 < 248)) : szN n b0 b1 b2 b3 = 0 := by
  unfold szN; rw [if_neg c1, if_neg (by omega), if_neg (by omega), if_neg (by omega)]
end

theorem dcN_eq (n b0 b1 b2 b3 : Nat) (h0 : b0 < 256) (h1 : b1 < 256) (h2 : b2 < 256) (h3 : b3 < 256) :
    dcN n b0 b1 b2 b3 = (vaN n b0 b1 b2 b3, if szN n b0 b1 b2 b3 = 0 then 1 else szN n b0 b1 b2 b3) := by
  have e1 : ∀ b, b < 256 → (b / 64 = 2 ↔ inr b) := fun b hb => by unfold inr; omega
  have f6 : b0 / 32 = 6 ↔ 192 ≤ b0 ∧ b0 < 224 := by omega
  have f14 : b0 / 16 = 14 ↔ 224 ≤ b0 ∧ b0 < 240 := by omega
  have f30 : b0 / 8 = 30 ↔ 240 ≤ b0 ∧ b0 < 248 := by omega
  have pair : ∀ k v : Nat, szN n b0 b1 b2 b3 = k → vaN n b0 b1 b2 b3 = v → dcN n b0 b1 b2 b3 = (v, if k = 0 then 1 else k) → dcN n b0 b1 b2 b3 = (vaN n b0 b1 b2 b3, if szN n b0 b1 b2 b3 = 0 then 1 else szN n b0 b1 b2 b3) := by
    intro k v hk hv hd; rw [hk, hv]; exact hd
  by_cases c1 : b0 < 128
  · refine pair 1 b0 (sz_c1 c1) (va1 (sz_c1 c1)) ?_
    unfold dcN; rw [if_pos c1]; rfl
  by_cases c2 : 192 ≤ b0 ∧ b0 < 224
  · have hv : inr b1 → b0 % 32 * 64 + b1 % 64 = v2 b0 b1 := fun h => by unfold inr at h; unfold v2; omega
    by_cases g : 1 < n ∧ inr b1
    · have ed : dcN n b0 b1 b2 b3 = if v2 b0 b1 ≥ 128 then (v2 b0 b1, 2) else (65533, 1) := by
        unfold dcN; rw [if_neg c1, if_pos ⟨f6.2 c2, g.1, (e1 b1 h1).2 g.2⟩, hv g.2]
      by_cases k : 128 ≤ v2 b0 b1
      · have hs := (sz_c2 (n := n) (b2 := b2) (b3 := b3) c1 c2).trans (if_pos ⟨g.1, g.2, k⟩)
        exact pair 2 _ hs (va2 hs) (ed.trans (if_pos k))
      · have hs := (sz_c2 (n := n) (b2 := b2) (b3 := b3) c1 c2).trans (if_neg fun h => k h.2.2)
        exact pair 0 _ hs (va0 hs) (ed.trans (if_neg k))
    · have hs := (sz_c2 (n := n) (b2 := b2) (b3 := b3) c1 c2).trans (if_neg fun h => g ⟨h.1, h.2.1⟩)
      refine pair 0 _ hs (va0 hs) ?_
      unfold dcN
      rw [if_neg c1, if_neg (fun h => g ⟨h.2.1, (e1 b1 h1).1 h.2.2⟩), if_neg (fun h => by have := f14.1 h.1; omega), if_neg (fun h => by have := f30.1 h.1; omega)]
      rfl
  by_cases c3 : 224 ≤ b0 ∧ b0 < 240
  · have hv : inr b1 → inr b2 → b0 % 16 * 4096 + b1 % 64 * 64 + b2 % 64 = v3 b0 b1 b2 := fun h h' => by unfold inr at h h'; unfold v3; omega
    have hm : v3 b0 b1 b2 ≤ 1114111 := by unfold v3; omega
    by_cases g : (1 < n ∧ inr b1) ∧ (2 < n ∧ inr b2)
    · have ed : dcN n b0 b1 b2 b3 = if v3 b0 b1 b2 ≥ 2048 ∧ (v3 b0 b1 b2 < 55296 ∨ 57344 ≤ v3 b0 b1 b2 ∧ v3 b0 b1 b2 ≤ 1114111) then (v3 b0 b1 b2, 3) else (65533, 1) := by
        unfold dcN
        rw [if_neg c1, if_neg (fun h => c2 (f6.1 h.1)), if_pos ⟨f14.2 c3, ⟨g.1.1, (e1 b1 h1).2 g.1.2⟩, g.2.1, (e1 b2 h2).2 g.2.2⟩, hv g.1.2 g.2.2]
      by_cases k : 2048 ≤ v3 b0 b1 b2 ∧ (v3 b0 b1 b2 < 55296 ∨ 57344 ≤ v3 b0 b1 b2)
      · have hs := (sz_c3 (n := n) (b1 := b1) (b2 := b2) (b3 := b3) c3).trans (if_pos ⟨g.2.1, g.1.2, g.2.2, k⟩)
        exact pair 3 _ hs (va3 hs) (ed.trans (if_pos ⟨k.1, k.2.imp id fun h => ⟨h, hm⟩⟩))
      · have hs := (sz_c3 (n := n) (b1 := b1) (b2 := b2) (b3 := b3) c3).trans (if_neg fun h => k h.2.2.2)
        exact pair 0 _ hs (va0 hs) (ed.trans (if_neg fun h => k ⟨h.1, h.2.imp id (·.1)⟩))
    · have hs := (sz_c3 (n := n) (b1 := b1) (b2 := b2) (b3 := b3) c3).trans (if_neg fun h => g ⟨⟨by omega, h.2.1⟩, by omega, h.2.2.1⟩)
      refine pair 0 _ hs (va0 hs) ?_
      unfold dcN
      rw [if_neg c1, if_neg (fun h => c2 (f6.1 h.1)), if_neg (fun h => g ⟨⟨h.2.1.1, (e1 b1 h1).1 h.2.1.2⟩, h.2.2.1, (e1 b2 h2).1 h.2.2.2⟩), if_neg (fun h => by have := f30.1 h.1; omega)]
      rfl
  by_cases c4 : 240 ≤ b0 ∧ b0 < 248
  · have hv : inr b1 → inr b2 → inr b3 → b0 % 8 * 262144 + b1 % 64 * 4096 + b2 % 64 * 64 + b3 % 64 = v4 b0 b1 b2 b3 := fun h h' h'' => by unfold inr at h h' h''; unfold v4; omega
    by_cases g : (1 < n ∧ inr b1) ∧ (2 < n ∧ inr b2) ∧ (3 < n ∧ inr b3)
    · have ed : dcN n b0 b1 b2 b3 = if v4 b0 b1 b2 b3 ≥ 65536 ∧ (v4 b0 b1 b2 b3 < 55296 ∨ 57344 ≤ v4 b0 b1 b2 b3 ∧ v4 b0 b1 b2 b3 ≤ 1114111) then (v4 b0 b1 b2 b3, 4) else (65533, 1) := by
        unfold dcN
        rw [if_neg c1, if_neg (fun h => c2 (f6.1 h.1)), if_neg (fun h => c3 (f14.1 h.1)), if_pos ⟨f30.2 c4, ⟨g.1.1, (e1 b1 h1).2 g.1.2⟩, ⟨g.2.1.1, (e1 b2 h2).2 g.2.1.2⟩, g.2.2.1, (e1 b3 h3).2 g.2.2.2⟩, hv g.1.2 g.2.1.2 g.2.2.2]
      by_cases k : 65536 ≤ v4 b0 b1 b2 b3 ∧ v4 b0 b1 b2 b3 ≤ 1114111
      · have hs := (sz_c4 (n := n) (b1 := b1) (b2 := b2) (b3 := b3) c4).trans (if_pos ⟨g.2.2.1, g.1.2, g.2.1.2, g.2.2.2, k⟩)
        exact pair 4 _ hs (va4 hs) (ed.trans (if_pos ⟨k.1, .inr ⟨by omega, k.2⟩⟩))
      · have hs := (sz_c4 (n := n) (b1 := b1) (b2 := b2) (b3 := b3) c4).trans (if_neg fun h => k h.2.2.2.2)
        exact pair 0 _ hs (va0 hs) (ed.trans (if_neg fun h => k (by omega)))
    · have hs := (sz_c4 (n := n) (b1 := b1) (b2 := b2) (b3 := b3) c4).trans (if_neg fun h => g ⟨⟨by omega, h.2.1⟩, ⟨by omega, h.2.2.1⟩, by omega, h.2.2.2.1⟩)
      refine pair 0 _ hs (va0 hs) ?_
      unfold dcN
      rw [if_neg c1, if_neg (fun h => c2 (f6.1 h.1)), if_neg (fun h => c3 (f14.1 h.1)), if_neg (fun h => g ⟨⟨h.2.1.1, (e1 b1 h1).1 h.2.1.2⟩, ⟨h.2.2.1.1, (e1 b2 h2).1 h.2.2.1.2⟩, h.2.2.2.1, (e1 b3 h3).1 h.2.2.2.2⟩)]
      rfl
  · have hs := sz_c5 (n := n) (b1 := b1) (b2 := b2) (b3 := b3) c1 (by omega)
    refine pair 0 _ hs (va0 hs) ?_
    unfold dcN
    rw [if_neg c1, if_neg (fun h => c2 (f6.1 h.1)), if_neg (fun h => c3 (f14.1 h.1)), if_neg (fun h => c4 (f30.1 h.1))]
    rfl

theorem bt_at (s : ByteArray) (i k : Nat) : (s.get! (i + k)).toNat = bt (s.data.toList.drop i) k := by
  unfold bt
  congr 1
  rw [List.getD_eq_getElem?_getD, List.getElem?_drop]
  show s.data[i + k]! = _
  by_cases h : i + k < s.data.size
  · rw [getElem!_pos s.data (i + k) h, List.getElem?_eq_getElem (by simpa using h)]
    simp
  · rw [getElem!_neg s.data (i + k) h, List.getElem?_eq_none (by simpa using h)]
    rfl

set_option maxRecDepth 100000 in
set_option maxHeartbeats 2000000 in
theorem dec_dcN (s : ByteArray) (i : Nat) (n : Nat) (hn : n = s.size - i) : Utf8.decode s i = dcN n (bt (s.data.toList.drop i) 0) (bt (s.data.toList.drop i) 1) (bt (s.data.toList.drop i) 2) (bt (s.data.toList.drop i) 3) := by
  subst hn
  have c1 : (i + 1 < s.size) = (1 < s.size - i) := propext ⟨fun h => by omega, fun h => by omega⟩
  have c2 : (i + 2 < s.size) = (2 < s.size - i) := propext ⟨fun h => by omega, fun h => by omega⟩
  have c3 : (i + 3 < s.size) = (3 < s.size - i) := propext ⟨fun h => by omega, fun h => by omega⟩
  rw [← bt_at, ← bt_at, ← bt_at, ← bt_at]
  simp only [Utf8.decode, dcN, Utf8.valid, Utf8.runeError, Nat.add_zero, Bool.and_eq_true, Bool.or_eq_true, beq_iff_eq, decide_eq_true_eq, c1, c2, c3, ge_iff_le, and_assoc]
  generalize (s.get! i).toNat = b0
  generalize (s.get! (i + 1)).toNat = b1
  generalize (s.get! (i + 2)).toNat = b2
  generalize (s.get! (i + 3)).toNat = b3
  have z : ∀ n : Nat, ((0 : Int) ≤ (n : Int) ∧ (n : Int) < 55296 ∨ (57344 : Int) ≤ (n : Int) ∧ (n : Int) ≤ 1114111) = (n < 55296 ∨ 57344 ≤ n ∧ n ≤ 1114111) := fun n => propext ⟨fun h => by omega, fun h => by omega⟩
  have w : ∀ n : Nat, (n : Int) = (n : Nat) := fun _ => rfl
  repeat' split
  all_goals first | rfl | (exfalso; omega) | omega

/-- THE MODEL's DECODING TELLS WHAT THE BYTES BEGIN WITH. -/
theorem dec_eq (s : ByteArray) (i : Nat) : Utf8.decode s i = (va (s.data.toList.drop i), wd (s.data.toList.drop i)) := by
  have hl : (s.data.toList.drop i).length = s.size - i := by rw [List.length_drop, Array.length_toList]; rfl
  rw [dec_dcN s i _ hl, dcN_eq _ _ _ _ _ (bt_lt _ _) (bt_lt _ _) (bt_lt _ _) (bt_lt _ _)]
  rfl


/-! ### a text's runes, as pieces -/

theorem sz_le (l : List UInt8) : sz l ≤ 4 := szN_le _ _ _ _ _
theorem sz_len {l : List UInt8} (hl : l ≠ []) : sz l ≤ l.length := by
  have h1 : 1 ≤ l.length := by cases l with | nil => exact absurd rfl hl | cons a r => simp
  unfold sz szN
  repeat' split
  all_goals omega
theorem wd_pos (l : List UInt8) : 1 ≤ wd l := by unfold wd; split <;> omega
theorem wd_len {l : List UInt8} (hl : l ≠ []) : wd l ≤ l.length := by
  have h1 : 1 ≤ l.length := by cases l with | nil => exact absurd rfl hl | cons a r => simp
  have := sz_len hl
  unfold wd; split <;> omega
theorem wd_le (l : List UInt8) : wd l ≤ 4 := by have := sz_le l; unfold wd; split <;> omega

def chop : Nat → List UInt8 → List (List UInt8)
  | 0, _ => []
  | f + 1, l => if l = [] then [] else l.take (wd l) :: chop f (l.drop (wd l))
/-- A text's runes, as texts; a byte that is none stands alone. -/
def runes (l : List UInt8) : List (List UInt8) := chop l.length l

theorem chop_fuel : ∀ (f g : Nat) (l : List UInt8), l.length ≤ f → l.length ≤ g → chop f l = chop g l
  | 0, 0, _, _, _ => rfl
  | 0, g + 1, l, h, _ => by
    have : l = [] := List.eq_nil_of_length_eq_zero (by omega)
    subst this; rfl
  | f + 1, 0, l, _, h => by
    have : l = [] := List.eq_nil_of_length_eq_zero (by omega)
    subst this; rfl
  | f + 1, g + 1, l, h, h' => by
    unfold chop
    by_cases hl : l = []
    · rw [if_pos hl, if_pos hl]
    · rw [if_neg hl, if_neg hl]
      have := wd_pos l
      have := wd_len hl
      rw [chop_fuel f g (l.drop (wd l)) (by rw [List.length_drop]; omega) (by rw [List.length_drop]; omega)]

theorem runes_nil : runes [] = [] := rfl
theorem runes_cons {l : List UInt8} (hl : l ≠ []) : runes l = l.take (wd l) :: runes (l.drop (wd l)) := by
  have h1 := wd_pos l
  have h2 := wd_len hl
  obtain ⟨n, hn⟩ : ∃ n, l.length = n + 1 := ⟨l.length - 1, by omega⟩
  unfold runes
  rw [hn]
  conv => lhs; unfold chop
  rw [if_neg hl, chop_fuel n (l.drop (wd l)).length _ (by rw [List.length_drop]; omega) (Nat.le_refl _)]

/-- WHAT HOLDS OF NO TEXT AND IS HANDED ON FROM WHAT IS BEHIND A RUNE holds of every text. -/
theorem rune_ind {P : List UInt8 → Prop} (h0 : P []) (h1 : ∀ l, l ≠ [] → P (l.drop (wd l)) → P l) (l : List UInt8) : P l := by
  have : ∀ n (l : List UInt8), l.length ≤ n → P l := by
    intro n
    induction n with
    | zero => intro l h; have : l = [] := List.eq_nil_of_length_eq_zero (by omega)
              subst this; exact h0
    | succ n ih =>
      intro l h
      by_cases hl : l = []
      · subst hl; exact h0
      · refine h1 l hl (ih _ ?_)
        have := wd_pos l
        have := wd_len hl
        rw [List.length_drop]; omega
  exact this _ l (Nat.le_refl _)

theorem runes_join (l : List UInt8) : (runes l).flatten = l := by
  refine rune_ind (P := fun l => (runes l).flatten = l) rfl (fun l hl ih => ?_) l
  rw [runes_cons hl, List.flatten_cons, ih, List.take_append_drop]
theorem runes_length (l : List UInt8) : (runes l).length ≤ l.length := by
  refine rune_ind (P := fun l => (runes l).length ≤ l.length) (Nat.le_refl _) (fun l hl ih => ?_) l
  have := wd_pos l
  have := wd_len hl
  rw [runes_cons hl, List.length_cons]
  rw [List.length_drop] at ih
  omega
theorem runes_ne {l : List UInt8} (hl : l ≠ []) : runes l ≠ [] := by rw [runes_cons hl]; simp

/-! ### a piece by itself -/

theorem bt_take (l : List UInt8) (n k : Nat) (h : k < n) : bt (l.take n) k = bt l k := by
  unfold bt
  rw [List.getD_eq_getElem?_getD, List.getD_eq_getElem?_getD, List.getElem?_take, if_pos h]

theorem sz_take {l : List UInt8} (hl : l ≠ []) : sz (l.take (wd l)) = sz l := by
  have hw := wd_pos l
  have hwl := wd_len hl
  have e0 : bt (l.take (wd l)) 0 = bt l 0 := bt_take _ _ _ (by omega)
  have el : (l.take (wd l)).length = wd l := by rw [List.length_take]; omega
  unfold sz
  rw [el, e0]
  by_cases hz : sz l = 0
  · have hw1 : wd l = 1 := by unfold wd; rw [if_pos hz]
    have n1 : ¬ bt l 0 < 128 := fun c => by have := (sz_c1 (n := l.length) (b1 := bt l 1) (b2 := bt l 2) (b3 := bt l 3) c); unfold sz at hz; omega
    rw [hw1, show szN l.length (bt l 0) (bt l 1) (bt l 2) (bt l 3) = 0 from hz]
    by_cases c2 : 192 ≤ bt l 0 ∧ bt l 0 < 224
    · rw [sz_c2 n1 c2, if_neg (by omega)]
    by_cases c3 : 224 ≤ bt l 0 ∧ bt l 0 < 240
    · rw [sz_c3 c3, if_neg (by omega)]
    by_cases c4 : 240 ≤ bt l 0 ∧ bt l 0 < 248
    · rw [sz_c4 c4, if_neg (by omega)]
    · exact sz_c5 n1 (by omega)
  · have hw1 : wd l = sz l := by unfold wd; rw [if_neg hz]
    have hz' : sz l = szN l.length (bt l 0) (bt l 1) (bt l 2) (bt l 3) := rfl
    by_cases c1 : bt l 0 < 128
    · rw [sz_c1 c1, sz_c1 c1]
    by_cases c2 : 192 ≤ bt l 0 ∧ bt l 0 < 224
    · rw [sz_c2 c1 c2] at hz' ⊢
      rw [sz_c2 c1 c2]
      by_cases k : 2 ≤ l.length ∧ inr (bt l 1) ∧ 128 ≤ v2 (bt l 0) (bt l 1)
      · rw [if_pos k] at hz' ⊢
        rw [bt_take _ _ _ (by omega), if_pos ⟨by omega, k.2⟩]
      · rw [if_neg k] at hz'; exact absurd hz' hz
    by_cases c3 : 224 ≤ bt l 0 ∧ bt l 0 < 240
    · rw [sz_c3 c3] at hz' ⊢
      rw [sz_c3 c3]
      by_cases k : 3 ≤ l.length ∧ inr (bt l 1) ∧ inr (bt l 2) ∧ 2048 ≤ v3 (bt l 0) (bt l 1) (bt l 2) ∧ (v3 (bt l 0) (bt l 1) (bt l 2) < 55296 ∨ 57344 ≤ v3 (bt l 0) (bt l 1) (bt l 2))
      · rw [if_pos k] at hz' ⊢
        rw [bt_take _ _ _ (by omega), bt_take _ _ _ (by omega), if_pos ⟨by omega, k.2⟩]
      · rw [if_neg k] at hz'; exact absurd hz' hz
    by_cases c4 : 240 ≤ bt l 0 ∧ bt l 0 < 248
    · rw [sz_c4 c4] at hz' ⊢
      rw [sz_c4 c4]
      by_cases k : 4 ≤ l.length ∧ inr (bt l 1) ∧ inr (bt l 2) ∧ inr (bt l 3) ∧ 65536 ≤ v4 (bt l 0) (bt l 1) (bt l 2) (bt l 3) ∧ v4 (bt l 0) (bt l 1) (bt l 2) (bt l 3) ≤ 1114111
      · rw [if_pos k] at hz' ⊢
        rw [bt_take _ _ _ (by omega), bt_take _ _ _ (by omega), bt_take _ _ _ (by omega), if_pos ⟨by omega, k.2⟩]
      · rw [if_neg k] at hz'; exact absurd hz' hz
    · exact absurd (hz'.trans (sz_c5 c1 (by omega))) hz

/-- What a rune's number is, by its width. -/
theorem va_of {l : List UInt8} : (sz l = 0 → va l = 65533) ∧ (sz l = 1 → va l = bt l 0) ∧ (sz l = 2 → va l = v2 (bt l 0) (bt l 1)) ∧ (sz l = 3 → va l = v3 (bt l 0) (bt l 1) (bt l 2)) ∧ (sz l = 4 → va l = v4 (bt l 0) (bt l 1) (bt l 2) (bt l 3)) :=
  ⟨fun h => va0 h, fun h => va1 h, fun h => va2 h, fun h => va3 h, fun h => va4 h⟩

theorem val_take {l : List UInt8} (hl : l ≠ []) : val (l.take (wd l)) = val l := by
  have hs := sz_take hl
  unfold val
  rw [hs]
  by_cases hz : sz l = 0
  · rw [if_pos hz, if_pos hz]
  · rw [if_neg hz, if_neg hz]
    have hw1 : wd l = sz l := by unfold wd; rw [if_neg hz]
    have h4 := sz_le l
    obtain ⟨-, a1, a2, a3, a4⟩ := va_of (l := l)
    obtain ⟨-, c1, c2, c3, c4⟩ := va_of (l := l.take (wd l))
    rw [hs] at c1 c2 c3 c4
    have hq : sz l = 1 ∨ sz l = 2 ∨ sz l = 3 ∨ sz l = 4 := by omega
    rcases hq with h | h | h | h
    · rw [a1 h, c1 h, bt_take _ _ _ (by omega)]
    · rw [a2 h, c2 h, bt_take _ _ _ (by omega), bt_take _ _ _ (by omega)]
    · rw [a3 h, c3 h, bt_take _ _ _ (by omega), bt_take _ _ _ (by omega), bt_take _ _ _ (by omega)]
    · rw [a4 h, c4 h, bt_take _ _ _ (by omega), bt_take _ _ _ (by omega), bt_take _ _ _ (by omega), bt_take _ _ _ (by omega)]

/-- The facts of each width. -/
theorem sz_facts (l : List UInt8) : (sz l = 0 ∧ 128 ≤ bt l 0) ∨ (sz l = 1 ∧ va l = bt l 0 ∧ bt l 0 < 128)
    ∨ (sz l = 2 ∧ va l = v2 (bt l 0) (bt l 1) ∧ (192 ≤ bt l 0 ∧ bt l 0 < 224) ∧ inr (bt l 1) ∧ 128 ≤ va l ∧ 2 ≤ l.length)
    ∨ (sz l = 3 ∧ va l = v3 (bt l 0) (bt l 1) (bt l 2) ∧ (224 ≤ bt l 0 ∧ bt l 0 < 240) ∧ inr (bt l 1) ∧ inr (bt l 2) ∧ 2048 ≤ va l ∧ (va l < 55296 ∨ 57344 ≤ va l) ∧ 3 ≤ l.length)
    ∨ (sz l = 4 ∧ va l = v4 (bt l 0) (bt l 1) (bt l 2) (bt l 3) ∧ (240 ≤ bt l 0 ∧ bt l 0 < 248) ∧ inr (bt l 1) ∧ inr (bt l 2) ∧ inr (bt l 3) ∧ 65536 ≤ va l ∧ va l ≤ 1114111 ∧ 4 ≤ l.length) := by
  have hz' : sz l = szN l.length (bt l 0) (bt l 1) (bt l 2) (bt l 3) := rfl
  obtain ⟨a0, a1, a2, a3, a4⟩ := va_of (l := l)
  by_cases c1 : bt l 0 < 128
  · rw [sz_c1 c1] at hz'; exact .inr (.inl ⟨hz', a1 hz', c1⟩)
  by_cases c2 : 192 ≤ bt l 0 ∧ bt l 0 < 224
  · rw [sz_c2 c1 c2] at hz'
    by_cases k : 2 ≤ l.length ∧ inr (bt l 1) ∧ 128 ≤ v2 (bt l 0) (bt l 1)
    · rw [if_pos k] at hz'
      exact .inr (.inr (.inl ⟨hz', a2 hz', c2, k.2.1, by rw [a2 hz']; exact k.2.2, k.1⟩))
    · rw [if_neg k] at hz'; exact .inl ⟨hz', by omega⟩
  by_cases c3 : 224 ≤ bt l 0 ∧ bt l 0 < 240
  · rw [sz_c3 c3] at hz'
    by_cases k : 3 ≤ l.length ∧ inr (bt l 1) ∧ inr (bt l 2) ∧ 2048 ≤ v3 (bt l 0) (bt l 1) (bt l 2) ∧ (v3 (bt l 0) (bt l 1) (bt l 2) < 55296 ∨ 57344 ≤ v3 (bt l 0) (bt l 1) (bt l 2))
    · rw [if_pos k] at hz'
      exact .inr (.inr (.inr (.inl ⟨hz', a3 hz', c3, k.2.1, k.2.2.1, by rw [a3 hz']; exact k.2.2.2.1, by rw [a3 hz']; exact k.2.2.2.2, k.1⟩)))
    · rw [if_neg k] at hz'; exact .inl ⟨hz', by omega⟩
  by_cases c4 : 240 ≤ bt l 0 ∧ bt l 0 < 248
  · rw [sz_c4 c4] at hz'
    by_cases k : 4 ≤ l.length ∧ inr (bt l 1) ∧ inr (bt l 2) ∧ inr (bt l 3) ∧ 65536 ≤ v4 (bt l 0) (bt l 1) (bt l 2) (bt l 3) ∧ v4 (bt l 0) (bt l 1) (bt l 2) (bt l 3) ≤ 1114111
    · rw [if_pos k] at hz'
      exact .inr (.inr (.inr (.inr ⟨hz', a4 hz', c4, k.2.1, k.2.2.1, k.2.2.2.1, by rw [a4 hz']; exact k.2.2.2.2.1, by rw [a4 hz']; exact k.2.2.2.2.2, k.1⟩)))
    · rw [if_neg k] at hz'; exact .inl ⟨hz', by omega⟩
  · exact .inl ⟨hz'.trans (sz_c5 c1 (by omega)), by omega⟩

theorem va_le (l : List UInt8) : va l ≤ 1114111 := by
  rcases sz_facts l with ⟨h, -⟩ | ⟨h, h', -⟩ | ⟨h, h', -⟩ | ⟨h, h', -⟩ | ⟨h, h', -, -, -, -, -, k, -⟩
  · rw [va_of.1 h]; omega
  · have := bt_lt l 0; omega
  · have := bt_lt l 0; have := bt_lt l 1; rw [h']; unfold v2; omega
  · have := bt_lt l 0; have := bt_lt l 1; have := bt_lt l 2; rw [h']; unfold v3; omega
  · exact k

/-- The first bytes of a text, one by one. -/
theorem take1 {l : List UInt8} (h : 1 ≤ l.length) : l.take 1 = [l.getD 0 0] := by
  match l, h with
  | a :: r, _ => rfl
theorem take2 {l : List UInt8} (h : 2 ≤ l.length) : l.take 2 = [l.getD 0 0, l.getD 1 0] := by
  match l, h with
  | a :: b :: r, _ => rfl
  | [_], h => simp at h
theorem take3 {l : List UInt8} (h : 3 ≤ l.length) : l.take 3 = [l.getD 0 0, l.getD 1 0, l.getD 2 0] := by
  match l, h with
  | a :: b :: c :: r, _ => rfl
  | [_], h => simp at h
  | [_, _], h => simp at h
theorem take4 {l : List UInt8} (h : 4 ≤ l.length) : l.take 4 = [l.getD 0 0, l.getD 1 0, l.getD 2 0, l.getD 3 0] := by
  match l, h with
  | a :: b :: c :: d :: r, _ => rfl
  | [_], h => simp at h
  | [_, _], h => simp at h
  | [_, _, _], h => simp at h
theorem u8_bt (l : List UInt8) (k : Nat) : l.getD k 0 = UInt8.ofNat (bt l k) := by unfold bt; simp

/-- A BYTE THAT IS NO PART OF A RIGHT RUNE is told as U+FFFD, and its text does not begin with that rune; and no other. -/
theorem stray_iff {l : List UInt8} (hl : l ≠ []) : (va l = 65533 ∧ Lib.hasPrefix l [239, 191, 189] = false) ↔ sz l = 0 := by
  have key : Lib.hasPrefix l [239, 191, 189] = true ↔ bt l 0 = 239 ∧ bt l 1 = 191 ∧ bt l 2 = 189 := by
    have u : ∀ a b : UInt8, a = b ↔ a.toNat = b.toNat := fun a b => ⟨fun h => by rw [h], fun h => UInt8.toNat_inj.1 h⟩
    unfold Lib.hasPrefix bt
    match l, hl with
    | [a], _ => simp [List.isPrefixOf]
    | [a, b], _ => simp [List.isPrefixOf]
    | a :: b :: c :: r, _ => simp [List.isPrefixOf, u]; omega
  constructor
  · rintro ⟨hv, hp⟩
    rcases sz_facts l with ⟨h, -⟩ | ⟨h, h', k⟩ | ⟨h, h', k, i1, -⟩ | ⟨h, h', k, i1, i2, -⟩ | ⟨h, h', k, i1, i2, i3, g, -⟩
    · exact h
    · omega
    · unfold v2 at h'; unfold inr at i1; omega
    · exfalso
      unfold v3 at h'; unfold inr at i1 i2
      have : Lib.hasPrefix l [239, 191, 189] = true := key.2 (by omega)
      rw [this] at hp; cases hp
    · omega
  · intro h
    refine ⟨va_of.1 h, ?_⟩
    cases hp : Lib.hasPrefix l [239, 191, 189] with
    | false => rfl
    | true =>
      exfalso
      obtain ⟨h0, h1, h2⟩ := key.1 hp
      have hlen : 3 ≤ l.length := by
        unfold Lib.hasPrefix at hp
        exact (List.isPrefixOf_iff_prefix.1 hp).length_le
      have hz' : sz l = szN l.length (bt l 0) (bt l 1) (bt l 2) (bt l 3) := rfl
      rw [sz_c3 (by omega), if_pos ⟨hlen, by unfold inr; omega, by unfold inr; omega, by unfold v3; omega, by unfold v3; omega⟩] at hz'
      omega

theorem enc_valid (v : Nat) (hv : v < 55296 ∨ (57344 ≤ v ∧ v ≤ 1114111)) : (if Utf8.valid (v : Int) then ((v : Int)).toNat else Utf8.runeError) = v := by
  have : Utf8.valid (v : Int) = true := by
    simp only [Utf8.valid, Bool.or_eq_true, Bool.and_eq_true, decide_eq_true_eq]
    omega
  rw [if_pos this]
  rfl
theorem enc1 (v : Nat) (h : v < 128) : (Utf8.encode (v : Int)).data.toList = [UInt8.ofNat v] := by
  unfold Utf8.encode
  simp only [enc_valid v (by omega)]
  rw [if_pos h]
theorem enc2 (v : Nat) (h : 128 ≤ v) (h' : v < 2048) : (Utf8.encode (v : Int)).data.toList = [UInt8.ofNat (192 + v / 64), UInt8.ofNat (128 + v % 64)] := by
  unfold Utf8.encode
  simp only [enc_valid v (by omega)]
  rw [if_neg (by omega), if_pos (by omega)]
theorem enc3 (v : Nat) (h : 2048 ≤ v) (h' : v < 65536) (hv : v < 55296 ∨ 57344 ≤ v) : (Utf8.encode (v : Int)).data.toList = [UInt8.ofNat (224 + v / 4096), UInt8.ofNat (128 + v / 64 % 64), UInt8.ofNat (128 + v % 64)] := by
  unfold Utf8.encode
  simp only [enc_valid v (by omega)]
  rw [if_neg (by omega), if_neg (by omega), if_pos (by omega)]
theorem enc4 (v : Nat) (h : 65536 ≤ v) (h' : v ≤ 1114111) : (Utf8.encode (v : Int)).data.toList = [UInt8.ofNat (240 + v / 262144), UInt8.ofNat (128 + v / 4096 % 64), UInt8.ofNat (128 + v / 64 % 64), UInt8.ofNat (128 + v % 64)] := by
  unfold Utf8.encode
  simp only [enc_valid v (by omega)]
  rw [if_neg (by omega), if_neg (by omega), if_neg (by omega)]
theorem ar2 {v b0 b1 : Nat} (h' : v = v2 b0 b1) (k : 192 ≤ b0 ∧ b0 < 224) (i1 : inr b1) : 192 + v / 64 = b0 ∧ 128 + v % 64 = b1 ∧ v < 2048 := by
  unfold v2 at h'; unfold inr at i1; omega
theorem ar3 {v b0 b1 b2 : Nat} (h' : v = v3 b0 b1 b2) (k : 224 ≤ b0 ∧ b0 < 240) (i1 : inr b1) (i2 : inr b2) : 224 + v / 4096 = b0 ∧ 128 + v / 64 % 64 = b1 ∧ 128 + v % 64 = b2 ∧ v < 65536 := by
  unfold v3 at h'; unfold inr at i1 i2; omega
theorem ar4 {v b0 b1 b2 b3 : Nat} (h' : v = v4 b0 b1 b2 b3) (k : 240 ≤ b0 ∧ b0 < 248) (i1 : inr b1) (i2 : inr b2) (i3 : inr b3) : 240 + v / 262144 = b0 ∧ 128 + v / 4096 % 64 = b1 ∧ 128 + v / 64 % 64 = b2 ∧ 128 + v % 64 = b3 := by
  unfold v4 at h'; unfold inr at i1 i2 i3; omega

/-- A RUNE's NUMBER, LAID IN UTF-8, is the rune. -/
theorem encode_va {l : List UInt8} (hl : l ≠ []) (hz : sz l ≠ 0) : (Utf8.encode (va l : Int)).data.toList = l.take (wd l) := by
  have hw : wd l = sz l := by unfold wd; rw [if_neg hz]
  rw [hw]
  rcases sz_facts l with ⟨h, -⟩ | ⟨h, h', k⟩ | ⟨h, h', k, i1, g, le⟩ | ⟨h, h', k, i1, i2, g, g', le⟩ | ⟨h, h', k, i1, i2, i3, g, g', le⟩
  · exact absurd h hz
  · have h1 : 1 ≤ l.length := by cases l with | nil => exact absurd rfl hl | cons a r => simp
    rw [h, take1 h1, u8_bt, h', enc1 _ k]
  · obtain ⟨x0, x1, x2⟩ := ar2 h' k i1
    rw [h, take2 le, u8_bt, u8_bt, enc2 _ g x2, x0, x1]
  · obtain ⟨x0, x1, x2, x3⟩ := ar3 h' k i1 i2
    rw [h, take3 le, u8_bt, u8_bt, u8_bt, enc3 _ g x3 g', x0, x1, x2]
  · obtain ⟨x0, x1, x2, x3⟩ := ar4 h' k i1 i2 i3
    rw [h, take4 le, u8_bt, u8_bt, u8_bt, u8_bt, enc4 _ g g', x0, x1, x2, x3]

end Go.Proofs.Ytlbgcbekjjkokaa
