/-
  What the program knows of its bytes; bytes turned into strings; small laws that every walk's end wants.
  CONTRACTS of bytes.Clone.
  Bits of bytes, as plain mathematics: how many are 0, what covers what, what masks leave. Nothing of any program.
-/
import Derived.Test.YtahipfmokbiklaaWords
import Derived.Test.YtahipfmokbiklaaProg
import Derived.Deep.AppendLies
import Derived.Deep.RegionLaw
import Derived.OneCell
import Derived.IntWalk
import Derived.Below
import Derived.Laws.BitsAllLaws
namespace Go.Proofs.Ytahipfmokbiklaa
section
open Go.RowKit

theorem u8info : (Try.prog.info? 5).map (fun i => (i.zero, i.size, i.bytes)) = some (some (.int .u8 0), 1, 1) := by kernel_rfl

theorem u8elems : Elems Try.prog 65 5 1 1 := by
  obtain ⟨i0, hi, hz0, hz1, hz2⟩ := info_parts u8info
  exact ⟨Try.underlying65, ⟨i0, _, hi, hz0, hz1, hz2, rfl⟩, by decide⟩

theorem strU8 {w : World} {B : Nat} {A : Option Addr} {l : List UInt8} {n : Nat} (c : Nat) (h : Lies w B A (bys l)) (hn : n = l.length) : (convert 65 9 (.slice A n c)).run Try.prog w = .ok (.string (str l)) w :=
  run_str 65 9 5 n c h hn Try.underlying65 Try.underlying5 Try.underlying9

theorem ret_int {k : IntKind} {a b : Int} (h : a = b) : Ending.returned (.int k a) = .returned (.int k b) := by rw [h]
theorem wr64 {n : Int} (h : -9223372036854775808 ≤ n ∧ n ≤ 9223372036854775807) : wrap64 n = n := by unfold wrap64; omega
theorem ret_bool {a b : Bool} (h : a = b) : Ending.returned (.bool a) = .returned (.bool b) := by rw [h]
theorem bys_snoc (f : Nat → UInt8) (j : Nat) : bys ((List.range (j + 1)).map f) = bys ((List.range j).map f) ++ [.int .u8 ((f j).toNat : Int)] := by
  rw [List.range_succ, List.map_append, bys_app]; rfl

/-- A new block of bytes, as something that lies. -/
theorem Lies.fresh (w : World) (l : List UInt8) (t : TypeId) (fr : Nat × Nat) (cs : Array Value) (hcs : cs.toList = bys l) (g B : Nat) (hg : g = w.heap.size) (hB : g < B) : Lies (w.alloc (.cells cs t fr)) B (some ⟨g, 0, none⟩) (bys l) := by
  subst hg; rw [← hcs]; exact Lies.new w cs t fr _ hB
end
section
open Go.RowKit

/-- bytes.Clone: a row of the call's own with the same bytes (nil of nil). -/
theorem clone_any (A : Option Addr) (n c B : Nat) (xs : List Value) (w : World) (h : Lies w B A xs) (hn : n = xs.length) (h1 : ∀ u ∈ xs, u.oneCell' = true) (hbig : n ≤ 140737488355328) :
    Calls Try.prog 62 #[.slice A n c] w fun e w' => ∃ v', e = .returned v' ∧ w'.ownsRow w.heap.size 5 1 v' n xs ∧ Below w.heap.size w w' := by
  obtain ⟨i0, hi, hz0, hz1, hz2⟩ := info_parts u8info
  rcases A with _ | a
  · have hx : xs = [] := by
      rcases h with h | ⟨a, hA, _⟩
      · exact h
      · cases hA
    subst hx
    have hn0 : n = 0 := by simpa using hn
    subst hn0
    clear hn
    have q := fun w n c n' c' => Lib.run_eql_slice_nil (P := Try.prog) w 65 _ none n c n' c' Try.underlying65
    go_enter Try.func62, Try.ntmps62
    go_wp2
    go_ret
    exact ⟨_, rfl, World.ownsRow_nil _ _ _ _, Below.refl _ _⟩
  · have q := fun w n c n' c' => Lib.run_eql_slice_nil (P := Try.prog) w 65 _ (some a) n c n' c' Try.underlying65
    have hc : Hid (∀ j u, xs[j]? = some u → w.cell? (a.add j) = some u) := by
      rcases h with h | ⟨a', hA, _, hc⟩
      · intro j u hu; rw [h] at hu; simp at hu
      · cases hA; exact hc
    have Hn := hide hn
    have H1 := hide h1
    clear h hn h1
    go_enter Try.func62, Try.ntmps62
    go_wp2_with (at_builtin; (refine wpList_append_own _ rfl _ _ 65 rfl w.heap.size 5 i0 (.int .u8 0) 1 1 Try.underlying65 hi hz0 hz1 hz2 rfl (by decide) _ _ _ rfl (World.ownsRow_made w #[] 0 (Nat.le_refl _) (Nat.zero_le _) rfl) a n c xs rfl (by have := Hn.out; omega) ?qc2 H1.out ?qc4 ?qc5 ?qc6 ?_))
    case qc2 => intro j u hj; exact Lib.cell?_alloc_some _ (hc.out j u hj)
    case qc4 => unfold maxLen; omega
    case qc5 => omega
    case qc6 => simp
    intro v' w1 hown hgrow hnil
    go_wp2
    go_ret
    exact ⟨v', rfl, by simpa using hown, ((Below.refl _ w).alloc (Nat.le_refl _) _).grown hgrow (by simp) (by intro k hk; simp [Value.ownBlock] at hk; omega)⟩
end
section
/-- Bit k of a number. -/
def bitN (x k : Nat) : Nat := x / 2 ^ k % 2
theorem bitN_two (x k : Nat) : bitN x k = 0 ∨ bitN x k = 1 := by unfold bitN; omega
theorem bitN_test (x k : Nat) : (bitN x k == 1) = x.testBit k := by
  rw [Nat.testBit_eq_decide_div_mod_eq]; unfold bitN; rw [Bool.beq_eq_decide_eq]
theorem bitN_toNat (x k : Nat) : bitN x k = (x.testBit k).toNat := by rw [Nat.toNat_testBit]; rfl
/-- Bit i of bytes, the lowest of each byte first. -/
def bitAt (l : List UInt8) (i : Nat) : Nat := bitN (l.getD (i / 8) 0).toNat (i % 8)
theorem bitAt_two (l : List UInt8) (i : Nat) : bitAt l i = 0 ∨ bitAt l i = 1 := bitN_two _ _
theorem bitAt_of (l : List UInt8) (j k : Nat) (h : k < 8) : bitAt l (8 * j + k) = bitN (l.getD j 0).toNat k := by
  unfold bitAt; rw [show (8 * j + k) / 8 = j by omega, show (8 * j + k) % 8 = k by omega]

theorem byte_eq_of_bits (x y : UInt8) (h : ∀ k, k < 8 → bitN x.toNat k = bitN y.toNat k) : x = y := by
  apply UInt8.toNat_inj.1
  apply Nat.eq_of_testBit_eq
  intro i
  by_cases hi : i < 8
  · rw [← bitN_test, ← bitN_test, h i hi]
  · rw [Nat.testBit_lt_two_pow (Nat.lt_of_lt_of_le x.toNat_lt (Nat.pow_le_pow_right (n := 2) (by omega) (by omega : 8 ≤ i))), Nat.testBit_lt_two_pow (Nat.lt_of_lt_of_le y.toNat_lt (Nat.pow_le_pow_right (n := 2) (by omega) (by omega : 8 ≤ i)))]

/-- How many of the first i bits are 0. -/
def zc (l : List UInt8) : Nat → Nat
  | 0 => 0
  | i + 1 => zc l i + (1 - bitAt l i)
theorem zc_le (l : List UInt8) : ∀ i, zc l i ≤ i
  | 0 => Nat.le_refl _
  | i + 1 => by have := zc_le l i; rw [zc]; omega
theorem zc_zero (l : List UInt8) : ∀ n, zc l n = 0 ↔ ∀ i, i < n → bitAt l i = 1
  | 0 => by simp [zc]
  | n + 1 => by
    rw [zc]
    have ih := zc_zero l n
    constructor
    · intro h i hi
      have h1 : zc l n = 0 := by omega
      rcases Nat.lt_or_ge i n with h2 | h2
      · exact ih.1 h1 i h2
      · obtain rfl : i = n := by omega
        have := bitAt_two l i; omega
    · intro h
      have h1 := ih.2 (fun i hi => h i (by omega))
      have h2 := h n (by omega)
      omega

theorem bits_255 (k : Nat) (hk : k < 8) : bitN 255 k = 1 := by
  rcases (by omega : k = 0 ∨ k = 1 ∨ k = 2 ∨ k = 3 ∨ k = 4 ∨ k = 5 ∨ k = 6 ∨ k = 7) with rfl | rfl | rfl | rfl | rfl | rfl | rfl | rfl <;> rfl
theorem zc_blank (l : List UInt8) : zc l (8 * l.length) = 0 ↔ ∀ j, j < l.length → l.getD j 0 = 255 := by
  rw [zc_zero]
  constructor
  · intro h j hj
    apply byte_eq_of_bits
    intro k hk
    have := h (8 * j + k) (by omega)
    rw [bitAt_of _ _ _ hk] at this
    rw [this, show (255 : UInt8).toNat = 255 from rfl, bits_255 k hk]
  · intro h i hi
    have h1 := h (i / 8) (by omega)
    unfold bitAt
    rw [h1, show (255 : UInt8).toNat = 255 from rfl, bits_255 _ (by omega)]

/-- a covers b: it is as long, and has all the bits of b that are 1. -/
def covB (a b : List UInt8) : Bool := decide (a.length = b.length ∧ ∀ i, i < 8 * b.length → bitAt b i ≤ bitAt a i)
/-- The byte of a mask at a place. -/
def maskB (m : List UInt8) (p : Nat) : UInt8 := if m.length = 0 then 0 else m.getD (p % m.length) 0
/-- A byte of which just the mask's bits are done. -/
def mixB (is want d : UInt8) : UInt8 := (is &&& ~~~d) ||| (want &&& d)
theorem mixB_toNat (is want d : UInt8) : (mixB is want d).toNat = (is.toNat &&& (255 - d.toNat)) ||| (want.toNat &&& d.toNat) := by
  simp [mixB]
theorem not_test (d : UInt8) (k : Nat) (hk : k < 8) : (255 - d.toNat).testBit k = !d.toNat.testBit k := by
  have := Nat.testBit_two_pow_sub_succ d.toNat_lt k
  rw [show 2 ^ 8 - (d.toNat + 1) = 255 - d.toNat by omega] at this
  rw [this]; simp [hk]
theorem mixB_test (is want d : UInt8) (k : Nat) (hk : k < 8) : (mixB is want d).toNat.testBit k = if d.toNat.testBit k then want.toNat.testBit k else is.toNat.testBit k := by
  rw [mixB_toNat, Nat.testBit_or, Nat.testBit_and, Nat.testBit_and, not_test d k hk]
  cases d.toNat.testBit k <;> simp

/-- What is programmed, byte by byte. -/
def progB (old b m : List UInt8) (p : Nat) : UInt8 := if p < b.length then mixB (old.getD p 0) (old.getD p 0 &&& b.getD p 0) (maskB m p) else old.getD p 0
def progL (old b m : List UInt8) : List UInt8 := (List.range old.length).map (progB old b m)
/-- What is erased, byte by byte, and bit by bit. -/
def erasB (old m : List UInt8) (p : Nat) : UInt8 := mixB (old.getD p 0) 255 (maskB m p)
def erasL (old m : List UInt8) : List UInt8 := (List.range old.length).map (erasB old m)
theorem progL_len (old b m : List UInt8) : (progL old b m).length = old.length := by simp [progL]
theorem erasL_len (old m : List UInt8) : (erasL old m).length = old.length := by simp [erasL]
/-- Bytes laid one after another over others. -/
def laid (f : Nat → UInt8) (l : List UInt8) (j : Nat) : List UInt8 := (List.range l.length).map fun p => if p < j then f p else l.getD p 0
theorem laid_zero (f : Nat → UInt8) (l : List UInt8) : laid f l 0 = l := by
  apply List.ext_getElem (by simp [laid])
  intro i h1 h2
  simp [laid, List.getD, List.getElem?_eq_getElem h2]
theorem laid_all (f : Nat → UInt8) (l : List UInt8) (j : Nat) (h : l.length ≤ j) : laid f l j = (List.range l.length).map f := by
  apply List.map_congr_left
  intro p hp
  rw [if_pos (by have := List.mem_range.1 hp; omega)]
theorem laid_len (f : Nat → UInt8) (l : List UInt8) (j : Nat) : (laid f l j).length = l.length := by simp [laid]
theorem laid_succ (f : Nat → UInt8) (l : List UInt8) (j : Nat) (_ : j < l.length) : laid f l (j + 1) = (laid f l j).set j (f j) := by
  apply List.ext_getElem (by simp [laid])
  intro i h1 h2
  rw [List.getElem_set]
  by_cases hij : j = i
  · subst hij; simp [laid]
  · rw [if_neg hij]
    simp only [laid, List.getElem_map, List.getElem_range]
    by_cases h3 : i < j
    · rw [if_pos (by omega), if_pos h3]
    · rw [if_neg (by omega), if_neg h3]
theorem laid_prog (old b m : List UInt8) (j : Nat) (h : min old.length b.length ≤ j) : laid (progB old b m) old j = progL old b m := by
  apply List.map_congr_left
  intro p hp
  have := List.mem_range.1 hp
  by_cases h1 : p < j
  · rw [if_pos h1]
  · rw [if_neg h1, progB, if_neg (by omega)]
theorem bits_mix (x y d : Nat) (hx : x < 256) (hy : y < 256) (hd : d < 256) : bits .or .u8 (bits .andNot .u8 (x : Int) (d : Int)) (bits .and .u8 (y : Int) (d : Int)) = (((x &&& (255 - d)) ||| (y &&& d) : Nat) : Int) := by
  have h1 : x &&& (255 - d) < 256 := Nat.lt_of_le_of_lt Nat.and_le_left hx
  have h2 : y &&& d < 256 := Nat.lt_of_le_of_lt Nat.and_le_left hy
  rw [u8_andNot_nat x d hx hd, u8_and_nat y d hy hd, u8_or_nat _ _ h1 h2]
theorem bits_not (x k : Nat) (hx : x < 256) (hk : k < 8) : bits .and .u8 (bits .xor .u8 (if IntKind.u8.signed = true then -1 else IntKind.u8.max) (x : Int) / 2 ^ k) 1 = ((1 - bitN x k : Nat) : Int) := by
  have e0 : (if IntKind.u8.signed = true then -1 else IntKind.u8.max) = ((255 : Nat) : Int) := by rfl
  have h1 : 255 ^^^ x < 256 := Nat.xor_lt_two_pow (n := 8) (by omega) hx
  have h2 : (255 ^^^ x) / 2 ^ k < 256 := Nat.lt_of_le_of_lt (Nat.div_le_self _ _) h1
  rw [e0, u8_xor_nat 255 x (by omega) hx, show (((255 ^^^ x : Nat) : Int) / 2 ^ k) = (((255 ^^^ x) / 2 ^ k : Nat) : Int) by simp, show (1 : Int) = ((1 : Nat) : Int) from rfl, u8_and_nat _ 1 h2 (by omega), nat_mask1]
  have e1 : (255 ^^^ x) / 2 ^ k % 2 = bitN (255 ^^^ x) k := rfl
  rw [e1, bitN_toNat, bitN_toNat, Nat.testBit_xor]
  have : (255 : Nat).testBit k = true := by rw [← bitN_test, bits_255 k hk]; rfl
  rw [this]
  cases x.testBit k <;> rfl
end
end Go.Proofs.Ytahipfmokbiklaa
