/-
  A STABLE SORT, plain mathematics: what the library's stable sort does to an array (insertion sort of blocks of twenty, merged by rotations). Nothing here speaks of one program.
-/
import Derived.Sort.Lot0
import Derived.Shelf.SlSortCmp.KitK
namespace Go.Proofs.Ytjdaoenapmjoeaa
namespace St
open Go.Sort (swp)
section
variable {α : Type} [Inhabited α] (lt : α → α → Bool)
/-- Two stretches exchanged, from place i on. -/
def swapR (a b : Nat) : Nat → Nat → Array α → Array α
  | 0, _, d => d
  | k + 1, i, d => swapR a b k (i + 1) (swp d (a + i) (b + i))
def rotL (m : Nat) : Nat → Nat → Nat → Array α → Array α
  | 0, _, _, d => d
  | f + 1, i, j, d =>
    if i = j then swapR (m - i) m i 0 d
    else if j < i then rotL m f (i - j) j (swapR (m - i) m j 0 d)
    else rotL m f i (j - i) (swapR (m - i) (m + j - i) i 0 d)
def rot (a m b : Nat) (d : Array α) : Array α := rotL m (b - a) (m - a) (b - m) d
/-- The first place from i on, below j, of which p does not hold, if it holds first. -/
def bs (p : Nat → Bool) (i j : Nat) : Nat :=
  if _h : i < j then (if p ((i + j) / 2) = true then bs p ((i + j) / 2 + 1) j else bs p i ((i + j) / 2)) else i
termination_by j - i
decreasing_by all_goals omega
def upS (e : Nat) : Nat → Nat → Array α → Array α
  | 0, _, d => d
  | f + 1, k, d => if k < e then upS e f (k + 1) (swp d k (k + 1)) else d
def dnS (i : Nat) : Nat → Array α → Array α
  | 0, d => d
  | k + 1, d => if i < k + 1 then dnS i k (swp d (k + 1) k) else d
def symM : Nat → Nat → Nat → Nat → Array α → Array α
  | 0, _, _, _, d => d
  | f + 1, a, m, b, d =>
    if m - a = 1 then upS (bs (fun h => lt d[h]! d[a]!) m b - 1) (b - a) a d
    else if b - m = 1 then dnS (bs (fun h => !lt d[m]! d[h]!) a m) m d
    else
      let mid := (a + b) / 2
      let st := bs (fun c => !lt d[mid + m - 1 - c]! d[c]!) (if mid < m then mid + m - b else a) (if mid < m then mid else m)
      let d1 := if st < m ∧ m < mid + m - st then rot st m (mid + m - st) d else d
      let d2 := if a < st ∧ st < mid then symM f a st mid d1 else d1
      if mid < mid + m - st ∧ mid + m - st < b then symM f mid (mid + m - st) b d2 else d2
/-- Blocks of twenty. -/
def blkS (n : Nat) : Nat → Nat → Array α → Array α
  | 0, _, d => d
  | f + 1, a, d => if a + 20 ≤ n then blkS n f (a + 20) (Sort.insertionSort lt d a (a + 20)) else Sort.insertionSort lt d a n
def mrg (n s : Nat) : Nat → Nat → Array α → Array α
  | 0, _, d => d
  | f + 1, a, d => if a + 2 * s ≤ n then mrg n s f (a + 2 * s) (symM lt (2 * s) a (a + s) (a + 2 * s) d) else if a + s < n then symM lt (n - a) a (a + s) n d else d
def lvl (n : Nat) : Nat → Nat → Array α → Array α
  | 0, _, d => d
  | f + 1, s, d => if s < n then lvl n f (2 * s) (mrg lt n s (n + 1) 0 d) else d
def stab (d : Array α) : Array α := lvl lt d.size (d.size + 1) 20 (blkS lt d.size (d.size + 1) 0 d)

/-! ### sizes, and where the searches end -/
theorem swapR_size (a b : Nat) : ∀ (k i : Nat) (d : Array α), (swapR a b k i d).size = d.size
  | 0, _, _ => rfl
  | k + 1, i, d => by rw [swapR, swapR_size a b k]; exact Sort.size_swp _ _ _
theorem rotL_size (m : Nat) : ∀ (f i j : Nat) (d : Array α), (rotL m f i j d).size = d.size
  | 0, _, _, _ => rfl
  | f + 1, i, j, d => by
    rw [rotL]
    split
    · exact swapR_size _ _ _ _ _
    · split
      · rw [rotL_size m f, swapR_size]
      · rw [rotL_size m f, swapR_size]
theorem bs_in (p : Nat → Bool) : ∀ (n i j : Nat), j - i = n → i ≤ j → i ≤ bs p i j ∧ bs p i j ≤ j := by
  intro n
  induction n using Nat.strongRecOn with
  | ind n ih =>
    intro i j hn hij
    rw [bs]
    split
    · rename_i h
      split
      · have := ih (j - ((i + j) / 2 + 1)) (by omega) _ _ rfl (by omega)
        omega
      · have := ih ((i + j) / 2 - i) (by omega) _ _ rfl (by omega)
        omega
    · omega
theorem bs_ge (p : Nat → Bool) {i j : Nat} (h : i ≤ j) : i ≤ bs p i j := (bs_in p _ i j rfl h).1
theorem bs_le (p : Nat → Bool) {i j : Nat} (h : i ≤ j) : bs p i j ≤ j := (bs_in p _ i j rfl h).2
theorem upS_size (e : Nat) : ∀ (f k : Nat) (d : Array α), (upS e f k d).size = d.size
  | 0, _, _ => rfl
  | f + 1, k, d => by
    rw [upS]
    split
    · rw [upS_size e f]; exact Sort.size_swp _ _ _
    · rfl
theorem dnS_size (i : Nat) : ∀ (k : Nat) (d : Array α), (dnS i k d).size = d.size
  | 0, _ => rfl
  | k + 1, d => by
    rw [dnS]
    split
    · rw [dnS_size i k]; exact Sort.size_swp _ _ _
    · rfl
theorem symM_size : ∀ (f a m b : Nat) (d : Array α), (symM lt f a m b d).size = d.size
  | 0, _, _, _, _ => rfl
  | f + 1, a, m, b, d => by
    rw [symM]
    split
    · exact upS_size _ _ _ _
    · split
      · exact dnS_size _ _ _
      · dsimp only
        have h1 : ∀ st m en, (if st < m ∧ m < en then rot st m en d else d).size = d.size := fun st m en => by
          split
          · exact rotL_size _ _ _ _ _
          · rfl
        have h2 : ∀ (c : Prop) [Decidable c] x y z (e : Array α), (if c then symM lt f x y z e else e).size = e.size := fun c _ x y z e => by
          split
          · exact symM_size f x y z e
          · rfl
        rw [h2, h2, h1]
end
end St
end Go.Proofs.Ytjdaoenapmjoeaa
