/-
  LAYER 21, mathematics: a block's count; which of some blocks is put ahead of all others; erases played; the counts stay even.
-/
import Derived.Test.YtpepifbdndcbjaaWords
namespace Go.Proofs.Ytpepifbdndcbjaa
open Go.RowKit

/-- A block's count. -/
def ofZ (c : List Int) (b : Int) : Int := if b < 0 ∨ (c.length : Int) ≤ b then 0 else max (c.getD b.toNat 0) 0
theorem ofZ_nonneg (c : List Int) (b : Int) : 0 ≤ ofZ c b := by
  unfold ofZ; split <;> omega
theorem ofZ_le {c : List Int} (h : ∀ x ∈ c, x ≤ 9223372036854775807) (b : Int) : ofZ c b ≤ 9223372036854775807 := by
  unfold ofZ
  split
  · omega
  · rename_i hb
    have hlt : b.toNat < c.length := by omega
    have : c.getD b.toNat 0 ≤ 9223372036854775807 := by
      rw [List.getD, List.getElem?_eq_getElem hlt]
      exact h _ (List.getElem_mem hlt)
    omega
theorem ofZ_at {c : List Int} {k : Nat} (hk : k < c.length) (h : 0 ≤ c.getD k 0) : ofZ c (k : Int) = c.getD k 0 := by
  unfold ofZ
  rw [if_neg (by omega), Int.toNat_natCast]
  omega

def cmpY (x y : Int) : Int := if x < y then -1 else if y < x then 1 else 0
def orY (x y : Int) : Int := if x = 0 then y else x
/-- Which of two blocks is put ahead: below 0: the first one. -/
def cmpL (c : List Int) (a b : Int) : Int := orY (cmpY (ofZ c a) (ofZ c b)) (cmpY a b)
def cmpM (c : List Int) (a b : Int) : Int := orY (cmpY (ofZ c b) (ofZ c a)) (cmpY a b)
def ahL (c : List Int) (a b : Int) : Bool := decide (ofZ c a < ofZ c b ∨ ofZ c a = ofZ c b ∧ a < b)
def ahM (c : List Int) (a b : Int) : Bool := decide (ofZ c b < ofZ c a ∨ ofZ c a = ofZ c b ∧ a < b)
theorem cmpY_or (x y a b : Int) : decide (orY (cmpY x y) (cmpY a b) < 0) = decide (x < y ∨ x = y ∧ a < b) := by
  apply decide_eq_decide.2
  unfold orY cmpY
  by_cases h1 : x < y
  · simp [h1]
  · by_cases h2 : y < x
    · simp [h1, h2]
      omega
    · obtain rfl : x = y := by omega
      by_cases h3 : a < b
      · simp [h3]
      · by_cases h4 : b < a <;> simp [h3, h4]
theorem cmpL_ah (c : List Int) (a b : Int) : decide (cmpL c a b < 0) = ahL c a b := cmpY_or _ _ _ _
theorem cmpM_ah (c : List Int) (a b : Int) : decide (cmpM c a b < 0) = ahM c a b := by
  unfold cmpM ahM
  rw [cmpY_or]
  exact decide_eq_decide.2 ⟨fun h => h.imp id fun ⟨h1, h2⟩ => ⟨h1.symm, h2⟩, fun h => h.imp id fun ⟨h1, h2⟩ => ⟨h1.symm, h2⟩⟩

/-- The one that is put ahead among the first i + 1; of those that are put alike the first. -/
def pickZ (p : Int → Int → Bool) (l : List Int) : Nat → Int
  | 0 => l.getD 0 0
  | i + 1 => if p (l.getD (i + 1) 0) (pickZ p l i) = true then l.getD (i + 1) 0 else pickZ p l i
def bstZ (p : Int → Int → Bool) (l : List Int) : Int := pickZ p l (l.length - 1)
theorem pickZ_next {p : Int → Int → Bool} {l : List Int} (i : Nat) : pickZ p l (i + 1) = if p (l.getD (i + 1) 0) (pickZ p l i) = true then l.getD (i + 1) 0 else pickZ p l i := rfl
/-- Its place, as the document's answer counts it: below 0: there is none. -/
def idxZ (p : Int → Int → Bool) (l : List Int) : Nat → Int
  | 0 => -1
  | i + 1 => if idxZ p l i < 0 ∨ p (l.getD i 0) (l.getD (idxZ p l i).toNat 0) = true then (i : Int) else idxZ p l i
theorem idxZ_at {p : Int → Int → Bool} {l : List Int} : ∀ i, 0 ≤ idxZ p l (i + 1) ∧ idxZ p l (i + 1) < (i : Int) + 1 ∧ l.getD (idxZ p l (i + 1)).toNat 0 = pickZ p l i
  | 0 => by
    rw [idxZ, if_pos (.inl (by rw [idxZ]; decide))]
    exact ⟨by omega, by omega, rfl⟩
  | i + 1 => by
    obtain ⟨h1, h2, h3⟩ := idxZ_at (p := p) (l := l) i
    rw [idxZ, pickZ_next, h3]
    by_cases h : p (l.getD (i + 1) 0) (pickZ p l i) = true
    · rw [if_pos (.inr h), if_pos h]
      refine ⟨by omega, by omega, ?_⟩
      rw [Int.toNat_natCast]
    · rw [if_neg (by rintro (h4 | h4); omega; exact h h4), if_neg h]
      exact ⟨h1, by omega, h3⟩
theorem idxZ_neg {p : Int → Int → Bool} {l : List Int} (n : Nat) : idxZ p l n < 0 ↔ n = 0 := by
  cases n with
  | zero => simp [idxZ]
  | succ n => have := (idxZ_at (p := p) (l := l) n).1; omega
theorem idxZ_lt {p : Int → Int → Bool} {l : List Int} (n : Nat) (h : ¬ idxZ p l n < 0) : 0 ≤ idxZ p l n ∧ (idxZ p l n).toNat < n ∧ l.getD (idxZ p l n).toNat 0 = pickZ p l (n - 1) := by
  cases n with
  | zero => exact absurd (by simp [idxZ]) h
  | succ n =>
    obtain ⟨h1, h2, h3⟩ := idxZ_at (p := p) (l := l) n
    exact ⟨h1, by omega, h3⟩

/-- The blocks from 0 on. -/
def upZ (n : Nat) : List Int := (List.range n).map fun i : Nat => (i : Int)
theorem upZ_len (n : Nat) : (upZ n).length = n := by simp [upZ]
theorem upZ_at {n k : Nat} (h : k < n) : (upZ n).getD k 0 = (k : Int) := by simp [upZ, List.getD, List.getElem?_eq_getElem, h]
theorem upZ_next (n : Nat) : upZ (n + 1) = upZ n ++ [(n : Int)] := by simp [upZ, List.range_succ]
theorem upZ_mem {n : Nat} {b : Int} (h1 : 0 ≤ b) (h2 : b < (n : Int)) : b ∈ upZ n := by
  unfold upZ
  exact List.mem_map.2 ⟨b.toNat, List.mem_range.2 (by omega), by omega⟩
/-- The least of the first k counts: the first of them. -/
def lowZ (c : List Int) : Nat → Nat
  | 0 => 0
  | k + 1 => if c.getD k 0 < c.getD (lowZ c k) 0 then k else lowZ c k
theorem lowZ_lt (c : List Int) : ∀ k, lowZ c (k + 1) ≤ k
  | 0 => by unfold lowZ; split <;> simp [lowZ]
  | k + 1 => by
    have := lowZ_lt c k
    rw [lowZ]; split <;> omega
theorem lowZ_le (c : List Int) : ∀ (k i : Nat), i < k → c.getD (lowZ c k) 0 ≤ c.getD i 0
  | 0, i, h => absurd h (Nat.not_lt_zero _)
  | k + 1, i, h => by
    rw [lowZ]
    by_cases hi : i = k
    · subst hi; split <;> omega
    · have := lowZ_le c k i (by omega)
      split <;> omega
theorem pick_low {c : List Int} {n : Nat} (hc : c.length = n) (h0 : ∀ i, i < n → 0 ≤ c.getD i 0) : ∀ i, i < n → pickZ (ahL c) (upZ n) i = ((lowZ c (i + 1) : Nat) : Int)
  | 0, h => by
    show (upZ n).getD 0 0 = _
    rw [upZ_at h]
    have := lowZ_lt c 0
    omega
  | i + 1, h => by
    have ih := pick_low hc h0 i (by omega)
    have hl := lowZ_lt c i
    rw [pickZ_next, ih, upZ_at h]
    have e1 : ofZ c ((i + 1 : Nat) : Int) = c.getD (i + 1) 0 := ofZ_at (by omega) (h0 _ h)
    have e2 : ofZ c ((lowZ c (i + 1) : Nat) : Int) = c.getD (lowZ c (i + 1)) 0 := ofZ_at (by omega) (h0 _ (by omega))
    have e3 : lowZ c (i + 1 + 1) = if c.getD (i + 1) 0 < c.getD (lowZ c (i + 1)) 0 then i + 1 else lowZ c (i + 1) := rfl
    rw [e3]
    unfold ahL
    rw [e1, e2]
    by_cases hlt : c.getD (i + 1) 0 < c.getD (lowZ c (i + 1)) 0
    · rw [if_pos (decide_eq_true (.inl hlt)), if_pos hlt]
    · rw [if_neg (by rw [decide_eq_true_eq]; rintro (h1 | ⟨_, h2⟩); exact hlt h1; omega), if_neg hlt]

/-- Which block is erased: the one that is asked, or the one that is worn least. -/
def askZ (g : Int) (c : List Int) (n b : Nat) : Nat := if c.getD b 0 - c.getD (lowZ c n) 0 < g then b else lowZ c n
def eraZ (c : List Int) (j : Nat) : List Int := c.set j (c.getD j 0 + 1)
/-- Counts behind what is asked. -/
def playZ (g : Int) (n : Nat) : List Int → List Int → List Int
  | c, [] => c
  | c, a :: l => playZ g n (eraZ c (askZ g c n (a % (n : Int)).toNat)) l
/-- Counts of n blocks behind k erases: even. -/
structure Ev (g : Int) (n k : Nat) (c : List Int) : Prop where
  len : c.length = n
  pos : ∀ i, i < n → 0 ≤ c.getD i 0
  top : ∀ i, i < n → c.getD i 0 ≤ (k : Int)
  even : ∀ i j, i < n → j < n → c.getD i 0 - c.getD j 0 ≤ g
theorem Ev.start {g : Int} {n : Nat} (hg : 1 ≤ g) : Ev g n 0 (List.replicate n 0) := by
  have e : ∀ i, (List.replicate n (0 : Int)).getD i 0 = 0 := by
    intro i
    rw [List.getD_eq_getElem?_getD, List.getElem?_replicate]
    split <;> rfl
  exact ⟨List.length_replicate, fun i _ => by rw [e]; omega, fun i _ => by rw [e]; omega, fun i j _ _ => by rw [e, e]; omega⟩
theorem set_getD (c : List Int) (j i : Nat) (x : Int) (hj : j < c.length) : (c.set j x).getD i 0 = if i = j then x else c.getD i 0 := by
  rw [List.getD_eq_getElem?_getD, List.getElem?_set]
  by_cases h : j = i
  · subst h; simp [hj]
  · rw [if_neg h, if_neg (Ne.symm h), List.getD_eq_getElem?_getD]
theorem askZ_lt {g : Int} {c : List Int} {n b : Nat} (hb : b < n) : askZ g c n b < n := by
  unfold askZ
  split
  · exact hb
  · obtain ⟨m, rfl⟩ : ∃ m, n = m + 1 := ⟨n - 1, by omega⟩
    have := lowZ_lt c m
    omega
theorem Ev.next {g : Int} {n k : Nat} {c : List Int} (h : Ev g n k c) (hg : 1 ≤ g) (b : Nat) (hb : b < n) : Ev g n (k + 1) (eraZ c (askZ g c n b)) := by
  have hj := askZ_lt (g := g) (c := c) hb
  have hlow : lowZ c n < n := by
    obtain ⟨m, rfl⟩ : ∃ m, n = m + 1 := ⟨n - 1, by omega⟩
    have := lowZ_lt c m
    omega
  have hd : c.getD (askZ g c n b) 0 - c.getD (lowZ c n) 0 < g := by
    unfold askZ
    split
    · assumption
    · omega
  generalize askZ g c n b = j at *
  have e : ∀ i, (eraZ c j).getD i 0 = if i = j then c.getD j 0 + 1 else c.getD i 0 := fun i => set_getD c j i _ (by rw [h.len]; exact hj)
  refine ⟨by unfold eraZ; rw [List.length_set]; exact h.len, fun i hi => ?_, fun i hi => ?_, fun i i2 hi hi2 => ?_⟩
  · rw [e]
    have := h.pos i hi
    have := h.pos j hj
    split <;> omega
  · rw [e]
    have := h.top i hi
    have := h.top j hj
    split <;> omega
  · rw [e, e]
    have h1 := h.even i i2 hi hi2
    have h2 := lowZ_le c n i2 hi2
    have h3 := h.even i j hi hj
    split <;> split <;> omega
theorem playZ_ev {g : Int} {n : Nat} (hg : 1 ≤ g) (hn : 0 < n) : ∀ (l c : List Int) (k : Nat), Ev g n k c → Ev g n (k + l.length) (playZ g n c l)
  | [], c, k, h => h
  | a :: l, c, k, h => by
    have hb : (a % (n : Int)).toNat < n := by
      have h1 := Int.emod_nonneg a (show (n : Int) ≠ 0 by omega)
      have h2 := Int.emod_lt_of_pos a (show (0 : Int) < (n : Int) by omega)
      omega
    have := playZ_ev hg hn l _ (k + 1) (h.next hg _ hb)
    rw [List.length_cons, show k + (l.length + 1) = k + 1 + l.length by omega]
    exact this
theorem playZ_snoc {g : Int} {n : Nat} (a : Int) : ∀ (l c : List Int), playZ g n c (l ++ [a]) = eraZ (playZ g n c l) (askZ g (playZ g n c l) n (a % (n : Int)).toNat)
  | [], c => rfl
  | x :: l, c => playZ_snoc a l _
theorem playZ_take {g : Int} {n : Nat} {l c : List Int} {k : Nat} (hk : k < l.length) : playZ g n c (l.take (k + 1)) = eraZ (playZ g n c (l.take k)) (askZ g (playZ g n c (l.take k)) n (l.getD k 0 % (n : Int)).toNat) := by
  rw [List.take_succ_eq_append_getElem hk, playZ_snoc]
  simp [List.getD, List.getElem?_eq_getElem hk]
/-- A number modulo n, from 0 on, by what is left of a division. -/
theorem mod_code (a : Int) (n : Nat) (hn : 0 < n) : (a.tmod (n : Int) + (n : Int)).tmod (n : Int) = a % (n : Int) := by
  have h1 := Int.emod_nonneg a (show (n : Int) ≠ 0 by omega)
  have h2 := Int.emod_lt_of_pos a (show (0 : Int) < (n : Int) by omega)
  have h3 : 0 ≤ a.tmod (n : Int) + (n : Int) := by
    have := Int.lt_tmod_of_pos a (show (0 : Int) < (n : Int) by omega)
    omega
  rw [Int.tmod_eq_emod_of_nonneg h3, Int.add_emod_right, Int.tmod_eq_emod]
  split
  · rw [show a % (n : Int) - ((0 : Nat) : Int) = a % (n : Int) by omega, Int.emod_emod]
  · rw [show ((n : Int).natAbs : Int) = (n : Int) by omega, Int.sub_emod_right, Int.emod_emod]
theorem mod_ref (a : Int) (n : Nat) (hn : 0 < n) : (if a.tmod (n : Int) < 0 then a.tmod (n : Int) + (n : Int) else a.tmod (n : Int)) = a % (n : Int) := by
  have h1 := Int.emod_nonneg a (show (n : Int) ≠ 0 by omega)
  have h2 := Int.emod_lt_of_pos a (show (0 : Int) < (n : Int) by omega)
  rw [Int.tmod_eq_emod]
  split
  · split <;> omega
  · split <;> omega
end Go.Proofs.Ytpepifbdndcbjaa
