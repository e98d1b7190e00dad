/-
  DECIMAL DIGITS AND PIECES OF TEXTS, AS PLAIN MATHEMATICS: digits are read back; what is between ends. Nothing here runs a program.
-/
import Derived.Test.YtlenlopeakmplaaDoorRuneM
import Derived.Lib.ItoaMem
import Derived.Lib.AtoiAll
namespace Go.Proofs.YtlenlopeakmplaaDoor
open Go.RowKit

/-! ### decimal digits -/
theorem dec_small {u : Nat} (h : u < 10) : Lib.decDigits u = [UInt8.ofNat (48 + u)] := Lib.decDigits_one h
theorem dec_big {u : Nat} (h : ¬ u < 10) : Lib.decDigits u = Lib.decDigits (u / 10) ++ [UInt8.ofNat (48 + u % 10)] := by rw [Lib.decDigits, dif_neg h]
theorem itoa_small {n : Int} (h0 : 0 ≤ n) (h : n < 10) : Lib.itoa n = [UInt8.ofNat (48 + n.toNat)] := by
  unfold Lib.itoa; rw [if_neg (by omega), dec_small (by omega)]
theorem itoa_big {n : Int} (h : 10 ≤ n) : Lib.itoa n = Lib.itoa (Int.tdiv n 10) ++ Lib.itoa (Int.tmod n 10) := by
  obtain ⟨u, rfl⟩ := Int.eq_ofNat_of_zero_le (show 0 ≤ n by omega)
  have e1 : Int.tdiv (u : Int) 10 = ((u / 10 : Nat) : Int) := rfl
  have e2 : Int.tmod (u : Int) 10 = ((u % 10 : Nat) : Int) := rfl
  rw [e1, e2, Lib.itoa_nonneg, Lib.itoa_nonneg, Lib.itoa_nonneg, dec_big (by omega), dec_small (u := u % 10) (by omega)]
theorem itoa_neg_small {n : Int} (h : n < 0) : Lib.itoa n = 45 :: Lib.itoa (-n) := by
  obtain ⟨u, hu⟩ := Int.eq_ofNat_of_zero_le (show 0 ≤ -n by omega)
  have : n = -(u : Int) := by omega
  rw [hu, this, Lib.itoa_neg u (by omega), Lib.itoa_nonneg]
theorem itoa_neg_big {n : Int} (h : n ≤ -10) : Lib.itoa n = Lib.itoa (Int.tdiv n 10) ++ Lib.itoa (-(Int.tmod n 10)) := by
  obtain ⟨u, hu⟩ := Int.eq_ofNat_of_zero_le (show 0 ≤ -n by omega)
  have hn : n = -(u : Int) := by omega
  have e1 : Int.tdiv n 10 = -((u / 10 : Nat) : Int) := by rw [hn, Int.neg_tdiv]; rfl
  have e2 : -(Int.tmod n 10) = ((u % 10 : Nat) : Int) := by rw [hn, Int.neg_tmod]; show - -((u % 10 : Nat) : Int) = _; omega
  rw [e1, e2, hn, Lib.itoa_neg u (by omega), Lib.itoa_neg (u / 10) (by omega), Lib.itoa_nonneg, dec_big (by omega), dec_small (u := u % 10) (by omega)]
  rfl

theorem parse_dec : ∀ (u : Nat) (r : List UInt8), u < 1844674407370955162 → Lib.parseUint10 0 (Lib.decDigits u ++ r) = Lib.parseUint10 u r := by
  have step : ∀ (a d : Nat) (r : List UInt8), d < 10 → a * 10 + d < 1844674407370955162 → Lib.parseUint10 a (UInt8.ofNat (48 + d) :: r) = Lib.parseUint10 (a * 10 + d) r := by
    intro a d r hd ha
    have e : (UInt8.ofNat (48 + d)).toNat = 48 + d := by simp; omega
    conv => lhs; unfold Lib.parseUint10
    rw [e, if_pos (by omega), if_neg (by omega), if_neg (by omega)]
    rw [show 48 + d - 48 = d by omega]
  intro u
  induction u using Nat.strongRecOn with
  | ind u ih =>
    intro r h
    by_cases h10 : u < 10
    · rw [dec_small h10, List.singleton_append, step 0 u r h10 (by omega)]
      simp
    · rw [dec_big h10, List.append_assoc, ih (u / 10) (by omega) _ (by omega), List.singleton_append, step _ _ _ (by omega) (by omega)]
      rw [show u / 10 * 10 + u % 10 = u by omega]
theorem mag_dec (u : Nat) (h : u < 1844674407370955162) : Lib.parseMag (Lib.decDigits u) = .ok u := by
  have hl : Lib.decDigits u ≠ [] := by
    intro hh
    have := Lib.decDigits_length u
    have := Lib.nDigits_pos u
    rw [hh] at *
    simp at *
    omega
  unfold Lib.parseMag
  rw [if_neg hl]
  have := parse_dec u [] h
  rw [List.append_nil] at this
  rw [this]; rfl
theorem dec_digit (u : Nat) : ∀ c ∈ Lib.decDigits u, 48 ≤ c.toNat ∧ c.toNat ≤ 57 := by
  induction u using Nat.strongRecOn with
  | ind u ih =>
    intro c hc
    by_cases h10 : u < 10
    · rw [dec_small h10, List.mem_singleton] at hc
      subst hc; simp; omega
    · rw [dec_big h10, List.mem_append, List.mem_singleton] at hc
      rcases hc with hc | rfl
      · exact ih (u / 10) (by omega) c hc
      · simp; omega

/-- DIGITS ARE READ BACK. -/
theorem atoi_itoa (n : Int) (h0 : -1099511627776 ≤ n) (h1 : n ≤ 1099511627776) : Lib.atoiAll (Lib.itoa n) = .ok n := by
  by_cases hn : n < 0
  · obtain ⟨u, hu⟩ := Int.eq_ofNat_of_zero_le (show 0 ≤ -n by omega)
    have : n = -(u : Int) := by omega
    subst this
    rw [Lib.itoa_neg u (by omega)]
    unfold Lib.atoiAll
    have e45 : (45 : UInt8).toNat = 45 := rfl
    simp only [e45, or_true, if_true, mag_dec u (show u < 1844674407370955162 by omega), not_true, false_and, if_false, true_and]
    rw [if_neg (by omega)]
  · obtain ⟨u, hu⟩ := Int.eq_ofNat_of_zero_le (show 0 ≤ n by omega)
    subst hu
    rw [Lib.itoa_nonneg]
    have hm := mag_dec u (by omega)
    have hd := dec_digit u
    cases hl : Lib.decDigits u with
    | nil => rw [hl] at hm; cases hm
    | cons c r =>
      have hc := hd c (by rw [hl]; simp)
      unfold Lib.atoiAll
      simp only
      rw [if_neg (by omega), ← hl, hm]
      simp only
      rw [if_neg (by omega), if_neg (by omega)]
      rw [if_neg (by omega)]

/-! ### pieces -/
/-- What is between ends, in order, empty pieces, too; 'part' is begun. -/
def pcs (e : UInt8 → Bool) : List UInt8 → List UInt8 → List (List UInt8)
  | part, [] => [part]
  | part, c :: r => if e c = true then part :: pcs e [] r else pcs e (part ++ [c]) r
theorem pcs_ne (e : UInt8 → Bool) : ∀ l part, pcs e part l ≠ []
  | [], part => by unfold pcs; simp
  | c :: r, part => by
    unfold pcs
    split
    · simp
    · exact pcs_ne e r _
theorem pcs_app (e : UInt8 → Bool) : ∀ (p part l : List UInt8), (∀ c ∈ p, e c = false) → pcs e part (p ++ l) = pcs e (part ++ p) l
  | [], part, l, _ => by simp
  | c :: p, part, l, h => by
    rw [List.cons_append]
    conv => lhs; unfold pcs
    rw [if_neg (by rw [h c (by simp)]; simp), pcs_app e p _ l fun d hd => h d (List.mem_cons_of_mem _ hd)]
    simp
theorem pcs_end (e : UInt8 → Bool) (c : UInt8) (part l : List UInt8) (h : e c = true) : pcs e part (c :: l) = part :: pcs e [] l := by
  conv => lhs; unfold pcs
  rw [if_pos h]

/-- The reference's way, byte by byte. -/
def spl (a b : UInt8) (few : Bool) : List UInt8 → List UInt8 → List (List UInt8)
  | part, [] => if part ≠ [] then [part] else []
  | part, c :: r => if c ≠ a ∧ c ≠ b then spl a b few (part ++ [c]) r else (if part ≠ [] ∨ few = false then [part] else []) ++ spl a b few [] r
def ends (a b : UInt8) (c : UInt8) : Bool := c == a || c == b
theorem ends_iff (a b c : UInt8) : ends a b c = true ↔ ¬ (c ≠ a ∧ c ≠ b) := by
  unfold ends
  by_cases h1 : c = a <;> by_cases h2 : c = b <;> simp [h1, h2]

theorem spl_few (a b : UInt8) : ∀ (l part : List UInt8), spl a b true part l = (pcs (ends a b) part l).filter (· != [])
  | [], part => by unfold spl pcs; by_cases h : part = [] <;> simp [h]
  | c :: r, part => by
    unfold spl pcs
    by_cases h : c ≠ a ∧ c ≠ b
    · rw [if_pos h, if_neg (fun hh => (ends_iff a b c).1 hh h), spl_few]
    · rw [if_neg h, if_pos ((ends_iff a b c).2 h), spl_few, List.filter_cons]
      by_cases hp : part = [] <;> simp [hp]
/-- What is left of pieces: not the last one, if it is empty. -/
def trimLast (ls : List (List UInt8)) : List (List UInt8) := if ls.getLast? = some [] then ls.dropLast else ls
theorem trimLast_cons {x : List UInt8} {ls : List (List UInt8)} (h : ls ≠ []) : trimLast (x :: ls) = x :: trimLast ls := by
  unfold trimLast
  cases ls with
  | nil => exact absurd rfl h
  | cons y ls =>
    rw [List.getLast?_cons_cons]
    split
    · simp
    · rfl
theorem spl_all (a b : UInt8) : ∀ (l part : List UInt8), spl a b false part l = trimLast (pcs (ends a b) part l)
  | [], part => by unfold spl pcs trimLast; by_cases h : part = [] <;> simp [h]
  | c :: r, part => by
    unfold spl pcs
    by_cases h : c ≠ a ∧ c ≠ b
    · rw [if_pos h, if_neg (fun hh => (ends_iff a b c).1 hh h), spl_all]
    · rw [if_neg h, if_pos ((ends_iff a b c).2 h), spl_all, trimLast_cons (pcs_ne _ _ _)]
      simp

/-- The bytes of a piece: one below 128, which is its number; else none is below 128. -/
theorem piece_bytes {l : List UInt8} (hl : l ≠ []) :
    (wd l = 1 ∧ va l = bt l 0 ∧ bt l 0 < 128 ∧ l.take (wd l) = [l.getD 0 0]) ∨ (128 ≤ va l ∧ ∀ c ∈ l.take (wd l), 128 ≤ c.toNat) := by
  have h1 : 1 ≤ l.length := by cases l with | nil => exact absurd rfl hl | cons a r => simp
  rcases sz_facts l with ⟨h, k⟩ | ⟨h, h', k⟩ | ⟨h, h', k, i1, g, le⟩ | ⟨h, h', k, i1, i2, g, g', le⟩ | ⟨h, h', k, i1, i2, i3, g, g', le⟩
  · have hw : wd l = 1 := by unfold wd; rw [if_pos h]
    refine .inr ⟨by rw [va_of.1 h]; omega, ?_⟩
    rw [hw, take1 h1]
    intro c hc; rw [List.mem_singleton] at hc; subst hc; exact k
  · have hw : wd l = 1 := by unfold wd; rw [if_neg (by omega), h]
    exact .inl ⟨hw, h', k, by rw [hw, take1 h1]⟩
  · have hw : wd l = 2 := by unfold wd; rw [if_neg (by omega), h]
    refine .inr ⟨g, ?_⟩
    rw [hw, take2 le]
    unfold inr at *
    intro c hc
    simp only [List.mem_cons, List.not_mem_nil, or_false] at hc
    unfold bt at *
    rcases hc with rfl | rfl <;> omega
  · have hw : wd l = 3 := by unfold wd; rw [if_neg (by omega), h]
    refine .inr ⟨by omega, ?_⟩
    rw [hw, take3 le]
    unfold inr at *
    intro c hc
    simp only [List.mem_cons, List.not_mem_nil, or_false] at hc
    unfold bt at *
    rcases hc with rfl | rfl | rfl <;> omega
  · have hw : wd l = 4 := by unfold wd; rw [if_neg (by omega), h]
    refine .inr ⟨by omega, ?_⟩
    rw [hw, take4 le]
    unfold inr at *
    intro c hc
    simp only [List.mem_cons, List.not_mem_nil, or_false] at hc
    unfold bt at *
    rcases hc with rfl | rfl | rfl | rfl <;> omega

end Go.Proofs.YtlenlopeakmplaaDoor
