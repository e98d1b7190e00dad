/-
  ESCAPED TEXTS, AS PLAIN MATHEMATICS: digits from 0 to f, what a text is escaped as, and that it comes back. Nothing here runs a program.
-/
import Derived.Test.YtlenlopeakmplaaDoorRuneM
namespace Go.Proofs.YtlenlopeakmplaaDoor
open Go.RowKit

/-! ### digits from 0 to f -/
def dig (d : Nat) : UInt8 := UInt8.ofNat (if d < 10 then 48 + d else 87 + d)
def hexD (n : Nat) : List UInt8 := if _h : n < 16 then [dig n] else hexD (n / 16) ++ [dig (n % 16)]
  termination_by n
  decreasing_by omega
/-- At least two digits. -/
def two (n : Nat) : List UInt8 := if n < 16 then 48 :: hexD n else hexD n

theorem hexD_small {n : Nat} (h : n < 16) : hexD n = [dig n] := by rw [hexD, dif_pos h]
theorem hexD_big {n : Nat} (h : ¬ n < 16) : hexD n = hexD (n / 16) ++ [dig (n % 16)] := by rw [hexD, dif_neg h]
theorem hexD_len (n : Nat) : 1 ≤ (hexD n).length := by
  by_cases h : n < 16
  · rw [hexD_small h]; simp
  · rw [hexD_big h]; simp
theorem hexD_le : ∀ (k n : Nat), n < 16 ^ (k + 1) → (hexD n).length ≤ k + 1
  | 0, n, h => by rw [hexD_small (by omega)]; simp
  | k + 1, n, h => by
    by_cases h16 : n < 16
    · rw [hexD_small h16]; simp
    · rw [hexD_big h16, List.length_append]
      have := hexD_le k (n / 16) (by rw [Nat.pow_succ] at h; omega)
      simp; omega

/-- A digit's number. -/
def lw (c : UInt8) : Nat := c.toNat ||| 32
def hexv (c : UInt8) : Option Nat := if 48 ≤ c.toNat ∧ c.toNat ≤ 57 then some (c.toNat - 48) else if 97 ≤ lw c ∧ lw c ≤ 102 then some (lw c - 87) else none
def hexGo (M : Nat) : List UInt8 → Nat → Option Nat
  | [], a => some a
  | c :: r, a => match hexv c with
    | none => none
    | some d => if a * 16 + d > M then none else hexGo M r (a * 16 + d)
/-- The number of at most M that digits tell. -/
def parseHex (M : Nat) (l : List UInt8) : Option Nat := if l = [] then none else hexGo M l 0

theorem hexv_dig_fin : ∀ d : Fin 16, hexv (dig d.val) = some d.val := by decide +kernel
theorem hexv_dig {d : Nat} (h : d < 16) : hexv (dig d) = some d := hexv_dig_fin ⟨d, h⟩
theorem hexv_lt {c : UInt8} {d : Nat} (h : hexv c = some d) : d < 16 := by
  unfold hexv at h
  split at h
  · injection h; omega
  · split at h
    · injection h; omega
    · cases h
theorem dig_ne_fin : ∀ d : Fin 16, dig d.val ≠ 46 ∧ dig d.val ≠ 120 := by decide +kernel
theorem hexD_ne (n : Nat) : ∀ c ∈ hexD n, c ≠ 46 ∧ c ≠ 120 := by
  induction n using Nat.strongRecOn with
  | ind n ih =>
    intro c hc
    by_cases h : n < 16
    · rw [hexD_small h, List.mem_singleton] at hc
      subst hc; exact dig_ne_fin ⟨n, h⟩
    · rw [hexD_big h, List.mem_append, List.mem_singleton] at hc
      rcases hc with hc | rfl
      · exact ih (n / 16) (by omega) c hc
      · exact dig_ne_fin ⟨n % 16, by omega⟩

theorem hexGo_hexD (M : Nat) : ∀ (n : Nat) (r : List UInt8), n ≤ M → hexGo M (hexD n ++ r) 0 = hexGo M r n := by
  intro n
  induction n using Nat.strongRecOn with
  | ind n ih =>
    intro r hM
    by_cases h : n < 16
    · rw [hexD_small h]
      show hexGo M (dig n :: r) 0 = _
      unfold hexGo
      rw [hexv_dig h]
      simp only [Nat.zero_mul, Nat.zero_add]
      rw [if_neg (by omega)]
      cases r <;> rfl
    · rw [hexD_big h, List.append_assoc, ih (n / 16) (by omega) _ (by omega)]
      show hexGo M (dig (n % 16) :: r) (n / 16) = _
      conv => lhs; unfold hexGo
      rw [hexv_dig (by omega)]
      simp only
      have e : n / 16 * 16 + n % 16 = n := by omega
      rw [e, if_neg (by omega)]
theorem hexGo_zero (M : Nat) (l : List UInt8) : hexGo M (48 :: l) 0 = hexGo M l 0 := by
  conv => lhs; unfold hexGo
  rw [show hexv 48 = some 0 from by decide]
  simp

theorem parse_two {M n : Nat} (h : n ≤ M) : parseHex M (two n) = some n := by
  have hne : hexD n ≠ [] := fun hh => by have := hexD_len n; rw [hh] at this; simp at this
  have hgo : hexGo M (hexD n) 0 = some n := by
    have := hexGo_hexD M n [] h
    rw [List.append_nil] at this
    rw [this]; rfl
  unfold parseHex two
  by_cases h16 : n < 16
  · rw [if_pos h16, if_neg (by simp), hexGo_zero, hgo]
  · rw [if_neg h16, if_neg hne, hgo]
theorem two_ne (n : Nat) : ∀ c ∈ two n, c ≠ 46 ∧ c ≠ 120 := by
  intro c hc
  unfold two at hc
  split at hc
  · rcases List.mem_cons.1 hc with rfl | hc
    · decide
    · exact hexD_ne n c hc
  · exact hexD_ne n c hc
theorem two_head (n : Nat) : ∃ c r, two n = c :: r ∧ c ≠ 120 := by
  have h := two_ne n
  have : two n ≠ [] := by
    unfold two
    split
    · simp
    · intro hh; have := hexD_len n; rw [hh] at this; simp at this
  cases hl : two n with
  | nil => exact absurd hl this
  | cons c r => exact ⟨c, r, rfl, (h c (by rw [hl]; simp)).2⟩
theorem two_le {n : Nat} (h : n ≤ 1114111) : (two n).length ≤ 6 := by
  unfold two
  split
  · have := hexD_le 0 n (by omega); simp; omega
  · exact hexD_le 5 n (by omega)

theorem hexGo_le {M : Nat} : ∀ (l : List UInt8) (a n : Nat), a ≤ M → hexGo M l a = some n → n ≤ M
  | [], a, n, h, hh => by unfold hexGo at hh; injection hh; omega
  | c :: r, a, n, h, hh => by
    unfold hexGo at hh
    split at hh
    · cases hh
    · split at hh
      · cases hh
      · exact hexGo_le r _ n (by omega) hh
theorem parseHex_le {M n : Nat} {l : List UInt8} (h : parseHex M l = some n) : n ≤ M := by
  unfold parseHex at h
  split at h
  · cases h
  · exact hexGo_le l 0 n (Nat.zero_le _) h

/-! ### escaped -/
/-- A piece, escaped. -/
def escP (p : List UInt8) : List UInt8 :=
  if val p < 0 then 92 :: 120 :: (two (bt p 0) ++ [46]) else if 32 < val p ∧ val p < 127 ∧ val p ≠ 92 then p else 92 :: (two (val p).toNat ++ [46])
def esc (l : List UInt8) : List UInt8 := (runes l).flatMap escP

theorem esc_nil : esc [] = [] := rfl
theorem esc_cons {l : List UInt8} (hl : l ≠ []) : esc l = escP (l.take (wd l)) ++ esc (l.drop (wd l)) := by
  unfold esc; rw [runes_cons hl, List.flatMap_cons]

theorem val_le (l : List UInt8) : val l ≤ 1114111 := by
  have := va_le l
  unfold val; split <;> omega
theorem escP_le (p : List UInt8) (hp : p.length ≤ 4) : (escP p).length ≤ 9 := by
  have h1 := val_le p
  have h2 := bt_lt p 0
  unfold escP
  split
  · have := two_le (n := bt p 0) (by omega); simp; omega
  · split
    · omega
    · have := two_le (n := (val p).toNat) (by omega); simp; omega
theorem esc_le (l : List UInt8) : (esc l).length ≤ 9 * l.length := by
  refine rune_ind (P := fun l => (esc l).length ≤ 9 * l.length) (by simp [esc_nil]) (fun l hl ih => ?_) l
  have h1 := wd_pos l
  have h2 := wd_len hl
  have h4 := wd_le l
  have h3 := escP_le (l.take (wd l)) (by rw [List.length_take]; omega)
  rw [esc_cons hl, List.length_append]
  rw [List.length_drop] at ih
  omega

/-! ### back -/
/-- What a number between \\ and a point stands for. -/
def numd : List UInt8 → Option (List UInt8)
  | 120 :: r => (parseHex 255 r).map fun n => [UInt8.ofNat n]
  | l => (parseHex 2147483647 l).map fun n => (Utf8.encode (n : Int)).data.toList
def unesc : Nat → List UInt8 → Option (List UInt8)
  | 0, _ => none
  | f + 1, l =>
    match l.dropWhile (· != 92) with
    | [] => some l
    | _ :: b =>
      match b.dropWhile (· != 46) with
      | [] => none
      | _ :: r =>
        match numd (b.takeWhile (· != 46)) with
        | none => none
        | some one => (unesc f r).map fun t => l.takeWhile (· != 92) ++ (one ++ t)

theorem numd_x (r : List UInt8) : numd (120 :: r) = (parseHex 255 r).map fun n => [UInt8.ofNat n] := rfl
theorem numd_other {c : UInt8} {r : List UInt8} (h : c ≠ 120) : numd (c :: r) = (parseHex 2147483647 (c :: r)).map fun n => (Utf8.encode (n : Int)).data.toList := by
  unfold numd
  split
  · rename_i r' he
    injection he with h1 h2
    exact absurd h1 h
  · rfl

theorem unesc_plain (f : Nat) (c : UInt8) (X : List UInt8) (h : c ≠ 92) : unesc (f + 1) (c :: X) = (unesc (f + 1) X).map fun t => c :: t := by
  have hb : (c != 92) = true := by simpa using h
  unfold unesc
  rw [List.dropWhile_cons_of_pos (p := (· != 92)) hb, List.takeWhile_cons_of_pos (p := (· != 92)) hb]
  split
  · rfl
  · split
    · rfl
    · split
      · rfl
      · rw [Option.map_map]; rfl

theorem span46 (N X : List UInt8) (h : ∀ c ∈ N, c ≠ 46) : (N ++ 46 :: X).takeWhile (· != 46) = N ∧ (N ++ 46 :: X).dropWhile (· != 46) = 46 :: X := by
  induction N with
  | nil => exact ⟨rfl, rfl⟩
  | cons c N ih =>
    have hc : (c != 46) = true := by simpa using h c (by simp)
    obtain ⟨h1, h2⟩ := ih fun d hd => h d (List.mem_cons_of_mem _ hd)
    refine ⟨?_, ?_⟩
    · rw [List.cons_append, List.takeWhile_cons_of_pos (p := (· != 46)) hc, h1]
    · rw [List.cons_append, List.dropWhile_cons_of_pos (p := (· != 46)) hc, h2]
theorem unesc_number (f : Nat) (N X one : List UInt8) (h : ∀ c ∈ N, c ≠ 46) (hn : numd N = some one) : unesc (f + 1) (92 :: (N ++ 46 :: X)) = (unesc f X).map fun t => one ++ t := by
  obtain ⟨h1, h2⟩ := span46 N X h
  conv => lhs; unfold unesc
  rw [List.dropWhile_cons_of_neg (by simp), List.takeWhile_cons_of_neg (by simp)]
  simp only [h1, h2, hn, List.nil_append]

theorem unesc_esc (l : List UInt8) : ∀ f, l.length < f → unesc f (esc l) = some l := by
  refine rune_ind (P := fun l => ∀ f, l.length < f → unesc f (esc l) = some l) (fun f hf => ?_) (fun l hl ih f hf => ?_) l
  · obtain ⟨g, rfl⟩ : ∃ g, f = g + 1 := ⟨f - 1, by simp at hf; omega⟩
    rfl
  · obtain ⟨g, rfl⟩ : ∃ g, f = g + 1 := ⟨f - 1, by omega⟩
    have hw := wd_pos l
    have hwl := wd_len hl
    have hd : (l.drop (wd l)).length = l.length - wd l := List.length_drop
    have hv := val_take hl
    have hs := sz_take hl
    have e0 : bt (l.take (wd l)) 0 = bt l 0 := bt_take _ _ _ (by omega)
    rw [esc_cons hl]
    unfold escP
    rw [hv, e0]
    by_cases hneg : val l < 0
    · have hz : sz l = 0 := by
        refine Classical.byContradiction fun hz => ?_
        unfold val at hneg
        rw [if_neg hz] at hneg
        omega
      have hw1 : wd l = 1 := by unfold wd; rw [if_pos hz]
      rw [if_pos hneg]
      have hp := parse_two (M := 255) (n := bt l 0) (by have := bt_lt l 0; omega)
      have hn : numd (120 :: two (bt l 0)) = some [UInt8.ofNat (bt l 0)] := by rw [numd_x, hp]; rfl
      have h46 : ∀ c ∈ 120 :: two (bt l 0), c ≠ 46 := by
        intro c hc
        rcases List.mem_cons.1 hc with rfl | hc
        · decide
        · exact (two_ne _ c hc).1
      have := unesc_number g (120 :: two (bt l 0)) (esc (l.drop (wd l))) _ h46 hn
      simp only [List.cons_append, List.append_assoc, List.nil_append] at this ⊢
      rw [this, ih g (by omega)]
      simp only [Option.map_some, Option.some.injEq]
      have ht := take1 (l := l) (by omega)
      rw [u8_bt] at ht
      rw [hw1]
      have := List.take_append_drop 1 l
      rw [ht] at this
      exact this
    · rw [if_neg hneg]
      have hz : sz l ≠ 0 := fun hz => by unfold val at hneg; rw [if_pos hz] at hneg; omega
      have hval : val l = (va l : Int) := by unfold val; rw [if_neg hz]
      by_cases hpl : 32 < val l ∧ val l < 127 ∧ val l ≠ 92
      · rw [if_pos hpl]
        have hsz : sz l = 1 ∧ va l = bt l 0 := by
          rcases sz_facts l with ⟨h, -⟩ | ⟨h, h', k⟩ | ⟨h, h', k, i1, g, le⟩ | ⟨h, h', k, i1, i2, g, -, -⟩ | ⟨h, h', k, i1, i2, i3, g, -, -⟩
          · exact absurd h hz
          · exact ⟨h, h'⟩
          · omega
          · omega
          · omega
        have hw1 : wd l = 1 := by unfold wd; rw [if_neg hz]; exact hsz.1
        have ht := take1 (l := l) (by omega)
        have hc : l.getD 0 0 ≠ 92 := by
          intro h
          have hb : bt l 0 = 92 := by unfold bt; rw [h]; rfl
          omega
        rw [hw1, ht]
        show unesc (g + 1) (l.getD 0 0 :: esc (l.drop 1)) = _
        rw [unesc_plain g _ _ hc]
        rw [hw1] at ih
        rw [ih (g + 1) (by rw [hw1] at hd; omega)]
        simp only [Option.map_some, Option.some.injEq]
        have := List.take_append_drop 1 l
        rw [ht] at this
        exact this
      · rw [if_neg hpl]
        have hvl := va_le l
        have hn0 : (val l).toNat = va l := by omega
        rw [hn0]
        have hp := parse_two (M := 2147483647) (n := va l) (by omega)
        obtain ⟨c, r, hcr, hc⟩ := two_head (va l)
        have hn : numd (two (va l)) = some (l.take (wd l)) := by
          rw [hcr, numd_other hc, ← hcr, hp]
          exact congrArg some (encode_va hl hz)
        have h46 : ∀ c ∈ two (va l), c ≠ 46 := fun c hc => (two_ne _ c hc).1
        have := unesc_number g (two (va l)) (esc (l.drop (wd l))) _ h46 hn
        simp only [List.cons_append, List.append_assoc, List.nil_append] at this ⊢
        rw [this, ih g (by omega)]
        simp only [Option.map_some, Option.some.injEq]
        exact List.take_append_drop _ _

end Go.Proofs.YtlenlopeakmplaaDoor
