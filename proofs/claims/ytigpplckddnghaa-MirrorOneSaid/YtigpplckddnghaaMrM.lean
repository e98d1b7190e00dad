/-
  LAYER 16, plain: what a page's table is. (Cut out of TbU and TbE.)
  MIRRORS, plain: the tables on a region's pages; the newest one; what a write leaves.
-/
import Derived.Test.YtigpplckddnghaaTbM
import Derived.Test.YtigpplckddnghaaDev2
import Derived.Test.YtigpplckddnghaaDev6
namespace Go.Proofs.Ytigpplckddnghaa
section
open Go.RowKit

def zeroT : Tb := ⟨0, [], [], []⟩
/-- What Get answers. -/
def getT (b : List UInt8) : Tb × Int := if classN b = 0 then (zeroT, 8) else if classN b = 1 then (if (readT (headOf b) (dataOf b)).May ∧ (readT (headOf b) (dataOf b)).page = b then (readT (headOf b) (dataOf b), 0) else (zeroT, 6)) else (zeroT, 6)
theorem getT_class {b : List UInt8} : (classN b = 0 → getT b = (zeroT, 8)) ∧ (classN b = 2 → getT b = (zeroT, 6)) ∧ ((getT b).2 = 0 → (getT b).1.May ∧ (getT b).1.page = b) ∧ (classN b = 1 → (getT b).2 = 0 ∨ getT b = (zeroT, 6)) := by
  refine ⟨fun h => by unfold getT; rw [if_pos h], fun h => by unfold getT; rw [if_neg (by omega), if_neg (by omega)], fun h => ?_, fun h => ?_⟩
  · unfold getT at *
    by_cases h0 : classN b = 0
    · rw [if_pos h0] at h; exact absurd h (by decide)
    · rw [if_neg h0] at h ⊢
      by_cases h1 : classN b = 1
      · rw [if_pos h1] at h ⊢
        by_cases h2 : (readT (headOf b) (dataOf b)).May ∧ (readT (headOf b) (dataOf b)).page = b
        · rw [if_pos h2]; exact h2
        · rw [if_neg h2] at h; exact absurd h (by decide)
      · rw [if_neg h1] at h; exact absurd h (by decide)
  · unfold getT
    rw [if_neg (by omega), if_pos h]
    by_cases h2 : (readT (headOf b) (dataOf b)).May ∧ (readT (headOf b) (dataOf b)).page = b
    · rw [if_pos h2]; exact .inl rfl
    · rw [if_neg h2]; exact .inr rfl

theorem getT_page {t : Tb} (h : t.May) : getT t.page = (t, 0) := by
  have hm := Tb.hd_may h
  have hd : t.data.length = t.hd.len.toNat := by show _ = ((t.data.length : Int)).toNat; rw [Int.toNat_natCast]
  obtain ⟨e1, e2⟩ := page_back t.hd t.data hm hd
  have hc := class_page t.hd t.data hm hd
  unfold getT
  rw [show t.page = pageB t.hd t.data from rfl, hc, e1, e2, read_back h, if_neg (by decide), if_pos rfl, if_pos ⟨h, rfl⟩]
end
section
open Go.RowKit

/-- A page's table, if it has one. -/
def tabOf (b : List UInt8) : Option Tb := if (getT b).2 = 0 then some (getT b).1 else none
/-- The tables of n pages, from page z on. -/
def tabsF (pg : Nat → List UInt8) (z : Nat) : Nat → List Tb
  | 0 => []
  | n + 1 => tabsF pg z n ++ (tabOf (pg (z + n))).toList
def Dv.tabs (D : Dv) (r : Nat) : List Tb := tabsF D.pg (r * D.np) D.np
def newer : Option Tb → Tb → Option Tb
  | none, t => some t
  | some u, t => if u.seq ≤ t.seq then some t else some u
def last (l : List Tb) : Option Tb := l.foldl newer none
def comb : Option Tb → Option Tb → Option (Tb × Nat)
  | none, none => none
  | some a, none => some (a, 0)
  | none, some b => some (b, 1)
  | some a, some b => if a.seq < b.seq then some (b, 1) else some (a, 0)
/-- The newest table, and its region. -/
def Dv.newest (D : Dv) : Option (Tb × Nat) := comb (last (D.tabs 0)) (last (D.tabs 1))
def Dv.older (D : Dv) : Nat := match D.newest with
  | some (_, 0) => 1
  | _ => 0
/-- What a write answers and leaves. -/
def Dv.writeR (D : Dv) (p : List UInt8) : Int × Dv :=
  if D.nx D.older = D.np then (if (D.eraR D.older).1 = 0 then (D.eraR D.older).2.progR D.older ((D.eraR D.older).2.nx D.older) p else D.eraR D.older) else D.progR D.older (D.nx D.older) p

theorem Dv.older_two (D : Dv) : D.older = 0 ∨ D.older = 1 := by
  unfold Dv.older
  split
  · exact .inr rfl
  · exact .inl rfl

/-! ### a page and its table -/
theorem tabOf_blank : tabOf (List.replicate 256 255) = none := by
  unfold tabOf getT
  rw [if_pos (show classN (List.replicate 256 255) = 0 by unfold classN; rw [if_pos rfl])]
  rfl
theorem tabOf_some {b : List UInt8} {u : Tb} (h : tabOf b = some u) : u.May ∧ u.page = b ∧ rightB b = true := by
  unfold tabOf at h
  by_cases h0 : (getT b).2 = 0
  · rw [if_pos h0] at h
    injection h with h
    have hc := (getT_class (b := b)).2.2.1 h0
    rw [h] at hc
    refine ⟨hc.1, hc.2, ?_⟩
    rw [← hc.2]
    exact page_right u.hd u.data (Tb.hd_may hc.1) (by show _ = ((u.data.length : Int)).toNat; rw [Int.toNat_natCast])
  · rw [if_neg h0] at h; cases h
theorem tabOf_page {t : Tb} (h : t.May) : tabOf t.page = some t := by
  unfold tabOf
  rw [getT_page h]
  rfl
theorem page_inj {t u : Tb} (ht : t.May) (hu : u.May) (h : t.page = u.page) : t = u := by
  have h1 := tabOf_page ht
  rw [h, tabOf_page hu] at h1
  injection h1 with h1
  exact h1.symm
theorem Tb.page_len {t : Tb} (h : t.May) : t.page.length = 256 := by
  have h4 := h.2.2.2.1
  exact pageB_len _ _ (by rw [Tb.data_len]; omega)
/-- What covers a table's page has no other table. -/
theorem tab_cov {b : List UInt8} {t u : Tb} (ht : t.May) (hc : covB b t.page = true) (h : tabOf b = some u) : u = t ∧ b = t.page := by
  obtain ⟨hu, he, hr⟩ := tabOf_some h
  have := page_told t.hd t.data b (Tb.hd_may ht) (by show _ = ((t.data.length : Int)).toNat; rw [Int.toNat_natCast]) hc hr
  have e : b = t.page := this
  exact ⟨page_inj hu ht (he.trans e), e⟩

/-! ### lists of tables -/
theorem tabsF_mem {pg : Nat → List UInt8} {z : Nat} {u : Tb} : ∀ {n : Nat}, u ∈ tabsF pg z n → ∃ k, k < n ∧ tabOf (pg (z + k)) = some u
  | 0, h => by cases h
  | n + 1, h => by
    unfold tabsF at h
    rcases List.mem_append.1 h with h | h
    · obtain ⟨k, hk, e⟩ := tabsF_mem h
      exact ⟨k, by omega, e⟩
    · exact ⟨n, by omega, by simpa using h⟩
theorem tabsF_of {pg : Nat → List UInt8} {z k : Nat} {u : Tb} : ∀ {n : Nat}, k < n → tabOf (pg (z + k)) = some u → u ∈ tabsF pg z n
  | 0, h, _ => by omega
  | n + 1, h, e => by
    unfold tabsF
    rw [List.mem_append]
    by_cases hk : k = n
    · subst hk; exact .inr (by simpa using e)
    · exact .inl (tabsF_of (by omega) e)
theorem tabsF_congr {pg pg' : Nat → List UInt8} {z : Nat} : ∀ {n : Nat}, (∀ k, k < n → pg (z + k) = pg' (z + k)) → tabsF pg z n = tabsF pg' z n
  | 0, _ => rfl
  | n + 1, h => by
    unfold tabsF
    rw [tabsF_congr (fun k hk => h k (by omega)), h n (by omega)]
/-- Behind the first m pages there are none. -/
theorem tabsF_end {pg : Nat → List UInt8} {z m : Nat} : ∀ {n : Nat}, m ≤ n → (∀ k, m ≤ k → k < n → tabOf (pg (z + k)) = none) → tabsF pg z n = tabsF pg z m
  | 0, h, _ => by rw [Nat.le_zero.1 h]
  | n + 1, h, e => by
    by_cases hm : m = n + 1
    · rw [hm]
    · rw [show tabsF pg z (n + 1) = tabsF pg z n ++ (tabOf (pg (z + n))).toList from rfl, e n (by omega) (by omega), tabsF_end (by omega) (fun k h1 h2 => e k h1 (by omega))]
      simp
theorem newer_some (u t : Tb) : newer (some u) t = if u.seq ≤ t.seq then some t else some u := rfl
theorem last_snoc (l : List Tb) (t : Tb) : last (l ++ [t]) = newer (last l) t := by
  unfold last
  rw [List.foldl_append]
  rfl
theorem last_some_of {l : List Tb} (h : l ≠ []) : ∃ u, last l = some u := by
  rcases List.eq_nil_or_concat l with h2 | ⟨m, t, h2⟩
  · exact absurd h2 h
  · rw [h2, List.concat_eq_append, last_snoc]
    cases last m with
    | none => exact ⟨t, rfl⟩
    | some u => by_cases hs : u.seq ≤ t.seq
                · exact ⟨t, by rw [newer_some, if_pos hs]⟩
                · exact ⟨u, by rw [newer_some, if_neg hs]⟩
theorem last_spec : ∀ (l : List Tb) {u : Tb}, last l = some u → u ∈ l ∧ ∀ t ∈ l, t.seq ≤ u.seq := by
  intro l
  induction hn : l.length generalizing l with
  | zero => intro u h; rw [List.eq_nil_of_length_eq_zero hn] at h; cases h
  | succ n ih =>
    intro u h
    rcases List.eq_nil_or_concat l with h2 | ⟨m, t, h2⟩
    · rw [h2] at hn; cases hn
    · rw [List.concat_eq_append] at h2
      subst h2
      have hm : m.length = n := by simpa using hn
      rw [last_snoc] at h
      cases hl : last m with
      | none =>
        rw [hl] at h
        have e : t = u := by injection h
        subst e
        have : m = [] := by
          rcases List.eq_nil_or_concat m with h3 | ⟨m2, t2, h3⟩
          · exact h3
          · obtain ⟨u2, h4⟩ := last_some_of (l := m) (by rw [h3]; simp)
            rw [hl] at h4; cases h4
        subst this
        exact ⟨by simp, fun x hx => by have h9 := List.mem_singleton.1 (show x ∈ [t] by simpa using hx); rw [h9]; exact Nat.le_refl _⟩
      | some v =>
        obtain ⟨h5, h6⟩ := ih m hm hl
        rw [hl] at h
        rw [newer_some] at h
        by_cases hs : v.seq ≤ t.seq
        · rw [if_pos hs] at h
          have e : t = u := by injection h
          subst e
          refine ⟨by simp, fun x hx => ?_⟩
          rcases List.mem_append.1 hx with hx | hx
          · exact Nat.le_trans (h6 x hx) hs
          · rw [List.mem_singleton.1 hx]; exact Nat.le_refl _
        · rw [if_neg hs] at h
          have e : v = u := by injection h
          subst e
          refine ⟨List.mem_append_left _ h5, fun x hx => ?_⟩
          rcases List.mem_append.1 hx with hx | hx
          · exact h6 x hx
          · rw [List.mem_singleton.1 hx]; omega
/-! ### the newest one, step by step -/
/-- What Newest's loops do with a table of region r: the code's, and the reference's. -/
def stepC (r : Nat) : Option (Tb × Nat) → Tb → Option (Tb × Nat)
  | none, t => some (t, r)
  | some (u, a), t => if u.seq < t.seq ∨ (t.seq = u.seq ∧ r = a) then some (t, r) else some (u, a)
theorem comb_step0 (a : Option Tb) (t : Tb) : stepC 0 (comb a none) t = comb (newer a t) none := by
  cases a with
  | none => rfl
  | some u =>
    rw [newer_some]
    show (if u.seq < t.seq ∨ (t.seq = u.seq ∧ 0 = 0) then some (t, 0) else some (u, 0)) = _
    by_cases h : u.seq ≤ t.seq
    · rw [if_pos h, if_pos (by omega)]; rfl
    · rw [if_neg h, if_neg (by omega)]; rfl
theorem comb_two (a b : Tb) : comb (some a) (some b) = if a.seq < b.seq then some (b, 1) else some (a, 0) := rfl
theorem comb_step1 (a b : Option Tb) (t : Tb) : stepC 1 (comb a b) t = comb a (newer b t) := by
  cases a with
  | none =>
    cases b with
    | none => rfl
    | some v =>
      rw [newer_some]
      show (if v.seq < t.seq ∨ (t.seq = v.seq ∧ 1 = 1) then some (t, 1) else some (v, 1)) = _
      by_cases h : v.seq ≤ t.seq
      · rw [if_pos h, if_pos (by omega)]; rfl
      · rw [if_neg h, if_neg (by omega)]; rfl
  | some u =>
    cases b with
    | none =>
      show (if u.seq < t.seq ∨ (t.seq = u.seq ∧ 1 = 0) then some (t, 1) else some (u, 0)) = comb (some u) (some t)
      rw [comb_two]
      by_cases h : u.seq < t.seq
      · rw [if_pos h, if_pos (.inl h)]
      · rw [if_neg h, if_neg (by omega)]
    | some v =>
      rw [newer_some, comb_two]
      by_cases huv : u.seq < v.seq
      · rw [if_pos huv]
        show (if v.seq < t.seq ∨ (t.seq = v.seq ∧ 1 = 1) then some (t, 1) else some (v, 1)) = _
        by_cases h : v.seq ≤ t.seq
        · rw [if_pos h, if_pos (by omega), comb_two, if_pos (by omega)]
        · rw [if_neg h, if_neg (by omega), comb_two, if_pos huv]
      · rw [if_neg huv]
        show (if u.seq < t.seq ∨ (t.seq = u.seq ∧ 1 = 0) then some (t, 1) else some (u, 0)) = _
        by_cases h : v.seq ≤ t.seq
        · rw [if_pos h, comb_two]
          by_cases h2 : u.seq < t.seq
          · rw [if_pos h2, if_pos (.inl h2)]
          · rw [if_neg h2, if_neg (by omega)]
        · rw [if_neg h, comb_two, if_neg huv, if_neg (by omega)]
theorem fold_take {α β : Type} (f : α → β → α) (a : α) (l : List β) (j : Nat) (x : β) (h : l[j]? = some x) : (l.take (j + 1)).foldl f a = f ((l.take j).foldl f a) x := by
  rw [List.take_add_one, h, List.foldl_append]
  rfl
theorem fold_comb0 (l : List Tb) : l.foldl (stepC 0) none = comb (last l) none := by
  have : ∀ (l : List Tb) (a : Option Tb), l.foldl (stepC 0) (comb a none) = comb (l.foldl newer a) none := by
    intro l
    induction l with
    | nil => intro a; rfl
    | cons t l ih => intro a; rw [List.foldl_cons, List.foldl_cons, comb_step0, ih]
  exact this l none
theorem fold_comb1 (l : List Tb) (a : Option Tb) : l.foldl (stepC 1) (comb a none) = comb a (last l) := by
  have : ∀ (l : List Tb) (b : Option Tb), l.foldl (stepC 1) (comb a b) = comb a (l.foldl newer b) := by
    intro l
    induction l with
    | nil => intro b; rfl
    | cons t l ih => intro b; rw [List.foldl_cons, List.foldl_cons, comb_step1, ih]
  exact this l none
theorem newest_code (D : Dv) : (D.tabs 1).foldl (stepC 1) ((D.tabs 0).foldl (stepC 0) none) = D.newest := by
  rw [fold_comb0, fold_comb1]; rfl
end
end Go.Proofs.Ytigpplckddnghaa
