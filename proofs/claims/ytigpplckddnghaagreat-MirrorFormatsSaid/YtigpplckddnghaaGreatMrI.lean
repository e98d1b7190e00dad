/-
  LAYER 16, plain: what a page's table is. (Cut out of TbU and TbE.)
  MIRRORS, plain: the tables on a region's pages; the newest one; what a write leaves.
  MIRRORS, plain: what a write leaves: one of both is the newest.
-/
import Derived.Test.YtigpplckddnghaaGreatTbM
import Derived.Test.YtigpplckddnghaaGreatDev2
import Derived.Test.YtigpplckddnghaaGreatDev6
namespace Go.Proofs.YtigpplckddnghaaGreat
section
open Go.RowKit

def zeroT : Tb := ⟨0, [], [], []⟩
/-- What Get answers. -/
def getT (b : List UInt8) : Tb × Int := if classN b = 0 then (zeroT, 8) else if classN b = 1 then (if (readT (headOf b) (dataOf b)).May ∧ (readT (headOf b) (dataOf b)).page = b then (readT (headOf b) (dataOf b), 0) else (zeroT, 6)) else (zeroT, 6)
theorem getT_class {b : List UInt8} : (classN b = 0 → getT b = (zeroT, 8)) ∧ (classN b = 2 → getT b = (zeroT, 6)) ∧ ((getT b).2 = 0 → (getT b).1.May ∧ (getT b).1.page = b) ∧ (classN b = 1 → (getT b).2 = 0 ∨ getT b = (zeroT, 6)) := by
  refine ⟨fun h => by unfold getT; rw [if_pos h], fun h => by unfold getT; rw [if_neg (by omega), if_neg (by omega)], fun h => ?_, fun h => ?_⟩
  · unfold getT at *
    by_cases h0 : classN b = 0
    · rw [if_pos h0] at h; exact absurd h (by decide)
    · rw [if_neg h0] at h ⊢
      by_cases h1 : classN b = 1
      · rw [if_pos h1] at h ⊢
        by_cases h2 : (readT (headOf b) (dataOf b)).May ∧ (readT (headOf b) (dataOf b)).page = b
        · rw [if_pos h2]; exact h2
        · rw [if_neg h2] at h; exact absurd h (by decide)
      · rw [if_neg h1] at h; exact absurd h (by decide)
  · unfold getT
    rw [if_neg (by omega), if_pos h]
    by_cases h2 : (readT (headOf b) (dataOf b)).May ∧ (readT (headOf b) (dataOf b)).page = b
    · rw [if_pos h2]; exact .inl rfl
    · rw [if_neg h2]; exact .inr rfl

theorem getT_page {t : Tb} (h : t.May) : getT t.page = (t, 0) := by
  have hm := Tb.hd_may h
  have hd : t.data.length = t.hd.len.toNat := by show _ = ((t.data.length : Int)).toNat; rw [Int.toNat_natCast]
  obtain ⟨e1, e2⟩ := page_back t.hd t.data hm hd
  have hc := class_page t.hd t.data hm hd
  unfold getT
  rw [show t.page = pageB t.hd t.data from rfl, hc, e1, e2, read_back h, if_neg (by decide), if_pos rfl, if_pos ⟨h, rfl⟩]
end
section
open Go.RowKit

/-- A page's table, if it has one. -/
def tabOf (b : List UInt8) : Option Tb := if (getT b).2 = 0 then some (getT b).1 else none
/-- The tables of n pages, from page z on. -/
def tabsF (pg : Nat → List UInt8) (z : Nat) : Nat → List Tb
  | 0 => []
  | n + 1 => tabsF pg z n ++ (tabOf (pg (z + n))).toList
def Dv.tabs (D : Dv) (r : Nat) : List Tb := tabsF D.pg (r * D.np) D.np
def newer : Option Tb → Tb → Option Tb
  | none, t => some t
  | some u, t => if u.seq ≤ t.seq then some t else some u
def last (l : List Tb) : Option Tb := l.foldl newer none
def comb : Option Tb → Option Tb → Option (Tb × Nat)
  | none, none => none
  | some a, none => some (a, 0)
  | none, some b => some (b, 1)
  | some a, some b => if a.seq < b.seq then some (b, 1) else some (a, 0)
/-- The newest table, and its region. -/
def Dv.newest (D : Dv) : Option (Tb × Nat) := comb (last (D.tabs 0)) (last (D.tabs 1))
def Dv.older (D : Dv) : Nat := match D.newest with
  | some (_, 0) => 1
  | _ => 0
/-- What a write answers and leaves. -/
def Dv.writeR (D : Dv) (p : List UInt8) : Int × Dv :=
  if D.nx D.older = D.np then (if (D.eraR D.older).1 = 0 then (D.eraR D.older).2.progR D.older ((D.eraR D.older).2.nx D.older) p else D.eraR D.older) else D.progR D.older (D.nx D.older) p

theorem Dv.older_two (D : Dv) : D.older = 0 ∨ D.older = 1 := by
  unfold Dv.older
  split
  · exact .inr rfl
  · exact .inl rfl

/-! ### a page and its table -/
theorem tabOf_blank : tabOf (List.replicate 256 255) = none := by
  unfold tabOf getT
  rw [if_pos (show classN (List.replicate 256 255) = 0 by unfold classN; rw [if_pos rfl])]
  rfl
theorem tabOf_some {b : List UInt8} {u : Tb} (h : tabOf b = some u) : u.May ∧ u.page = b ∧ rightB b = true := by
  unfold tabOf at h
  by_cases h0 : (getT b).2 = 0
  · rw [if_pos h0] at h
    injection h with h
    have hc := (getT_class (b := b)).2.2.1 h0
    rw [h] at hc
    refine ⟨hc.1, hc.2, ?_⟩
    rw [← hc.2]
    exact page_right u.hd u.data (Tb.hd_may hc.1) (by show _ = ((u.data.length : Int)).toNat; rw [Int.toNat_natCast])
  · rw [if_neg h0] at h; cases h
theorem tabOf_page {t : Tb} (h : t.May) : tabOf t.page = some t := by
  unfold tabOf
  rw [getT_page h]
  rfl
theorem page_inj {t u : Tb} (ht : t.May) (hu : u.May) (h : t.page = u.page) : t = u := by
  have h1 := tabOf_page ht
  rw [h, tabOf_page hu] at h1
  injection h1 with h1
  exact h1.symm
theorem Tb.page_len {t : Tb} (h : t.May) : t.page.length = 256 := by
  have h4 := h.2.2.2.1
  exact pageB_len _ _ (by rw [Tb.data_len]; omega)
/-- What covers a table's page has no other table. -/
theorem tab_cov {b : List UInt8} {t u : Tb} (ht : t.May) (hc : covB b t.page = true) (h : tabOf b = some u) : u = t ∧ b = t.page := by
  obtain ⟨hu, he, hr⟩ := tabOf_some h
  have := page_told t.hd t.data b (Tb.hd_may ht) (by show _ = ((t.data.length : Int)).toNat; rw [Int.toNat_natCast]) hc hr
  have e : b = t.page := this
  exact ⟨page_inj hu ht (he.trans e), e⟩

/-! ### lists of tables -/
theorem tabsF_mem {pg : Nat → List UInt8} {z : Nat} {u : Tb} : ∀ {n : Nat}, u ∈ tabsF pg z n → ∃ k, k < n ∧ tabOf (pg (z + k)) = some u
  | 0, h => by cases h
  | n + 1, h => by
    unfold tabsF at h
    rcases List.mem_append.1 h with h | h
    · obtain ⟨k, hk, e⟩ := tabsF_mem h
      exact ⟨k, by omega, e⟩
    · exact ⟨n, by omega, by simpa using h⟩
theorem tabsF_of {pg : Nat → List UInt8} {z k : Nat} {u : Tb} : ∀ {n : Nat}, k < n → tabOf (pg (z + k)) = some u → u ∈ tabsF pg z n
  | 0, h, _ => by omega
  | n + 1, h, e => by
    unfold tabsF
    rw [List.mem_append]
    by_cases hk : k = n
    · subst hk; exact .inr (by simpa using e)
    · exact .inl (tabsF_of (by omega) e)
theorem tabsF_congr {pg pg' : Nat → List UInt8} {z : Nat} : ∀ {n : Nat}, (∀ k, k < n → pg (z + k) = pg' (z + k)) → tabsF pg z n = tabsF pg' z n
  | 0, _ => rfl
  | n + 1, h => by
    unfold tabsF
    rw [tabsF_congr (fun k hk => h k (by omega)), h n (by omega)]
/-- Behind the first m pages there are none. -/
theorem tabsF_end {pg : Nat → List UInt8} {z m : Nat} : ∀ {n : Nat}, m ≤ n → (∀ k, m ≤ k → k < n → tabOf (pg (z + k)) = none) → tabsF pg z n = tabsF pg z m
  | 0, h, _ => by rw [Nat.le_zero.1 h]
  | n + 1, h, e => by
    by_cases hm : m = n + 1
    · rw [hm]
    · rw [show tabsF pg z (n + 1) = tabsF pg z n ++ (tabOf (pg (z + n))).toList from rfl, e n (by omega) (by omega), tabsF_end (by omega) (fun k h1 h2 => e k h1 (by omega))]
      simp
theorem newer_some (u t : Tb) : newer (some u) t = if u.seq ≤ t.seq then some t else some u := rfl
theorem last_snoc (l : List Tb) (t : Tb) : last (l ++ [t]) = newer (last l) t := by
  unfold last
  rw [List.foldl_append]
  rfl
theorem last_some_of {l : List Tb} (h : l ≠ []) : ∃ u, last l = some u := by
  rcases List.eq_nil_or_concat l with h2 | ⟨m, t, h2⟩
  · exact absurd h2 h
  · rw [h2, List.concat_eq_append, last_snoc]
    cases last m with
    | none => exact ⟨t, rfl⟩
    | some u => by_cases hs : u.seq ≤ t.seq
                · exact ⟨t, by rw [newer_some, if_pos hs]⟩
                · exact ⟨u, by rw [newer_some, if_neg hs]⟩
theorem last_spec : ∀ (l : List Tb) {u : Tb}, last l = some u → u ∈ l ∧ ∀ t ∈ l, t.seq ≤ u.seq := by
  intro l
  induction hn : l.length generalizing l with
  | zero => intro u h; rw [List.eq_nil_of_length_eq_zero hn] at h; cases h
  | succ n ih =>
    intro u h
    rcases List.eq_nil_or_concat l with h2 | ⟨m, t, h2⟩
    · rw [h2] at hn; cases hn
    · rw [List.concat_eq_append] at h2
      subst h2
      have hm : m.length = n := by simpa using hn
      rw [last_snoc] at h
      cases hl : last m with
      | none =>
        rw [hl] at h
        have e : t = u := by injection h
        subst e
        have : m = [] := by
          rcases List.eq_nil_or_concat m with h3 | ⟨m2, t2, h3⟩
          · exact h3
          · obtain ⟨u2, h4⟩ := last_some_of (l := m) (by rw [h3]; simp)
            rw [hl] at h4; cases h4
        subst this
        exact ⟨by simp, fun x hx => by have h9 := List.mem_singleton.1 (show x ∈ [t] by simpa using hx); rw [h9]; exact Nat.le_refl _⟩
      | some v =>
        obtain ⟨h5, h6⟩ := ih m hm hl
        rw [hl] at h
        rw [newer_some] at h
        by_cases hs : v.seq ≤ t.seq
        · rw [if_pos hs] at h
          have e : t = u := by injection h
          subst e
          refine ⟨by simp, fun x hx => ?_⟩
          rcases List.mem_append.1 hx with hx | hx
          · exact Nat.le_trans (h6 x hx) hs
          · rw [List.mem_singleton.1 hx]; exact Nat.le_refl _
        · rw [if_neg hs] at h
          have e : v = u := by injection h
          subst e
          refine ⟨List.mem_append_left _ h5, fun x hx => ?_⟩
          rcases List.mem_append.1 hx with hx | hx
          · exact h6 x hx
          · rw [List.mem_singleton.1 hx]; omega
/-! ### the newest one, step by step -/
/-- What Newest's loops do with a table of region r: the code's, and the reference's. -/
def stepC (r : Nat) : Option (Tb × Nat) → Tb → Option (Tb × Nat)
  | none, t => some (t, r)
  | some (u, a), t => if u.seq < t.seq ∨ (t.seq = u.seq ∧ r = a) then some (t, r) else some (u, a)
def stepR (r : Nat) : Option (Tb × Nat) → Tb → Option (Tb × Nat)
  | none, t => some (t, r)
  | some (u, a), t => if u.seq ≤ t.seq then some (t, r) else some (u, a)
theorem comb_step0 (a : Option Tb) (t : Tb) : stepC 0 (comb a none) t = comb (newer a t) none := by
  cases a with
  | none => rfl
  | some u =>
    rw [newer_some]
    show (if u.seq < t.seq ∨ (t.seq = u.seq ∧ 0 = 0) then some (t, 0) else some (u, 0)) = _
    by_cases h : u.seq ≤ t.seq
    · rw [if_pos h, if_pos (by omega)]; rfl
    · rw [if_neg h, if_neg (by omega)]; rfl
theorem comb_two (a b : Tb) : comb (some a) (some b) = if a.seq < b.seq then some (b, 1) else some (a, 0) := rfl
theorem comb_step1 (a b : Option Tb) (t : Tb) : stepC 1 (comb a b) t = comb a (newer b t) := by
  cases a with
  | none =>
    cases b with
    | none => rfl
    | some v =>
      rw [newer_some]
      show (if v.seq < t.seq ∨ (t.seq = v.seq ∧ 1 = 1) then some (t, 1) else some (v, 1)) = _
      by_cases h : v.seq ≤ t.seq
      · rw [if_pos h, if_pos (by omega)]; rfl
      · rw [if_neg h, if_neg (by omega)]; rfl
  | some u =>
    cases b with
    | none =>
      show (if u.seq < t.seq ∨ (t.seq = u.seq ∧ 1 = 0) then some (t, 1) else some (u, 0)) = comb (some u) (some t)
      rw [comb_two]
      by_cases h : u.seq < t.seq
      · rw [if_pos h, if_pos (.inl h)]
      · rw [if_neg h, if_neg (by omega)]
    | some v =>
      rw [newer_some, comb_two]
      by_cases huv : u.seq < v.seq
      · rw [if_pos huv]
        show (if v.seq < t.seq ∨ (t.seq = v.seq ∧ 1 = 1) then some (t, 1) else some (v, 1)) = _
        by_cases h : v.seq ≤ t.seq
        · rw [if_pos h, if_pos (by omega), comb_two, if_pos (by omega)]
        · rw [if_neg h, if_neg (by omega), comb_two, if_pos huv]
      · rw [if_neg huv]
        show (if u.seq < t.seq ∨ (t.seq = u.seq ∧ 1 = 0) then some (t, 1) else some (u, 0)) = _
        by_cases h : v.seq ≤ t.seq
        · rw [if_pos h, comb_two]
          by_cases h2 : u.seq < t.seq
          · rw [if_pos h2, if_pos (.inl h2)]
          · rw [if_neg h2, if_neg (by omega)]
        · rw [if_neg h, comb_two, if_neg huv, if_neg (by omega)]
theorem comb_stepR1 (b : Option Tb) (t : Tb) : stepR 1 (comb none b) t = comb none (newer b t) := by
  cases b with
  | none => rfl
  | some v =>
    rw [newer_some]
    show (if v.seq ≤ t.seq then some (t, 1) else some (v, 1)) = _
    by_cases h : v.seq ≤ t.seq
    · rw [if_pos h, if_pos h]; rfl
    · rw [if_neg h, if_neg h]; rfl
theorem comb_stepR0 (a b : Option Tb) (t : Tb) : stepR 0 (comb a b) t = comb (newer a t) b := by
  cases b with
  | none =>
    cases a with
    | none => rfl
    | some u =>
      rw [newer_some]
      show (if u.seq ≤ t.seq then some (t, 0) else some (u, 0)) = _
      by_cases h : u.seq ≤ t.seq
      · rw [if_pos h, if_pos h]; rfl
      · rw [if_neg h, if_neg h]; rfl
  | some v =>
    cases a with
    | none =>
      show (if v.seq ≤ t.seq then some (t, 0) else some (v, 1)) = comb (some t) (some v)
      rw [comb_two]
      by_cases h : v.seq ≤ t.seq
      · rw [if_pos h, if_neg (by omega)]
      · rw [if_neg h, if_pos (by omega)]
    | some u =>
      rw [newer_some, comb_two]
      by_cases huv : u.seq < v.seq
      · rw [if_pos huv]
        show (if v.seq ≤ t.seq then some (t, 0) else some (v, 1)) = _
        by_cases h : u.seq ≤ t.seq
        · rw [if_pos h, comb_two]
          by_cases h2 : v.seq ≤ t.seq
          · rw [if_pos h2, if_neg (by omega)]
          · rw [if_neg h2, if_pos (by omega)]
        · rw [if_neg h, comb_two, if_pos huv, if_neg (by omega)]
      · rw [if_neg huv]
        show (if u.seq ≤ t.seq then some (t, 0) else some (u, 0)) = _
        by_cases h : u.seq ≤ t.seq
        · rw [if_pos h, if_pos h, comb_two, if_neg (by omega)]
        · rw [if_neg h, if_neg h, comb_two, if_neg huv]
theorem fold_take {α β : Type} (f : α → β → α) (a : α) (l : List β) (j : Nat) (x : β) (h : l[j]? = some x) : (l.take (j + 1)).foldl f a = f ((l.take j).foldl f a) x := by
  rw [List.take_add_one, h, List.foldl_append]
  rfl
theorem fold_comb0 (l : List Tb) : l.foldl (stepC 0) none = comb (last l) none := by
  have : ∀ (l : List Tb) (a : Option Tb), l.foldl (stepC 0) (comb a none) = comb (l.foldl newer a) none := by
    intro l
    induction l with
    | nil => intro a; rfl
    | cons t l ih => intro a; rw [List.foldl_cons, List.foldl_cons, comb_step0, ih]
  exact this l none
theorem fold_comb1 (l : List Tb) (a : Option Tb) : l.foldl (stepC 1) (comb a none) = comb a (last l) := by
  have : ∀ (l : List Tb) (b : Option Tb), l.foldl (stepC 1) (comb a b) = comb a (l.foldl newer b) := by
    intro l
    induction l with
    | nil => intro b; rfl
    | cons t l ih => intro b; rw [List.foldl_cons, List.foldl_cons, comb_step1, ih]
  exact this l none
theorem fold_combR1 (l : List Tb) : l.foldl (stepR 1) none = comb none (last l) := by
  have : ∀ (l : List Tb) (b : Option Tb), l.foldl (stepR 1) (comb none b) = comb none (l.foldl newer b) := by
    intro l
    induction l with
    | nil => intro b; rfl
    | cons t l ih => intro b; rw [List.foldl_cons, List.foldl_cons, comb_stepR1, ih]
  exact this l none
theorem fold_combR0 (l : List Tb) (b : Option Tb) : l.foldl (stepR 0) (comb none b) = comb (last l) b := by
  have : ∀ (l : List Tb) (a : Option Tb), l.foldl (stepR 0) (comb a b) = comb (l.foldl newer a) b := by
    intro l
    induction l with
    | nil => intro a; rfl
    | cons t l ih => intro a; rw [List.foldl_cons, List.foldl_cons, comb_stepR0, ih]
  exact this l none
theorem newest_code (D : Dv) : (D.tabs 1).foldl (stepC 1) ((D.tabs 0).foldl (stepC 0) none) = D.newest := by
  rw [fold_comb0, fold_comb1]; rfl
theorem newest_ref (D : Dv) : (D.tabs 0).foldl (stepR 0) ((D.tabs 1).foldl (stepR 1) none) = D.newest := by
  rw [fold_combR1, fold_combR0]; rfl
end
section
open Go.RowKit

theorem mix_ones (p : UInt8) : mixB 255 (255 &&& p) 255 = p := by
  apply UInt8.toNat_inj.1
  rw [mixB_toNat, UInt8.toNat_and]
  show 255 &&& 0 ||| (255 &&& p.toNat) &&& 255 = p.toNat
  have : ∀ n, n < 256 → (255 &&& 0 ||| (255 &&& n) &&& 255 : Nat) = n := by decide +kernel
  exact this _ p.toNat_lt
theorem prog_full (p : List UInt8) (hp : p.length = 256) : progL (List.replicate 256 255) p [255] = p := by
  unfold progL
  rw [List.length_replicate]
  apply List.ext_getElem
  · rw [List.length_map, List.length_range, hp]
  · intro j h1 h2
    rw [List.getElem_map, List.getElem_range]
    have hj : j < 256 := by omega
    unfold progB maskB
    rw [if_pos h2, if_neg (by decide), List.length_singleton, Nat.mod_one, rep_getD j hj]
    show mixB 255 (255 &&& p.getD j 0) 255 = p[j]
    rw [mix_ones, List.getD_eq_getElem?_getD, List.getElem?_eq_getElem h2]
    rfl
theorem eras_ones (m : List UInt8) : erasL (List.replicate 256 255) m = List.replicate 256 255 := by
  unfold erasL
  rw [List.length_replicate]
  apply List.ext_getElem
  · rw [List.length_map, List.length_range, List.length_replicate]
  · intro j h1 h2
    rw [List.getElem_map, List.getElem_range, List.getElem_replicate]
    have hj : j < 256 := by rw [List.length_replicate] at h2; exact h2
    unfold erasB
    rw [rep_getD j hj]
    apply UInt8.toNat_inj.1
    rw [mixB_toNat]
    generalize maskB m j = q
    have : ∀ n, n < 256 → ((255 : Nat) &&& (255 - n) ||| 255 &&& n) = 255 := by decide +kernel
    exact this _ q.toNat_lt

/-- What is on the pages of both regions: nothing behind the next page; what else there is covers a table's page, or is blank. -/
structure Mi (D : Dv) (S : Nat) : Prop where
  two : 2 ≤ D.nb
  plen : ∀ i, i < D.nb * D.np → (D.pg i).length = 256
  next : ∀ r, r < D.nb → D.nx r ≤ D.np
  blank : ∀ r, r < 2 → ∀ k, D.nx r ≤ k → k < D.np → D.pg (r * D.np + k) = List.replicate 256 255
  anc : ∀ r, r < 2 → ∀ k, k < D.np → D.pg (r * D.np + k) = List.replicate 256 255 ∨ ∃ t : Tb, t.May ∧ t.seq < S ∧ covB (D.pg (r * D.np + k)) t.page = true
theorem Mi.mono {D : Dv} {S S' : Nat} (h : Mi D S) (hS : S ≤ S') : Mi D S' :=
  ⟨h.two, h.plen, h.next, h.blank, fun r hr k hk => (h.anc r hr k hk).imp id fun ⟨t, h1, h2, h3⟩ => ⟨t, h1, by omega, h3⟩⟩
theorem Mi.below {D : Dv} {S r : Nat} (h : Mi D S) (hr : r < 2) {u : Tb} (hu : u ∈ D.tabs r) : u.May ∧ u.seq < S := by
  obtain ⟨k, hk, e⟩ := tabsF_mem hu
  rcases h.anc r hr k hk with h2 | ⟨t, h2, h3, h4⟩
  · rw [h2, tabOf_blank] at e; cases e
  · obtain ⟨e2, _⟩ := tab_cov h2 h4 e
    rw [e2]; exact ⟨h2, h3⟩
theorem Dv.mask_full {D : Dv} (he : D.err = 0) : D.mask = [255] := by
  unfold Dv.mask
  refine if_neg (fun hk => ?_)
  unfold Dv.err at he
  rcases hk with hk | hk
  · rw [if_pos hk] at he; cases he
  · rw [if_neg (by rw [hk]; decide), if_pos hk] at he; cases he
section
variable {D : Dv} {S r : Nat} {t : Tb}
/-- A page programmed on a blank one. -/
theorem Mi.prog_pages (h : Mi D S) (hr : r < 2) (hn : D.nx r < D.np) (b : List UInt8) {r2 k : Nat} (hk : k < D.np) :
    (D.progd r b).pg (r2 * D.np + k) = if r2 = r ∧ k = D.nx r then progL (List.replicate 256 255) b D.mask else D.pg (r2 * D.np + k) := by
  show upd D.pg (r * D.np + D.nx r) (progL (D.pg (r * D.np + D.nx r)) b D.mask) (r2 * D.np + k) = _
  by_cases e : r2 = r ∧ k = D.nx r
  · obtain ⟨e1, e2⟩ := e
    rw [e1, e2, upd_same, if_pos ⟨rfl, rfl⟩, h.blank r hr _ (Nat.le_refl _) hn]
  · rw [if_neg e, upd_other (fun h2 => e (pos_inj hk hn h2))]
theorem Mi.prog (h : Mi D S) (hr : r < 2) (hn : D.nx r < D.np) (ht : t.May) (hs : S ≤ t.seq) : Mi (D.progd r t.page) (t.seq + 1) := by
  have hl := Tb.page_len ht
  have hp := fun r2 k hk => h.prog_pages (r2 := r2) (k := k) hr hn t.page hk
  refine ⟨h.two, fun i hi => ?_, fun r2 hr2 => ?_, fun r2 hr2 k h1 h2 => ?_, fun r2 hr2 k hk => ?_⟩
  · show (upd D.pg (r * D.np + D.nx r) (progL (D.pg (r * D.np + D.nx r)) t.page D.mask) i).length = 256
    by_cases e : i = r * D.np + D.nx r
    · rw [e, upd_same, progL_len]
      exact h.plen _ (by rw [← e]; exact hi)
    · rw [upd_other e]; exact h.plen i hi
  · show upd D.nx r (D.nx r + 1) r2 ≤ D.np
    by_cases e : r2 = r
    · rw [e, upd_same]; exact hn
    · rw [upd_other e]; exact h.next r2 hr2
  · have h1' : upd D.nx r (D.nx r + 1) r2 ≤ k := h1
    have h2' : k < D.np := h2
    show (D.progd r t.page).pg (r2 * D.np + k) = _
    rw [hp r2 k h2']
    by_cases e : r2 = r
    · rw [e, upd_same] at h1'
      rw [if_neg (by omega)]
      exact h.blank r2 hr2 k (by rw [e]; omega) h2'
    · rw [upd_other e] at h1'
      rw [if_neg (fun h3 => e h3.1)]
      exact h.blank r2 hr2 k h1' h2'
  · have hk' : k < D.np := hk
    show (D.progd r t.page).pg (r2 * D.np + k) = _ ∨ ∃ u : Tb, u.May ∧ u.seq < t.seq + 1 ∧ covB ((D.progd r t.page).pg (r2 * D.np + k)) u.page = true
    rw [hp r2 k hk']
    split
    · exact .inr ⟨t, ht, by omega, prog_covers _ _ _ (by rw [hl]; exact List.length_replicate) (fun j hj => rep_getD j (by omega))⟩
    · exact (h.anc r2 hr2 k hk').imp id fun ⟨u, h1, h2, h3⟩ => ⟨u, h1, by omega, h3⟩
/-- The tables behind it. -/
theorem Mi.prog_tabs (h : Mi D S) (hr : r < 2) (hn : D.nx r < D.np) (ht : t.May) :
    (D.progd r t.page).tabs (1 - r) = D.tabs (1 - r) ∧ ((D.progd r t.page).tabs r = D.tabs r ∧ D.err ≠ 0 ∨ (D.progd r t.page).tabs r = D.tabs r ++ [t]) := by
  have hl := Tb.page_len ht
  have hp := fun r2 k hk => h.prog_pages (r2 := r2) (k := k) hr hn t.page hk
  refine ⟨tabsF_congr (fun k hk => ?_), ?_⟩
  · show (D.progd r t.page).pg ((1 - r) * D.np + k) = D.pg ((1 - r) * D.np + k)
    rw [hp (1 - r) k hk, if_neg (by omega)]
  · have e0 : D.tabs r = tabsF D.pg (r * D.np) (D.nx r) := tabsF_end (Nat.le_of_lt hn) (fun k h1 h2 => by rw [h.blank r hr k h1 h2]; exact tabOf_blank)
    have e1 : (D.progd r t.page).tabs r = tabsF (D.progd r t.page).pg (r * D.np) (D.nx r + 1) := tabsF_end (z := r * D.np) hn (fun k h1 h2 => by
      rw [hp r k h2, if_neg (by omega), h.blank r hr k (by omega) h2]; exact tabOf_blank)
    have e2 : tabsF (D.progd r t.page).pg (r * D.np) (D.nx r + 1) = tabsF D.pg (r * D.np) (D.nx r) ++ (tabOf (progL (List.replicate 256 255) t.page D.mask)).toList := by
      show tabsF (D.progd r t.page).pg (r * D.np) (D.nx r) ++ (tabOf ((D.progd r t.page).pg (r * D.np + D.nx r))).toList = _
      rw [hp r _ hn, if_pos ⟨rfl, rfl⟩, tabsF_congr (pg' := D.pg) (fun k hk => by rw [hp r k (by omega), if_neg (by omega)])]
    rw [e1, e2, e0]
    have hc : covB (progL (List.replicate 256 255) t.page D.mask) t.page = true := prog_covers _ _ _ (by rw [hl]; exact List.length_replicate) (fun j hj => rep_getD j (by omega))
    by_cases he : D.err = 0
    · right
      rw [Dv.mask_full he, prog_full _ hl, tabOf_page ht]
      rfl
    · cases hq : tabOf (progL (List.replicate 256 255) t.page D.mask) with
      | none => left; exact ⟨by simp, he⟩
      | some u =>
        right
        rw [(tab_cov ht hc hq).1]
        rfl
/-- A region erased, whole or in part. -/
theorem Mi.eras_pages (D : Dv) (r : Nat) {r2 k : Nat} (hk : k < D.np) : (D.erased r).pg (r2 * D.np + k) = if r2 = r then erasL (D.pg (r2 * D.np + k)) D.mask else D.pg (r2 * D.np + k) := by
  show D.erpg r D.np D.mask (r2 * D.np + k) = _
  unfold Dv.erpg
  by_cases e : r2 = r
  · rw [if_pos e, e, if_pos (by omega)]
  · rw [if_neg e, if_neg (fun hh => e (pos_inj (y2 := r2 * D.np + k - r * D.np) hk (by omega) (by omega)).1)]
theorem Mi.eras (h : Mi D S) (hr : r < 2) : Mi (D.erased r) S := by
  have hp := fun r2 k hk => Mi.eras_pages D r (r2 := r2) (k := k) hk
  refine ⟨h.two, fun i hi => ?_, fun r2 hr2 => ?_, fun r2 hr2 k h1 h2 => ?_, fun r2 hr2 k hk => ?_⟩
  · show (D.erpg r D.np D.mask i).length = 256
    unfold Dv.erpg
    split
    · rw [erasL_len]; exact h.plen i hi
    · exact h.plen i hi
  · show upd D.nx r (if D.err = 0 then 0 else D.np) r2 ≤ D.np
    by_cases e : r2 = r
    · rw [e, upd_same]; split
      · exact Nat.zero_le _
      · exact Nat.le_refl _
    · rw [upd_other e]; exact h.next r2 hr2
  · have h1' : upd D.nx r (if D.err = 0 then 0 else D.np) r2 ≤ k := h1
    have h2' : k < D.np := h2
    show (D.erased r).pg (r2 * D.np + k) = _
    rw [hp r2 k h2']
    by_cases e : r2 = r
    · rw [if_pos e]
      rw [e, upd_same] at h1'
      by_cases he : D.err = 0
      · rw [Dv.mask_full he, eras_all _ (h.plen _ (lt_mul (by have := h.two; omega) h2'))]
      · rw [if_neg he] at h1'; omega
    · rw [upd_other e] at h1'
      rw [if_neg e]
      exact h.blank r2 hr2 k h1' h2'
  · have hk' : k < D.np := hk
    show (D.erased r).pg (r2 * D.np + k) = _ ∨ ∃ u : Tb, u.May ∧ u.seq < S ∧ covB ((D.erased r).pg (r2 * D.np + k)) u.page = true
    rw [hp r2 k hk']
    split
    · rcases h.anc r2 hr2 k hk' with h2 | ⟨u, h2, h3, h4⟩
      · left; rw [h2, eras_ones]
      · exact .inr ⟨u, h2, h3, cov_eras _ h4⟩
    · exact h.anc r2 hr2 k hk'
theorem Mi.eras_tabs (h : Mi D S) (hr : r < 2) : (D.erased r).tabs (1 - r) = D.tabs (1 - r) ∧ ∀ u ∈ (D.erased r).tabs r, u ∈ D.tabs r := by
  have hp := fun r2 k hk => Mi.eras_pages D r (r2 := r2) (k := k) hk
  refine ⟨tabsF_congr (fun k hk => ?_), fun u hu => ?_⟩
  · show (D.erased r).pg ((1 - r) * D.np + k) = D.pg ((1 - r) * D.np + k)
    rw [hp (1 - r) k hk, if_neg (by omega)]
  · obtain ⟨k, hk, e⟩ := tabsF_mem hu
    have hk' : k < D.np := hk
    have e' : tabOf ((D.erased r).pg (r * D.np + k)) = some u := e
    rw [hp r k hk', if_pos rfl] at e'
    refine tabsF_of (k := k) hk' ?_
    rcases h.anc r hr k hk' with h2 | ⟨t, h2, h3, h4⟩
    · rw [h2, eras_ones, tabOf_blank] at e'; cases e'
    · have hc := cov_eras D.mask h4
      obtain ⟨e1, e2⟩ := tab_cov h2 hc e'
      have e3 : D.pg (r * D.np + k) = t.page := by
        -- it covers t's page, and what covers it is that page
        rw [covB_iff] at h4
        have hc2 := eras_covers (D.pg (r * D.np + k)) D.mask
        rw [e2] at hc2
        rcases cov_count _ _ hc2 with h5 | h5
        · rcases cov_count _ _ ((covB_iff _ _).2 h4) with h6 | h6
          · omega
          · exact h6
        · exact h5.symm
      rw [e3, e1]
      exact tabOf_page h2
/-- The newest one stays, whatever of the other region is lost. -/
theorem newest_stays (D D2 : Dv) (h1 : D2.tabs (1 - D.older) = D.tabs (1 - D.older)) (h2 : ∀ u ∈ D2.tabs D.older, u ∈ D.tabs D.older) : D2.newest = D.newest := by
  have key : ∀ {l m : List Tb}, (∀ u ∈ m, u ∈ l) → last m = none ∨ ∃ u v, last m = some u ∧ last l = some v ∧ u.seq ≤ v.seq := by
    intro l m hm
    cases hu : last m with
    | none => exact .inl rfl
    | some u =>
      right
      have hul := hm u (last_spec m hu).1
      obtain ⟨v, hv⟩ := last_some_of (l := l) (fun e => by rw [e] at hul; cases hul)
      exact ⟨u, v, rfl, hv, (last_spec l hv).2 u hul⟩
  unfold Dv.newest
  have ho : D.older = (match comb (last (D.tabs 0)) (last (D.tabs 1)) with | some (_, 0) => 1 | _ => 0) := rfl
  cases ha : last (D.tabs 0) with
  | none =>
    rw [ha] at ho
    have h0 : D.older = 0 := by
      rw [ho]
      cases last (D.tabs 1) <;> rfl
    rw [h0] at h1 h2
    rw [show D2.tabs 1 = D.tabs 1 from h1]
    rcases key h2 with h3 | ⟨u, v, h3, h4, h5⟩
    · rw [h3]
    · rw [ha] at h4; cases h4
  | some a =>
    cases hb : last (D.tabs 1) with
    | none =>
      rw [ha, hb] at ho
      have h0 : D.older = 1 := ho
      rw [h0] at h1 h2
      rw [show D2.tabs 0 = D.tabs 0 from h1, ha]
      rcases key h2 with h3 | ⟨u, v, h3, h4, h5⟩
      · rw [h3]
      · rw [hb] at h4; cases h4
    | some b =>
      rw [ha, hb, comb_two] at ho
      by_cases hab : a.seq < b.seq
      · rw [if_pos hab] at ho
        have h0 : D.older = 0 := ho
        rw [h0] at h1 h2
        rw [show D2.tabs 1 = D.tabs 1 from h1, hb, comb_two, if_pos hab]
        rcases key h2 with h3 | ⟨u, v, h3, h4, h5⟩
        · rw [h3]; rfl
        · rw [ha] at h4
          injection h4 with h4
          rw [h3, comb_two, if_pos (by rw [← h4] at h5; omega)]
      · rw [if_neg hab] at ho
        have h0 : D.older = 1 := ho
        rw [h0] at h1 h2
        rw [show D2.tabs 0 = D.tabs 0 from h1, ha, comb_two, if_neg hab]
        rcases key h2 with h3 | ⟨u, v, h3, h4, h5⟩
        · rw [h3]; rfl
        · rw [hb] at h4
          injection h4 with h4
          rw [h3, comb_two, if_neg (by rw [← h4] at h5; omega)]
/-- A table of a greater number is the newest. -/
theorem newest_more (D2 : Dv) (l0 l1 : List Tb) (hr : r < 2) (h0 : ∀ u ∈ l0, u.seq < t.seq) (h1 : ∀ u ∈ l1, u.seq < t.seq) (e0 : D2.tabs 0 = if r = 0 then l0 ++ [t] else l0) (e1 : D2.tabs 1 = if r = 1 then l1 ++ [t] else l1) : D2.newest = some (t, r) := by
  have key : ∀ {l : List Tb}, (∀ u ∈ l, u.seq < t.seq) → last (l ++ [t]) = some t := by
    intro l hl
    rw [last_snoc]
    cases hu : last l with
    | none => rfl
    | some u => rw [newer_some, if_pos (Nat.le_of_lt (hl u (last_spec l hu).1))]
  unfold Dv.newest
  rw [e0, e1]
  rcases (by omega : r = 0 ∨ r = 1) with rfl | rfl
  · rw [if_pos rfl, if_neg (by decide), key h0]
    cases hu : last l1 with
    | none => rfl
    | some u => rw [comb_two, if_neg (by have := h1 u (last_spec l1 hu).1; omega)]
  · rw [if_neg (by decide), if_pos rfl, key h1]
    cases hu : last l0 with
    | none => rfl
    | some u => rw [comb_two, if_pos (h0 u (last_spec l0 hu).1)]
/-- A program of the older region's next page. -/
theorem Mi.step (h : Mi D S) (hr : r < 2) (hdn : D.dn = false) (hnn : D.nx r < D.np) (hg : D.g.b = (D.nb : Int) ∧ D.g.p = (D.np : Int)) (ht : t.May) (hs : S ≤ t.seq) :
    Mi (D.progR r (D.nx r) t.page).2 (t.seq + 1) ∧ ((D.progR r (D.nx r) t.page).2.newest = some (t, r) ∨ (D.progR r (D.nx r) t.page).2.newest = D.newest ∧ (D.progR r (D.nx r) t.page).1 ≠ 0) := by
  unfold Dv.progR
  have hh : D.g.Has (r : Int) (D.nx r : Int) := by
    have := h.two
    refine ⟨by omega, ?_, by omega, ?_⟩
    · rw [hg.1]; omega
    · rw [hg.2]; omega
  rw [if_neg (by rw [hdn]; decide), if_neg (not_not_intro hh), Int.toNat_natCast]
  by_cases hb : D.bad r = true
  · rw [if_pos hb]
    exact ⟨h.mono (by omega), .inr ⟨rfl, by show (12 : Int) ≠ 0; decide⟩⟩
  · rw [if_neg hb, if_neg (not_not_intro rfl)]
    refine ⟨h.prog hr hnn ht hs, ?_⟩
    obtain ⟨h1, h2⟩ := h.prog_tabs hr hnn ht
    have b0 : ∀ u ∈ D.tabs 0, u.seq < t.seq := fun u hu => Nat.lt_of_lt_of_le (h.below (by decide) hu).2 hs
    have b1 : ∀ u ∈ D.tabs 1, u.seq < t.seq := fun u hu => Nat.lt_of_lt_of_le (h.below (by decide) hu).2 hs
    rcases h2 with ⟨h2, he⟩ | h2
    · right
      refine ⟨?_, he⟩
      show comb (last ((D.progd r t.page).tabs 0)) (last ((D.progd r t.page).tabs 1)) = _
      rcases (by omega : r = 0 ∨ r = 1) with rfl | rfl
      · rw [h2, show (D.progd 0 t.page).tabs 1 = D.tabs 1 from h1]; rfl
      · rw [h2, show (D.progd 1 t.page).tabs 0 = D.tabs 0 from h1]; rfl
    · left
      refine newest_more (D.progd r t.page) (D.tabs 0) (D.tabs 1) hr b0 b1 ?_ ?_
      · rcases (by omega : r = 0 ∨ r = 1) with rfl | rfl
        · rw [h2, if_pos rfl]
        · rw [if_neg (by decide)]; exact h1
      · rcases (by omega : r = 0 ∨ r = 1) with rfl | rfl
        · rw [if_neg (by decide)]; exact h1
        · rw [h2, if_pos rfl]
/-- ONE OF BOTH. -/
theorem Mi.write (h : Mi D S) (hdn : D.dn = false) (hp : 4 ≤ D.np) (hg : D.g.b = (D.nb : Int) ∧ D.g.p = (D.np : Int)) (ht : t.May) (hs : S ≤ t.seq) :
    Mi (D.writeR t.page).2 (t.seq + 1) ∧ ((D.writeR t.page).2.newest = some (t, D.older) ∨ (D.writeR t.page).2.newest = D.newest ∧ (D.writeR t.page).1 ≠ 0) := by
  have hr : D.older < 2 := by rcases D.older_two with e | e <;> omega
  have hrb : D.older < D.nb := Nat.lt_of_lt_of_le hr h.two
  unfold Dv.writeR
  by_cases hf : D.nx D.older = D.np
  · rw [if_pos hf]
    have hE : D.eraR (D.older : Int) = if D.bad D.older = true then (12, D) else (D.err, D.erased D.older) := by
      unfold Dv.eraR
      rw [if_neg (by rw [hdn]; decide), if_neg (not_not_intro ⟨by omega, by omega⟩), Int.toNat_natCast]
    rw [hE]
    by_cases hb : D.bad D.older = true
    · rw [if_pos hb, if_neg (by show ¬ (12 : Int) = 0; decide)]
      exact ⟨h.mono (by omega), .inr ⟨rfl, by show (12 : Int) ≠ 0; decide⟩⟩
    · rw [if_neg hb]
      have hm := h.eras hr
      obtain ⟨h1, h2⟩ := h.eras_tabs hr
      have hst := newest_stays D (D.erased D.older) h1 h2
      by_cases he : D.err = 0
      · rw [if_pos he]
        have hz : (D.erased D.older).nx D.older = 0 := by
          show upd D.nx D.older (if D.err = 0 then 0 else D.np) D.older = 0
          rw [upd_same, if_pos he]
        have hdn2 : (D.erased D.older).dn = false := by
          show (if D.kind = 1 then D.dn else if D.kind = 2 then true else D.dn) = false
          by_cases k1 : D.kind = 1
          · rw [if_pos k1]; exact hdn
          · rw [if_neg k1]
            by_cases k2 : D.kind = 2
            · exfalso
              unfold Dv.err at he
              rw [if_neg k1, if_pos k2] at he
              cases he
            · rw [if_neg k2]; exact hdn
        obtain ⟨h3, h4⟩ := hm.step hr hdn2 (by rw [hz]; show 0 < D.np; omega) hg ht hs
        refine ⟨h3, h4.imp id (fun h5 => ⟨h5.1.trans hst, h5.2⟩)⟩
      · rw [if_neg he]
        exact ⟨hm.mono (by omega), .inr ⟨hst, he⟩⟩
  · rw [if_neg hf]
    obtain ⟨h3, h4⟩ := h.step hr hdn (by have := h.next D.older hrb; omega) hg ht hs
    exact ⟨h3, h4⟩
/-- A write where nothing goes wrong. -/
theorem Mi.clean (h : Mi D S) (hdn : D.dn = false) (hn : D.nx D.older < D.np) (hb : D.bad D.older = false) (he : D.err = 0) (hg : D.g.b = (D.nb : Int) ∧ D.g.p = (D.np : Int)) (ht : t.May) (hs : S ≤ t.seq) :
    D.writeR t.page = (0, D.progd D.older t.page) ∧ Mi (D.progd D.older t.page) (t.seq + 1) ∧ (D.progd D.older t.page).newest = some (t, D.older) ∧ (D.progd D.older t.page).tabs (1 - D.older) = D.tabs (1 - D.older) ∧ (D.progd D.older t.page).tabs D.older = D.tabs D.older ++ [t] := by
  have hr : D.older < 2 := by rcases D.older_two with e | e <;> omega
  have hh : D.g.Has (D.older : Int) (D.nx D.older : Int) := by
    have := h.two
    refine ⟨by omega, ?_, by omega, ?_⟩
    · rw [hg.1]; omega
    · rw [hg.2]; omega
  have hw : D.writeR t.page = (0, D.progd D.older t.page) := by
    unfold Dv.writeR
    rw [if_neg (by omega)]
    unfold Dv.progR
    rw [if_neg (by rw [hdn]; decide), if_neg (not_not_intro hh), Int.toNat_natCast, if_neg (by rw [hb]; decide), if_neg (not_not_intro rfl), he]
  have hst := h.step hr hdn hn hg ht hs
  have hp : D.progR D.older (D.nx D.older) t.page = (0, D.progd D.older t.page) := by
    unfold Dv.progR
    rw [if_neg (by rw [hdn]; decide), if_neg (not_not_intro hh), Int.toNat_natCast, if_neg (by rw [hb]; decide), if_neg (not_not_intro rfl), he]
  rw [hp] at hst
  obtain ⟨h1, h2⟩ := h.prog_tabs hr hn ht
  refine ⟨hw, hst.1, ?_, h1, ?_⟩
  · rcases hst.2 with h3 | h3
    · exact h3
    · exact absurd rfl h3.2
  · rcases h2 with h3 | h3
    · exact absurd he h3.2
    · exact h3
end
end
end Go.Proofs.YtigpplckddnghaaGreat
