/-
  FRAGMENTS TOGETHER, plain mathematics: places that fragments have, clashes, gaps; orders in which they rise; what laying one behind the other makes; when there is no hole.
-/
import Derived.Test.YtlbgcbekjjkokaaHole
import Derived.Test.YtlbgcbekjjkokaaIn
namespace Go.Proofs.Ytlbgcbekjjkokaa
open Go.RowKit

def Bn.bytes (b : Bn) : List UInt8 := b.pay.data.data.toList
theorem bytes_len (b : Bn) : b.bytes.length = b.pay.data.size := Array.length_toList
theorem str_bytes (b : Bn) : str b.bytes = b.pay.data := by
  apply ByteArray.ext; simp [str, Bn.bytes]
def Bn.byte (b : Bn) (x : Nat) : UInt8 := b.bytes.getD (x - b.p.off) 0
theorem has_iff (b : Bn) (x : Nat) : b.has x = true ↔ b.p.off ≤ x ∧ x < b.p.off + b.bytes.length := by
  unfold Bn.has
  rw [decide_eq_true_iff, bytes_len]
  omega
theorem has_false (b : Bn) (x : Nat) : b.has x = false ↔ ¬ (b.p.off ≤ x ∧ x < b.p.off + b.bytes.length) := by
  rw [← has_iff]; simp
theorem byte_at (b : Bn) (x : Nat) (h : b.has x = true) : b.bytes[x - b.p.off]? = some (b.byte x) := by
  have h2 := (has_iff b x).1 h
  unfold Bn.byte
  rw [List.getD_eq_getElem?_getD, List.getElem?_eq_getElem (by omega)]
  rfl
def Clash (l : List Bn) : Prop := ∃ x b c, b ∈ l ∧ c ∈ l ∧ b.has x = true ∧ c.has x = true ∧ b.byte x ≠ c.byte x
def Gap (t : Nat) (l : List Bn) : Prop := ∃ x, x < t ∧ ∀ b ∈ l, b.has x = false
theorem Clash.perm {l m : List Bn} (h : Clash l) (hp : ∀ b ∈ l, b ∈ m) : Clash m := by
  obtain ⟨x, b, c, h1, h2, h3⟩ := h
  exact ⟨x, b, c, hp b h1, hp c h2, h3⟩
theorem Gap.perm {t : Nat} {l m : List Bn} (h : Gap t l) (hp : ∀ b ∈ m, b ∈ l) : Gap t m := by
  obtain ⟨x, hx, h1⟩ := h
  exact ⟨x, hx, fun b hb => h1 b (hp b hb)⟩

/-- All fragments, those that begin first ahead. -/
structure Sorted (l s : List Bn) : Prop where
  mem : ∀ b, b ∈ s ↔ b ∈ l
  up : s.Pairwise fun b c => b.p.off ≤ c.p.off
theorem Rises.sorted {l s : List Bn} {σ : List Nat} (h : Rises l σ) (hl : s.length = l.length) (hs : ∀ k (hk : k < s.length) (h2 : k < σ.length) (h1 : σ[k] < l.length), s[k] = l[σ[k]]) : Sorted l s := by
  have hσl : σ.length = l.length := by rw [h.perm.length_eq, List.length_range]
  have hσlt : ∀ k (hk : k < σ.length), σ[k] < l.length := fun k hk => List.mem_range.1 (h.perm.mem_iff.1 (List.getElem_mem hk))
  refine ⟨fun b => ⟨fun hb => ?_, fun hb => ?_⟩, ?_⟩
  · obtain ⟨k, hk, rfl⟩ := List.getElem_of_mem hb
    rw [hs k hk (by omega) (hσlt k (by omega))]
    exact List.getElem_mem _
  · obtain ⟨j, hj, rfl⟩ := List.getElem_of_mem hb
    have hm : j ∈ σ := h.perm.mem_iff.2 (List.mem_range.2 hj)
    obtain ⟨k, hk, he⟩ := List.getElem_of_mem hm
    have := hs k (by omega) hk (hσlt k hk)
    simp only [he] at this
    rw [← this]
    exact List.getElem_mem _
  · rw [List.pairwise_iff_getElem]
    intro i j hi hj hij
    have := h.up i j (by omega) hij (hσlt i (by omega)) (hσlt j (by omega))
    rw [hs i hi (by omega) (hσlt i (by omega)), hs j hj (by omega) (hσlt j (by omega))]
    exact this
theorem Sorted.take {l s : List Bn} (h : Sorted l s) (k : Nat) (hk : k < s.length) : ∀ c ∈ s.take k, c.p.off ≤ s[k].p.off := by
  intro c hc
  obtain ⟨i, hi, rfl⟩ := List.getElem_of_mem hc
  rw [List.length_take] at hi
  rw [List.getElem_take]
  exact (List.pairwise_iff_getElem.1 h.up) i k (by omega) hk (by omega)

/-! ### laid one behind the other -/
structure Tog (t : Nat) (p : List Bn) (data : List UInt8) (e : Nat) : Prop where
  len : data.length = t
  le : e ≤ t
  at_ : ∀ b ∈ p, ∀ x, b.has x = true → data[x]? = some (b.byte x)
  cov : ∀ x, (∀ b ∈ p, b.p.off ≤ x) → x < e → ∃ b ∈ p, b.has x = true
  end_ : ∀ b ∈ p, b.p.off + b.bytes.length ≤ e
def again (e : Nat) (b : Bn) : Nat := min (e - b.p.off) b.bytes.length
def laid (data : List UInt8) (e : Nat) (b : Bn) : List UInt8 := data.take (b.p.off + again e b) ++ b.bytes.drop (again e b) ++ data.drop (b.p.off + b.bytes.length)
theorem Tog.nil (t : Nat) : Tog t [] (List.replicate t 0) 0 := ⟨by simp, by omega, by simp, fun x _ h => by omega, by simp⟩
theorem Tog.byte_eq {data : List UInt8} {e : Nat} {b : Bn} (hok : (data.drop b.p.off).take (again e b) = b.bytes.take (again e b)) (x : Nat) (h1 : b.p.off ≤ x) (h2 : x < b.p.off + again e b) : data[x]? = some (b.byte x) := by
  have hx : x - b.p.off < again e b := by omega
  have h3 := congrArg (fun l => l[x - b.p.off]?) hok
  simp only [List.getElem?_take_of_lt hx, List.getElem?_drop] at h3
  rw [show b.p.off + (x - b.p.off) = x by omega] at h3
  rw [h3]
  exact byte_at b x ((has_iff b x).2 ⟨h1, by unfold again at h2; omega⟩)
theorem Tog.step {t : Nat} {p : List Bn} {data : List UInt8} {e : Nat} (h : Tog t p data e) {b : Bn} (hs : ∀ c ∈ p, c.p.off ≤ b.p.off) (hb : b.p.off + b.bytes.length ≤ t)
    (hok : (data.drop b.p.off).take (again e b) = b.bytes.take (again e b)) : Tog t (p ++ [b]) (laid data e b) (max e (b.p.off + b.bytes.length)) := by
  have hlen := h.len
  have hag : again e b ≤ b.bytes.length := by unfold again; omega
  have hl1 : (data.take (b.p.off + again e b)).length = b.p.off + again e b := by rw [List.length_take]; omega
  have hl2 : (b.bytes.drop (again e b)).length = b.bytes.length - again e b := List.length_drop
  have low : ∀ x, x < b.p.off + again e b → (laid data e b)[x]? = data[x]? := by
    intro x hx
    unfold laid
    rw [List.append_assoc, List.getElem?_append_left (by omega), List.getElem?_take_of_lt hx]
  have mid : ∀ x, b.p.off + again e b ≤ x → x < b.p.off + b.bytes.length → (laid data e b)[x]? = some (b.byte x) := by
    intro x h1 h2
    unfold laid
    rw [List.append_assoc, List.getElem?_append_right (by omega), List.getElem?_append_left (by omega), List.getElem?_drop, hl1, show again e b + (x - (b.p.off + again e b)) = x - b.p.off by omega]
    exact byte_at b x ((has_iff b x).2 ⟨by omega, h2⟩)
  have high : ∀ x, b.p.off + b.bytes.length ≤ x → (laid data e b)[x]? = data[x]? := by
    intro x h1
    unfold laid
    rw [List.append_assoc, List.getElem?_append_right (by omega), List.getElem?_append_right (by omega), List.getElem?_drop, hl1, hl2]
    congr 1
    omega
  have own : ∀ x, b.has x = true → (laid data e b)[x]? = some (b.byte x) := by
    intro x hx
    have h2 := (has_iff b x).1 hx
    by_cases h3 : x < b.p.off + again e b
    · rw [low x h3]; exact Tog.byte_eq hok x h2.1 h3
    · exact mid x (by omega) h2.2
  refine ⟨?_, ?_, ?_, ?_, ?_⟩
  · unfold laid
    rw [List.length_append, List.length_append, hl1, hl2, List.length_drop]
    omega
  · have := h.le; omega
  · intro c hc x hx
    rcases List.mem_append.1 hc with hc | hc
    · by_cases h3 : x < b.p.off + again e b
      · rw [low x h3]; exact h.at_ c hc x hx
      · by_cases h4 : b.p.off + b.bytes.length ≤ x
        · rw [high x h4]; exact h.at_ c hc x hx
        · have h5 := h.end_ c hc
          have h6 := (has_iff c x).1 hx
          unfold again at h3
          omega
    · rw [List.mem_singleton] at hc; subst hc; exact own x hx
  · intro x hx hlt
    by_cases h1 : x < e
    · obtain ⟨c, hc, h2⟩ := h.cov x (fun c hc => hx c (List.mem_append_left _ hc)) h1
      exact ⟨c, List.mem_append_left _ hc, h2⟩
    · exact ⟨b, List.mem_append_right _ (List.mem_singleton.2 rfl), (has_iff b x).2 ⟨hx b (List.mem_append_right _ (List.mem_singleton.2 rfl)), by omega⟩⟩
  · intro c hc
    rcases List.mem_append.1 hc with hc | hc
    · have := h.end_ c hc; omega
    · rw [List.mem_singleton] at hc; subst hc; omega
theorem Tog.clash {t : Nat} {p : List Bn} {data : List UInt8} {e : Nat} (h : Tog t p data e) {b : Bn} (hs : ∀ c ∈ p, c.p.off ≤ b.p.off)
    (hno : ¬ (data.drop b.p.off).take (again e b) = b.bytes.take (again e b)) : Clash (p ++ [b]) := by
  apply Classical.byContradiction
  intro hcl
  refine hno (List.ext_getElem? fun i => ?_)
  by_cases hi : i < again e b
  · rw [List.getElem?_take_of_lt hi, List.getElem?_take_of_lt hi, List.getElem?_drop]
    have hi2 : i < e - b.p.off ∧ i < b.bytes.length := by unfold again at hi; omega
    obtain ⟨c, hc, h2⟩ := h.cov (b.p.off + i) (fun c hc => by have := hs c hc; omega) (by omega)
    rw [h.at_ c hc _ h2]
    have hbx : b.has (b.p.off + i) = true := (has_iff b _).2 ⟨by omega, by omega⟩
    have h3 := byte_at b _ hbx
    rw [show b.p.off + i - b.p.off = i by omega] at h3
    rw [h3]
    congr 1
    apply Classical.byContradiction
    intro hne
    exact hcl ⟨b.p.off + i, c, b, List.mem_append_left _ hc, List.mem_append_right _ (List.mem_singleton.2 rfl), h2, hbx, hne⟩
  · rw [List.getElem?_eq_none (by rw [List.length_take]; omega), List.getElem?_eq_none (by rw [List.length_take]; omega)]
theorem Tog.noclash {t : Nat} {p : List Bn} {data : List UInt8} {e : Nat} (h : Tog t p data e) : ¬ Clash p := by
  rintro ⟨x, b, c, hb, hc, h1, h2, h3⟩
  have h4 := h.at_ b hb x h1
  rw [h.at_ c hc x h2] at h4
  injection h4 with h4
  exact h3 h4.symm

/-! ### holes -/
structure HolesInv (t : Nat) (p : List Bn) (st : List (Nat × Nat) × Nat) : Prop where
  le : st.2 ≤ t
  cov : st.1 = [] → ∀ x, x < st.2 → ∃ b ∈ p, b.has x = true
  gap : st.1 ≠ [] → ∃ x, x < t ∧ (∀ b ∈ p, b.has x = false) ∧ ∃ b ∈ p, x < b.p.off
  end_ : ∀ b ∈ p, ∀ x, x < t → b.has x = true → x < st.2
theorem has_from (b : Bn) (t x : Nat) (hx : x < t) : b.has x = true ↔ b.from_ t ≤ x ∧ x < b.end_ t := by
  rw [has_iff, bytes_len]
  unfold Bn.end_ Bn.from_
  omega
theorem HolesInv.step {t : Nat} {p : List Bn} {st : List (Nat × Nat) × Nat} (h : HolesInv t p st) {b : Bn} (hs : ∀ c ∈ p, c.p.off ≤ b.p.off) : HolesInv t (p ++ [b]) (holeStep t st b) := by
  have he := end_le b t
  have hfo : b.from_ t ≤ b.p.off := by unfold Bn.from_; omega
  have hbm : b ∈ p ++ [b] := List.mem_append_right _ (List.mem_singleton.2 rfl)
  have hgap : st.1 ≠ [] → ∃ x, x < t ∧ (∀ c ∈ p ++ [b], c.has x = false) ∧ ∃ c ∈ p ++ [b], x < c.p.off := by
    intro hne
    obtain ⟨x, hx, h1, c, hc, h2⟩ := h.gap hne
    refine ⟨x, hx, fun d hd => ?_, c, List.mem_append_left _ hc, h2⟩
    rcases List.mem_append.1 hd with hd | hd
    · exact h1 d hd
    · rw [List.mem_singleton] at hd; subst hd
      have := hs c hc
      exact (has_false d x).2 (by omega)
  unfold holeStep
  by_cases hfe : b.from_ t = b.end_ t
  · rw [if_pos hfe]
    refine ⟨h.le, fun hn x hx => ?_, hgap, fun c hc x hx hh => ?_⟩
    · obtain ⟨c, hc, h2⟩ := h.cov hn x hx
      exact ⟨c, List.mem_append_left _ hc, h2⟩
    · rcases List.mem_append.1 hc with hc | hc
      · exact h.end_ c hc x hx hh
      · rw [List.mem_singleton] at hc; subst hc
        have := (has_from c t x hx).1 hh
        omega
  · rw [if_neg hfe]
    have hlt : b.from_ t < b.end_ t := by omega
    refine ⟨?_, ?_, ?_, ?_⟩
    · have := h.le; show max st.2 (b.end_ t) ≤ t; omega
    · by_cases htf : st.2 < b.from_ t
      · rw [if_pos htf]; intro hn; simp at hn
      · rw [if_neg htf]
        intro hn x hx
        have hx' : x < max st.2 (b.end_ t) := hx
        by_cases h1 : x < st.2
        · obtain ⟨c, hc, h2⟩ := h.cov hn x h1
          exact ⟨c, List.mem_append_left _ hc, h2⟩
        · exact ⟨b, hbm, (has_from b t x (by omega)).2 (by omega)⟩
    · by_cases htf : st.2 < b.from_ t
      · rw [if_pos htf]
        intro _
        refine ⟨st.2, by omega, fun c hc => ?_, b, hbm, by omega⟩
        rcases List.mem_append.1 hc with hc | hc
        · cases hh : c.has st.2 with
          | false => rfl
          | true => have := h.end_ c hc st.2 (by omega) hh; omega
        · rw [List.mem_singleton] at hc; subst hc
          exact (has_false c _).2 (by omega)
      · rw [if_neg htf]; exact hgap
    · intro c hc x hx hh
      show x < max st.2 (b.end_ t)
      rcases List.mem_append.1 hc with hc | hc
      · have := h.end_ c hc x hx hh; omega
      · rw [List.mem_singleton] at hc; subst hc
        have := (has_from c t x hx).1 hh
        omega
theorem holesInv {t : Nat} {l s : List Bn} (h : Sorted l s) : ∀ k, k ≤ s.length → HolesInv t (s.take k) (holeFold t (s.take k))
  | 0, _ => ⟨Nat.zero_le _, fun _ x hx => absurd hx (Nat.not_lt_zero _), fun hn => absurd rfl hn, by simp⟩
  | k + 1, hk => by
    rw [List.take_succ_eq_append_getElem (by omega), holeFold_snoc]
    exact (holesInv h k (by omega)).step (h.take k (by omega))
theorem holes_nil {t : Nat} {l s : List Bn} (h : Sorted l s) : holesL t s = [] ↔ ¬ Gap t l := by
  have hi := holesInv (t := t) h s.length (Nat.le_refl _)
  rw [List.take_of_length_le (Nat.le_refl _)] at hi
  have hgs : Gap t l ↔ Gap t s := ⟨fun g => g.perm fun b hb => (h.mem b).1 hb, fun g => g.perm fun b hb => (h.mem b).2 hb⟩
  rw [hgs]
  unfold holesL
  constructor
  · intro hn
    by_cases hlt : (holeFold t s).2 < t
    · rw [if_pos hlt] at hn; simp at hn
    · rw [if_neg hlt] at hn
      rintro ⟨x, hx, h1⟩
      obtain ⟨b, hb, h2⟩ := hi.cov hn x (by omega)
      rw [h1 b hb] at h2
      cases h2
  · intro hg
    have h1 : (holeFold t s).1 = [] := by
      apply Classical.byContradiction
      intro hne
      obtain ⟨x, hx, h2, _⟩ := hi.gap hne
      exact hg ⟨x, hx, h2⟩
    by_cases hlt : (holeFold t s).2 < t
    · refine absurd ⟨_, hlt, fun b hb => ?_⟩ hg
      cases hh : b.has (holeFold t s).2 with
      | false => rfl
      | true => have := hi.end_ b hb _ hlt hh; omega
    · rw [if_neg hlt]; exact h1

end Go.Proofs.Ytlbgcbekjjkokaa
