/-
  WHAT Join ANSWERS, plain mathematics: what is wrong with fragments, in order; what follows for those of which nothing is wrong.
-/
import Derived.Test.YtlbgcbekjjkokaaJnM
import Derived.Test.YtlbgcbekjjkokaaStra
import Derived.Test.YtlbgcbekjjkokaaBuck
namespace Go.Proofs.Ytlbgcbekjjkokaa
open Go.RowKit

/-- The first error of any. -/
def fErr : List Bn → Int
  | [] => 0
  | b :: r => if b.check = 0 then fErr r else b.check
theorem fErr_cons (b : Bn) (r : List Bn) : fErr (b :: r) = if b.check = 0 then fErr r else b.check := rfl
theorem fErr_drop {l : List Bn} {k : Nat} (hk : k < l.length) : fErr (l.drop k) = if l[k].check = 0 then fErr (l.drop (k + 1)) else l[k].check := by
  rw [List.drop_eq_getElem_cons hk, fErr_cons]
theorem fErr_zero : ∀ {l : List Bn}, fErr l = 0 → ∀ b ∈ l, b.check = 0
  | [], _, b, hb => by simp at hb
  | x :: r, h, b, hb => by
    rw [fErr_cons] at h
    by_cases hx : x.check = 0
    · rw [if_pos hx] at h
      rcases List.mem_cons.1 hb with hb | hb
      · rw [hb]; exact hx
      · exact fErr_zero h b hb
    · rw [if_neg hx] at h; exact absurd h hx
theorem fErr_all : ∀ {l : List Bn}, (∀ b ∈ l, b.check = 0) → fErr l = 0
  | [], _ => rfl
  | x :: r, h => by rw [fErr_cons, if_pos (h x List.mem_cons_self)]; exact fErr_all fun b hb => h b (List.mem_cons_of_mem _ hb)

theorem check_p0 {b : Bn} (h : b.check = 0) : b.p.check = 0 := by
  unfold Bn.check at h
  split at h
  · cases h
  · split at h
    · rename_i h1; exact absurd h h1
    · rename_i h1; exact Classical.not_not.1 h1
theorem check_few {b : Bn} (h : b.check = 0) : b.bs.length ≤ 16 := by
  unfold Bn.check at h
  split at h
  · cases h
  · omega
theorem check_placed {b : Bn} (h : b.check = 0) : b.p.placed = true := by
  have h := check_p0 h
  unfold Pr.check at h
  split at h
  · cases h
  · split at h
    · cases h
    · rename_i h1
      cases hp : b.p.placed with
      | true => rfl
      | false => exact absurd (.inl hp) h1
theorem check_off {b : Bn} (h : b.check = 0) (h1 : b.p.fl % 2 = 1) : b.p.off < b.p.tot := by
  have := check_placed h
  unfold Pr.placed at this
  rw [if_pos h1, decide_eq_true_iff] at this
  exact this.2
theorem check_off0 {b : Bn} (h : b.check = 0) (h1 : ¬ b.p.fl % 2 = 1) : b.p.off = 0 ∧ b.p.tot = 0 := by
  have := check_placed h
  unfold Pr.placed at this
  rw [if_neg h1, decide_eq_true_iff] at this
  exact this

structure Fits (f b : Bn) : Prop where
  frag : b.p.fl % 2 = 1
  tot : b.p.tot = f.p.tot
  src : b.p.src = f.p.src
  time : b.p.time = f.p.time
  seq : b.p.seq = f.p.seq
  off : b.p.off < f.p.tot
  end_ : b.p.off + b.bytes.length ≤ f.p.tot
  most : f.p.tot ≤ 65536
theorem not_strange {f b : Bn} (h : strangeB f b = false) (hc : b.check = 0) : Fits f b := by
  unfold strangeB at h
  simp only [Bool.or_eq_false_iff, Bool.not_eq_false', decide_eq_true_iff, decide_eq_false_iff_not] at h
  obtain ⟨h1, h2, h3, h4⟩ := h
  obtain ⟨_, e1, e2, e3, e4⟩ := (Pr.sameB_iff _ _).1 h2
  have h5 := check_off hc h1
  exact ⟨h1, e4, e1, e2, e3, by omega, by rw [bytes_len]; omega, by omega⟩
theorem none_strange {f : Bn} {l : List Bn} (h : l.any (strangeB f) = false) (hc : fErr l = 0) : ∀ b ∈ l, Fits f b := fun b hb => by
  rw [List.any_eq_false] at h
  have := h b hb
  exact not_strange (by simpa using this) (fErr_zero hc b hb)

/-- One bundle that is no fragment. -/
def Loose (l : List Bn) : Prop := ∃ b, l = [b] ∧ ¬ b.p.fl % 2 = 1
def zNm : Nm := ⟨0, ⟨#[]⟩, 0, 0⟩
def zBk : Bk := ⟨0, 0, 0, 0, ⟨#[]⟩⟩
def zBn : Bn := ⟨⟨0, 0, zNm, zNm, zNm, 0, 0, 0, 0, 0⟩, none, 0, 0, [], zBk⟩
def joined (b : Bn) (A : Option Addr) (c : Nat) (data : List UInt8) : Bn := { b with p := b.p.whole, A := A, c := c, pay := { b.pay with data := str data } }
structure Base (f : Bn) (r : List Bn) : Prop where
  ok : fErr (f :: r) = 0
  frag : ¬ Loose (f :: r)
/-- What Join tells of fragments: a bundle, an error. -/
def JoinIs (l : List Bn) (X : Bn) (e : Int) : Prop :=
  (l = [] ∧ X = zBn ∧ e = 8) ∨
  (fErr l ≠ 0 ∧ X = zBn ∧ e = fErr l) ∨
  (∃ b A c, l = [b] ∧ fErr l = 0 ∧ ¬ b.p.fl % 2 = 1 ∧ X = { b with A := A, c := c } ∧ e = 0) ∨
  ∃ f r, l = f :: r ∧ Base f r ∧
    ((l.any (strangeB f) = true ∧ X = zBn ∧ e = 6) ∨
     (l.any (strangeB f) = false ∧
       ((Clash l ∧ X = zBn ∧ e = 6) ∨
        (¬ Clash l ∧ Gap f.p.tot l ∧ X = zBn ∧ e = 8) ∨
        (¬ Clash l ∧ ¬ Gap f.p.tot l ∧ e = 0 ∧ ∃ b A c data, b ∈ l ∧ b.p.off = 0 ∧ X = joined b A c data ∧ data.length = f.p.tot ∧ ∀ b ∈ l, ∀ x, b.has x = true → data[x]? = some (b.byte x)))))

end Go.Proofs.Ytlbgcbekjjkokaa
