/-
  WHAT Join TELLS AND WHAT THE REFERENCE TELLS, held against one another: plain mathematics.
-/
import Derived.Test.YtlbgcbekjjkokaaAwf
import Derived.Test.YtlbgcbekjjkokaaRjo
namespace Go.Proofs.Ytlbgcbekjjkokaa
open Go.RowKit

theorem Loose.frag {f : Bn} {r : List Bn} (h : Base f r) {b : Bn} (hb : f :: r = [b]) (hf : ¬ b.p.fl % 2 = 1) : False := h.frag ⟨b, hb, hf⟩
structure Agree (l : List Bn) (X : Bn) (e : Int) (d : ByteArray) (f : Int) : Prop where
  err : e = f
  bad : f ≠ 0 → X = zBn
  good : f = 0 → X.pay.data = d ∧ X.p.fl % 2 = 0 ∧ ∃ b r, l = b :: r ∧ X.p.src = b.p.src ∧ X.p.time = b.p.time ∧ X.p.seq = b.p.seq
theorem data_one {f : Bn} {l : List Bn} {D E : List UInt8} {t : Nat} (hg : ¬ Gap t l) (hD : D.length = t) (hE : E.length = t) (h1 : ∀ b ∈ l, ∀ x, b.has x = true → D[x]? = some (b.byte x)) (h2 : ∀ b ∈ l, ∀ x, b.has x = true → E[x]? = some (b.byte x)) : D = E := by
  refine List.ext_getElem? fun x => ?_
  by_cases hx : x < t
  · apply Classical.byContradiction
    intro hne
    refine hg ⟨x, hx, fun b hb => ?_⟩
    cases hh : b.has x with
    | false => rfl
    | true => exact absurd ((h1 b hb x hh).trans (h2 b hb x hh).symm) hne
  · rw [List.getElem?_eq_none (by omega), List.getElem?_eq_none (by omega)]
theorem joins_agree {l : List Bn} {X : Bn} {e f : Int} {d : ByteArray} (hJ : JoinIs l X e) (hR : JoinsIs l d f) : Agree l X e d f := by
  rcases hJ with ⟨a1, a2, a3⟩ | ⟨a1, a2, a3⟩ | ⟨b, A, c, a1, a2, a3, a4, a5⟩ | ⟨b0, r, a1, aB, a2⟩
  · rcases hR with ⟨b1, b2⟩ | ⟨b1, b2⟩ | ⟨b, b1, _⟩ | ⟨b0, r, b1, _⟩
    · exact ⟨by rw [a3, b2], fun _ => a2, fun h => by rw [b2] at h; cases h⟩
    · rw [a1] at b1; exact absurd rfl b1
    · rw [a1] at b1; cases b1
    · rw [a1] at b1; cases b1
  · rcases hR with ⟨b1, b2⟩ | ⟨b1, b2⟩ | ⟨b, b1, b2, _⟩ | ⟨b0, r, b1, bB, _⟩
    · rw [b1] at a1; exact absurd rfl a1
    · exact ⟨by rw [a3, b2], fun _ => a2, fun h => by rw [b2] at h; exact absurd h a1⟩
    · exact absurd b2 a1
    · exact absurd (by rw [b1]; exact bB.ok) a1
  · rcases hR with ⟨b1, b2⟩ | ⟨b1, b2⟩ | ⟨b', b1, _, _, b4, b5⟩ | ⟨b0, r, b1, bB, _⟩
    · rw [a1] at b1; cases b1
    · exact absurd a2 b1
    · rw [a1] at b1
      injection b1 with b1 _
      subst b1
      exact ⟨by rw [a5, b5], fun h => absurd b5 h, fun _ => ⟨by rw [a4, b4], by rw [a4]; show b.p.fl % 2 = 0; omega, b, [], a1, by rw [a4], by rw [a4], by rw [a4]⟩⟩
    · exact (Loose.frag bB (by rw [← b1, a1]) a3).elim
  · have hfe : fErr l = 0 := by rw [a1]; exact aB.ok
    rcases hR with ⟨b1, b2⟩ | ⟨b1, b2⟩ | ⟨b', b1, _, b3, _⟩ | ⟨b0', r', b1, bB, b2⟩
    · rw [a1] at b1; cases b1
    · exact absurd hfe b1
    · exact (Loose.frag aB (by rw [← a1, b1]) b3).elim
    · rw [a1] at b1
      injection b1 with b1 b1'
      subst b1 b1'
      rcases a2 with ⟨a3, a4, a5⟩ | ⟨a3, a4⟩
      · rcases b2 with ⟨b3, b4⟩ | ⟨b3, _⟩
        · exact ⟨by rw [a5, b4], fun _ => a4, fun h => by rw [b4] at h; cases h⟩
        · rw [a3] at b3; cases b3
      · rcases b2 with ⟨b3, _⟩ | ⟨_, b4⟩
        · rw [a3] at b3; cases b3
        · rcases a4 with ⟨a5, a6, a7⟩ | ⟨a5, a6, a7, a8⟩ | ⟨a5, a6, a7, p, A, c, data, a8, a9, a10, a11, a12⟩
          · rcases b4 with ⟨_, b6⟩ | ⟨b5, _⟩ | ⟨b5, _⟩
            · exact ⟨by rw [a7, b6], fun _ => a6, fun h => by rw [b6] at h; cases h⟩
            · exact absurd a5 b5
            · exact absurd a5 b5
          · rcases b4 with ⟨b5, _⟩ | ⟨_, _, b7⟩ | ⟨_, b6, _⟩
            · exact absurd b5 a5
            · exact ⟨by rw [a8, b7], fun _ => a7, fun h => by rw [b7] at h; cases h⟩
            · exact absurd a6 b6
          · rcases b4 with ⟨b5, _⟩ | ⟨_, b6, _⟩ | ⟨_, b6, b7, D, b8, b9, b10⟩
            · exact absurd b5 a5
            · exact absurd b6 a6
            · have hfit := none_strange a3 hfe
              have hp := hfit p a8
              have hD := data_one (f := b0) a6 a11 b9 a12 b10
              refine ⟨by rw [a7, b7], fun h => absurd b7 h, fun _ => ⟨by rw [a10, b8, ← hD]; rfl, by rw [a10]; show (p.p.fl - p.p.fl % 2) % 2 = 0; omega, b0, r, a1, ?_, ?_, ?_⟩⟩
              · rw [a10]; exact hp.src
              · rw [a10]; exact hp.time
              · rw [a10]; exact hp.seq

end Go.Proofs.Ytlbgcbekjjkokaa
