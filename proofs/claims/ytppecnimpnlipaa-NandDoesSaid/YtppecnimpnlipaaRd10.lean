/-
  THE REFERENCE OF LAYER 14: a new device, as RefAt.
-/
import Derived.Test.YtppecnimpnlipaaRd9
namespace Go.Proofs.Ytppecnimpnlipaa
open Go.RowKit
open Go.Sort

theorem own_formC {W : World} {base n : Nat} {t : TypeId} {v : Value} {xs : List Value} (h : W.ownsRow base t 1 v n xs) (hn : 0 < n) : ∃ g c, v = .slice (some ⟨g, 0, none⟩) n c ∧ base ≤ g ∧ RowC W g t n (fun i => xs.getD i undef) := by
  rcases h.2 with ⟨_, h0⟩ | ⟨g, cap, cur, hv, hb, hg, hc⟩
  · omega
  · subst hv
    obtain ⟨g2, hA, _, hb2, hr⟩ := RowC.of_own h hn
    cases hA
    exact ⟨g, cap, rfl, hb, hr⟩
theorem getD_rep (n i : Nat) (v : Value) (h : i < n) : (List.replicate n v).getD i undef = v := by simp [List.getD, h]
theorem refAt_new {w W : World} {q : Pn} {b0 r : Nat} {pv nv wv : Value} (h : NewAt w q b0 r (q.g.b.toNat * q.g.p.toNat) q.g.b.toNat q.g.b.toNat pv nv wv W) (hg : q.g.Right) (hq : q.Ok w w.heap.size) (hl : q.light = true) :
    ∃ rp rn rw cp cn cw, RefAt W w.heap.size W.heap.size q (Dv.fresh q.g q.bl q.fl) r rp rn rw cp cn cw := by
  have hs : 0 < q.g.b.toNat ∧ 0 < q.g.p.toNat := by
    obtain ⟨h1, h2, h3, h4, _⟩ := hg
    omega
  obtain ⟨rp, cp, rfl, hp1, hp2⟩ := own_formC h.ps (Nat.mul_pos hs.1 hs.2)
  obtain ⟨rn, cn, rfl, hn1, hn2⟩ := own_formC h.ns hs.1
  obtain ⟨rw, cw, rfl, hw1, hw2⟩ := own_formC h.ws hs.1
  have hp := h.pos
  refine ⟨rp, rn, rw, cp, cn, cw, ⟨by omega, ⟨hp.2.2, hp2.lt, hn2.lt, hw2.lt⟩, ?_, h.box, ?_, ?_, ?_, hq.below h.below, fun i _ => rfl, rfl, ?_, hg⟩⟩
  · intro e
    rcases h.ne with h0 | h0
    · cases h0
    · exact h0 (by rw [e]; rfl)
  · exact hp2.congr fun i hi => getD_rep _ _ _ hi
  · exact hn2.congr fun i hi => getD_rep _ _ _ hi
  · exact hw2.congr fun i hi => getD_rep _ _ _ hi
  · unfold Pn.light at hl
    simp only [Bool.and_eq_true, decide_eq_true_eq, List.all_eq_true] at hl
    exact ⟨hl.1.1, hl.1.2, fun f hf => hl.2 f hf⟩
end Go.Proofs.Ytppecnimpnlipaa
