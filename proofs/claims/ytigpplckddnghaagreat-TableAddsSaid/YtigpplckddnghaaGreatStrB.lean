/-
  A string of bytes as bytes. (Cut out of PgV.)
-/
import Derived.Test.YtigpplckddnghaaGreatBytes
import Derived.Laws.Strings2
import Derived.Deep.AppendLies
namespace Go.Proofs.YtigpplckddnghaaGreat
open Go.RowKit
set_option maxRecDepth 8000

theorem strBytesP (W : World) (s : List UInt8) : ∃ c W', (convert 9 67 (.string (str s))).run Tryz.prog W = .ok (.slice (some ⟨W.heap.size, 0, none⟩) s.length c) W' ∧ s.length ≤ c ∧ Below W.heap.size W W' ∧ Lies W' W'.heap.size (some ⟨W.heap.size, 0, none⟩) (bys s) := by
  have hr := run_bytes_of_string (P := Tryz.prog) W 9 67 5 (str s) Tryz.underlying9 Tryz.underlying67 Tryz.underlying5
  have hz : (str s).size = s.length := str_size s
  have hcap := grownCap_ge W (str s).size 0 5
  generalize hcp : grownCap W (str s).size 0 5 = cp at hr hcap
  rw [hz] at hr hcap
  refine ⟨_, _, hr, hcap, ((Below.refl _ W).drew).alloc (Nat.le_refl _) _, .inr ⟨_, rfl, by simp, ?_⟩⟩
  intro j u hj
  have hjl : j < s.length := by have := (List.getElem?_eq_some_iff.1 hj).1; rwa [bys_len] at this
  rw [bys_at s j hjl] at hj
  cases hj
  have e : (⟨W.heap.size, 0, none⟩ : Addr).add j = ⟨W.heap.size, j, none⟩ := by unfold Addr.add; split <;> simp_all
  rw [e, show (⟨W.heap.size, j, none⟩ : Addr) = ⟨W.drew.heap.size, j, none⟩ from rfl, World.cell?_alloc_mark, bytesRow_at (str s) _ j (by simpa [str] using hjl)]
  simp [str]
end Go.Proofs.YtigpplckddnghaaGreat
