/-
  ARGUMENTS OPENED into this verifier's words: a slice that came in lies somewhere, as a list.
-/
import Derived.Test.YtabancgcokcfdaaLaw
namespace Go.Proofs.Ytabancgcokcfdaa
open Go.ChangeShapes Go.WideShapes Go.ChangeAt Go.RowKit Go.Joins Go.Deep

section
variable {H : Type} {enc : TypeId × Value → H} {P : Program} {W : World} {base : Nat} {held : Bool}

theorem lies_of (a : Addr) (xs : List Value) (h : ∀ j u, xs[j]? = some u → W.cell? (a.add j) = some u) : Lies W W.heap.size (some a) xs := by
  rcases xs with _ | ⟨x, xs⟩
  · exact .inl rfl
  · refine .inr ⟨a, rfl, ?_, h⟩
    have := World.block_lt_of_cell? W _ (h 0 x rfl)
    have e : (a.add 0).block = a.block := by unfold Addr.add; split <;> rfl
    rwa [e] at this

/-- A slice among the arguments is its one cell. -/
theorem slice_of_cells {t e : TypeId} {v : Value} {A : Option Addr} {n c : Nat} {r : Reach} {b : Nat} (hv : Value.okWide P W r b t v) (ht : P.underlying t = some (.slice e)) (h : v.cells.toList = [.slice A n c]) : v = .slice A n c := by
  obtain ⟨a, l, k, hv'⟩ := okWide_slice ht hv
  subst hv'
  simpa [Value.cells] using h

end
end Go.Proofs.Ytabancgcokcfdaa
