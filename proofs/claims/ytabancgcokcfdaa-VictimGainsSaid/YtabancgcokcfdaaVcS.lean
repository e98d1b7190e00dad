/-
  LAYER 22, SORTING BY A FUNCTION THAT KEEPS WHAT IT TOLD: the row that is being sorted, and what the comparing function knows.
-/
import Derived.Test.YtabancgcokcfdaaVcK
import Derived.Test.YtabancgcokcfdaaWords
import Derived.Deep.MidRow
import Derived.RegionTactic
import Derived.Deep.QuietTactic
import Derived.BigQuiet
import Derived.Deep.CutBlock
namespace Go.Proofs.Ytabancgcokcfdaa
open Go.RowKit
set_option maxRecDepth 8000
namespace Vc

/-- What is asked ahead: few places, few blocks. -/
structure Env (L : List Pl2) (S : List Int) : Prop where
  l : L.length ≤ 1000
  s : S.length ≤ 1000
  ok : ∀ x ∈ S, Ok64 x
theorem addr_ownV {w : World} {base g : Nat} {e : TypeId} {n m c : Nat} {xs : List Value} (h : w.ownsRow base e 1 (.slice (some ⟨g, 0, none⟩) m c) n xs) {k : Nat} {u : Value} (hu : xs[k]? = some u) : w.cell? ⟨g, k, none⟩ = some u := by
  have h := h.cells rfl k u hu
  have e : ((⟨g, 0, none⟩ : Addr).add k) = ⟨g, k, none⟩ := by unfold Addr.add; by_cases hq : k = 0 <;> simp [hq]
  rwa [e] at h
theorem grown_setV (W : World) (p : Addr) (u : Value) : W.grownBy (W.setCell p u) (some p.block) :=
  ⟨rfl, rfl, rfl, by simp [World.setCell], fun k _ hne => Below.heap_setCell _ _ _ _ (fun e => hne (by rw [e]))⟩
theorem arr_atV (D : Array Int) (k : Nat) : D.toList.getD k 0 = D[k]! := by
  rw [List.getD_eq_getElem?_getD, Array.getElem?_toList, Array.getElem!_eq_getD, Array.getD_eq_getD_getElem?]; rfl
theorem swp_toList (D : Array Int) (i j : Nat) : (Sort.swp D i j).toList = (D.toList.set i D[j]!).set j D[i]! := by
  unfold Sort.swp
  rw [Array.toList_setIfInBounds, Array.toList_setIfInBounds]
/-- Nothing but the blocks g and m was touched. -/
structure Two (W W' : World) (g m : Nat) : Prop where
  os : W'.os = W.os
  tape : W'.tape = W.tape
  output : W'.output = W.output
  size : W.heap.size ≤ W'.heap.size
  block : ∀ k, k < W.heap.size → k ≠ g → k ≠ m → W'.heap[k]? = W.heap[k]?
theorem Two.grown {W W1 W2 : World} {g m : Nat} {r : Option Nat} (h : Two W W1 g m) (k : W1.grownBy W2 r) (hr : ∀ j, r = some j → j = g ∨ j = m ∨ W.heap.size ≤ j) : Two W W2 g m :=
  ⟨k.os.trans h.os, k.tape.trans h.tape, k.output.trans h.output, Nat.le_trans h.size k.size, fun j hj h1 h2 => (k.block j (Nat.lt_of_lt_of_le hj h.size) (fun e => by rcases hr j e.symm with e | e | e <;> omega)).trans (h.block j hj h1 h2)⟩
theorem Two.refl (W : World) (g m : Nat) : Two W W g m := ⟨rfl, rfl, rfl, Nat.le_refl _, fun _ _ _ _ => rfl⟩
/-- The row that is sorted holds D; what the comparing function knows is right; nothing else was touched. -/
structure Vd (L : List Pl2) (S : List Int) (q base g c N : Nat) (W0 : World) (D : Array Int) (W : World) : Prop where
  row : W.ownsRow base 3 1 (.slice (some ⟨g, 0, none⟩) N c) N (nums .i64 D.toList)
  ka : Ka L S q W
  two : Two W0 W g (q + 1)
  mem : ∀ k, k < N → D[k]! ∈ S
  env : Env L S
  lo : q + 4 ≤ base
  hi : q + 4 ≤ W0.heap.size
section
variable {L : List Pl2} {S : List Int} {q base g c N : Nat} {W0 W W' : World} {D : Array Int}
theorem Vd.size (h : Vd L S q base g c N W0 D W) : D.size = N := by have := h.row.1; rw [nums_len, Nat.mul_one] at this; simpa using this
theorem Vd.at (h : Vd L S q base g c N W0 D W) {k : Nat} (hk : k < N) : W.cell? ⟨g, k, none⟩ = some (.int .i64 D[k]!) := by
  have hl := h.size
  refine addr_ownV h.row ?_
  rw [← arr_atV, nums, List.getElem?_map, List.getElem?_eq_getElem (by simpa using by omega), List.getD_eq_getElem?_getD, List.getElem?_eq_getElem (by simpa using by omega)]; rfl
theorem Vd.low (h : Vd L S q base g c N W0 D W) : q + 4 ≤ g ∧ g < W.heap.size := by
  obtain ⟨h1, h2⟩ := own_lowS h.row g rfl
  exact ⟨Nat.le_trans h.lo h1, h2⟩
theorem Vd.grown {r : Option Nat} (h : Vd L S q base g c N W0 D W) (hg : W.grownBy W' r) (h1 : ∀ k, r = some k → W0.heap.size ≤ k) (h2 : r ≠ some g) : Vd L S q base g c N W0 D W' where
  row := h.row.kept hg (.inr (fun e => h2 e.symm))
  ka := h.ka.kept hg (fun k e => Nat.le_trans h.hi (h1 k e))
  two := h.two.grown hg (fun j e => .inr (.inr (h1 j e)))
  mem := h.mem
  env := h.env
  lo := h.lo
  hi := h.hi
theorem Vd.drewN (h : Vd L S q base g c N W0 D W) (n : Nat) : Vd L S q base g c N W0 D (W.drewN n) := h.grown (r := none) (grown_below (bel_drewN (Below.refl _ _) _)) (fun _ e => by cases e) (fun e => by cases e)
theorem Vd.drew (h : Vd L S q base g c N W0 D W) : Vd L S q base g c N W0 D W.drew := h.grown (r := none) (grown_drew W none) (fun _ e => by cases e) (fun e => by cases e)
theorem Vd.alloc (h : Vd L S q base g c N W0 D W) (o : Obj) : Vd L S q base g c N W0 D (W.alloc o) := h.grown (r := none) (World.grownBy_alloc W o none) (fun _ e => by cases e) (fun e => by cases e)
theorem Vd.froz (h : Vd L S q base g c N W0 D W) (k : Nat) : W.frozen? ⟨g, k, none⟩ = false := h.row.frozenAt k
theorem mem_swp {S : List Int} {D : Array Int} {N i j : Nat} (hD : D.size = N) (h : ∀ k, k < N → D[k]! ∈ S) (hi : i < N) (hj : j < N) : ∀ k, k < N → (Sort.swp D i j)[k]! ∈ S := by
  intro k hk
  rw [← arr_atV, swp_toList, List.getD_eq_getElem?_getD, List.getElem?_set]
  split
  · rw [if_pos (by simp; omega)]; exact h i hi
  · rw [List.getElem?_set]
    split
    · rw [if_pos (by simp; omega)]; exact h j hj
    · rw [← List.getD_eq_getElem?_getD, arr_atV]; exact h k hk
theorem Vd.swap (h : Vd L S q base g c N W0 D W) {i j : Nat} (hi : i < N) (hj : j < N) : Vd L S q base g c N W0 (Sort.swp D i j) ((W.setCell ⟨g, i, none⟩ (.int .i64 D[j]!)).setCell ⟨g, j, none⟩ (.int .i64 D[i]!)) := by
  obtain ⟨h2, h3⟩ := h.row.stored i (.int .i64 D[j]!)
  obtain ⟨h4, h5⟩ := h2.stored j (.int .i64 D[i]!)
  have hlo := h.low
  refine ⟨?_, (h.ka.kept h3 (fun k e => by have e : some g = some k := e; injection e with e; omega)).kept h5 (fun k e => by have e : some g = some k := e; injection e with e; omega), (h.two.grown h3 (fun j e => .inl (by injection e with e; exact e.symm))).grown h5 (fun j e => .inl (by injection e with e; exact e.symm)), mem_swp h.size h.mem hi hj, h.env, h.lo, h.hi⟩
  rw [swp_toList, nums, List.map_set, List.map_set]; exact h4
/-- One comparison of two numbers that are among those that may be asked for. -/
theorem Vd.cmp (h : Vd L S q base g c N W0 D W) {x y : Int} (hx : x ∈ S) (hy : y ∈ S) :
    Calls Try.prog 23 #[.int .i64 x, .int .i64 y, .pointer (some ⟨q + 3, 0, none⟩)] W fun e w' => e = .returned (.int .i64 (cfV L x y)) ∧ Vd L S q base g c N W0 D w' ∧ W.grownBy w' (some (q + 1)) := by
  refine (cmp1_any L S q x y W h.ka hx hy (h.env.ok x hx) (h.env.ok y hy) h.env.l h.env.s).mono ?_
  rintro e w' ⟨rfl, hk, hg⟩
  have hlo := h.low
  exact ⟨rfl, ⟨h.row.kept hg (.inr (fun e => by have e : some g = some (q + 1) := e; injection e with e; omega)), hk, h.two.grown hg (fun j e => .inr (.inl (by injection e with e; exact e.symm))), h.mem, h.env, h.lo, h.hi⟩, hg⟩
end
theorem measS {j b : Nat} (h : j < b) : b - (RowKit.intOf (.int .i64 ((j : Int) + 1))).toNat < b - (RowKit.intOf (.int .i64 (j : Int))).toNat := by
  show b - (j + 1) < b - j
  omega
theorem w6n2 {x : Nat} (h : x ≤ 1000) : wrap64 ((x : Int) + 1) = ((x + 1 : Nat) : Int) := by unfold wrap64; omega
theorem w6n {x : Nat} (h : x ≤ 1000) : wrap64 (x : Int) = (x : Int) := by unfold wrap64; omega
theorem w6m {x : Nat} (h : x ≤ 100000) : wrap64 (x : Int) = (x : Int) := by unfold wrap64; omega
theorem w6i {x : Nat} (h : x ≤ 100000) : IntKind.i64.wrap (x : Int) = (x : Int) := IntWalk.i64_in _ (by omega)
theorem egV : ∀ args w, (callFunc 23 args).run Try.prog w = .ok (.enter 23 args) w := enters_of Try.func23 (by kernel_rfl) rfl
end Vc
end Go.Proofs.Ytabancgcokcfdaa
