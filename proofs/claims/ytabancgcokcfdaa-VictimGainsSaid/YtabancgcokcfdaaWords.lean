/-
  WORDS of this verifier's own: bytes as cells, slices that read as lists, strings made of bytes. Nothing here speaks of one program.
-/
import Derived.WalkKit
import Derived.WalkSpells
import Derived.WalkLawsBesides
import Derived.Maps.AppendAt
import Derived.Deep.AppendLies
import Derived.OneCell
import Derived.IntWalk
namespace Go.Proofs.Ytabancgcokcfdaa
open Go.RowKit

theorem bel_drewN {B : Nat} {a w : World} (h : Below B a w) (n : Nat) : Below B a (w.drewN n) := ⟨h.os, h.tape, h.output, h.size, h.block⟩
/-- A fact that the walk shall not use as a rule. -/
theorem hide {p : Prop} (h : p) : Hid p := h

/-- Bytes as cells. -/
def bys (l : List UInt8) : List Value := l.map fun b => .int .u8 (b.toNat : Int)

theorem bys_len (l : List UInt8) : (bys l).length = l.length := by simp [bys]
/-- The slice that begins at A holds the cells xs; what it holds lies below block B. -/
def Lies (w : World) (B : Nat) (A : Option Addr) (xs : List Value) : Prop :=
  xs = [] ∨ ∃ a, A = some a ∧ a.block < B ∧ ∀ j u, xs[j]? = some u → w.cell? (a.add j) = some u

section
variable {w w' : World} {B B' : Nat} {A : Option Addr} {xs : List Value}
theorem Lies.nil : Lies w B A [] := .inl rfl
theorem Lies.same (h : Lies w B A xs) (hk : ∀ p : Addr, p.block < B → w'.cell? p = w.cell? p) : Lies w' B A xs := by
  rcases h with h | ⟨a, hA, hb, hc⟩
  · exact .inl h
  · refine .inr ⟨a, hA, hb, fun j u hu => ?_⟩
    have e : (a.add j).block = a.block := by unfold Addr.add; split <;> rfl
    exact (hk _ (by rw [e]; exact hb)).trans (hc j u hu)
theorem Lies.below (h : Lies w B A xs) (hb : Below B w w') : Lies w' B A xs := h.same fun _ hp => hb.cell hp
theorem Lies.drewN (h : Lies w B A xs) (n : Nat) : Lies (w.drewN n) B A xs := h
theorem Lies.drew (h : Lies w B A xs) : Lies w.drew B A xs := h
theorem Lies.up (h : Lies w B A xs) (hB : B ≤ B') : Lies w B' A xs := by
  rcases h with h | ⟨a, hA, hb, hc⟩
  · exact .inl h
  · exact .inr ⟨a, hA, by omega, hc⟩
theorem Lies.alloc (h : Lies w B A xs) (hB : B ≤ w.heap.size) (o : Obj) : Lies (w.alloc o) B A xs := h.below ((Below.refl B w).alloc hB o)
theorem Lies.at_ {k : Nat} (h : Lies w B A xs) (hk : k < xs.length) : ∃ a, A = some a ∧ a.block < B ∧ w.cell? (a.add k) = some (xs[k]'hk) := by
  rcases h with h | ⟨a, hA, hb, hc⟩
  · subst h; simp at hk
  · exact ⟨a, hA, hb, hc k _ (List.getElem?_eq_getElem hk)⟩
theorem Lies.of_own {base size : Nat} {e : TypeId} {n m c : Nat} (h : w.ownsRow base e size (.slice A m c) n xs) : Lies w w.heap.size A xs := by
  rcases h.2 with ⟨hv, hn⟩ | ⟨g, cap, cur, hv, _, hg, _, _, _, _⟩
  · refine .inl (List.eq_nil_of_length_eq_zero ?_)
    rw [h.1, hn, Nat.zero_mul]
  · injection hv with hA _ _
    subst hA
    exact .inr ⟨_, rfl, (Array.getElem?_eq_some_iff.1 hg).1, h.cells rfl⟩
theorem Lies.take (h : Lies w B A xs) (n : Nat) : Lies w B A (xs.take n) := by
  rcases h with h | ⟨a, hA, hb, hc⟩
  · exact .inl (by rw [h]; simp)
  · refine .inr ⟨a, hA, hb, fun j u hu => hc j u ?_⟩
    rw [List.getElem?_take] at hu
    split at hu
    · exact hu
    · cases hu
theorem Lies.drop (h : Lies w B A xs) (n cap : Nat) (hcap : xs.length ≤ cap) : Lies w B (if cap = n then A else A.map (·.add n)) (xs.drop n) := by
  by_cases hn : xs.length ≤ n
  · exact .inl (List.drop_eq_nil_of_le hn)
  · rw [if_neg (by omega)]
    rcases h with h | ⟨a, rfl, hb, hc⟩
    · subst h; simp at hn
    · refine .inr ⟨a.add n, rfl, ?_, fun j u hu => ?_⟩
      · have e : (a.add n).block = a.block := by unfold Addr.add; split <;> rfl
        rw [e]; exact hb
      · have e : (a.add n).add j = a.add (n + j) := by
          unfold Addr.add
          by_cases h1 : n = 0 <;> by_cases h2 : j = 0 <;> simp [h1, h2, Nat.add_assoc]
        rw [e]
        exact hc _ _ (by rw [← hu, List.getElem?_drop])
theorem Lies.byte {l : List UInt8} {k : Nat} (h : Lies w B A (bys l)) (hk : k < l.length) : ∃ a, A = some a ∧ a.block < B ∧ w.cell? (a.add k) = some (.int .u8 ((l.getD k 0).toNat : Int)) := by
  obtain ⟨a, hA, hb, hc⟩ := h.at_ (k := k) (by rw [bys_len]; exact hk)
  refine ⟨a, hA, hb, hc.trans ?_⟩
  congr 1
  simp [bys, List.getD, List.getElem?_eq_getElem hk]
/-- A row of the call's own is a slice; its length is what is said. -/
theorem own_form {base size : Nat} {e : TypeId} {n : Nat} {v : Value} (h : w.ownsRow base e size v n xs) : ∃ A c, v = .slice A n c ∧ n ≤ c ∧ c ≤ maxLen := by
  rcases h.2 with ⟨hv, hn⟩ | ⟨g, cap, cur, hv, _, _, h1, h2, _, _⟩
  · subst hn; exact ⟨none, 0, hv, Nat.le_refl _, Nat.zero_le _⟩
  · exact ⟨_, cap, hv, h1, h2⟩
end

theorem grown_trans {w w1 w2 : World} {r : Option Nat} (h : w.grownBy w1 r) (h' : w1.grownBy w2 r) : w.grownBy w2 r :=
  ⟨h'.os.trans h.os, h'.tape.trans h.tape, h'.output.trans h.output, Nat.le_trans h.size h'.size, fun k hk hne => (h'.block k (Nat.lt_of_lt_of_le hk h.size) hne).trans (h.block k hk hne)⟩
theorem grown_below {w w' : World} {r : Option Nat} (h : Below w.heap.size w w') : w.grownBy w' r :=
  ⟨h.os, h.tape, h.output, h.size, fun k hk _ => h.block k hk⟩
theorem Lies.grown {w w' : World} {B g : Nat} {A : Option Addr} {xs : List Value} (h : Lies w B A xs) (hg : w.grownBy w' (some g)) (hB : B ≤ g) (hs : B ≤ w.heap.size) : Lies w' B A xs :=
  h.same fun p hp => World.cell?_of_block (hg.block p.block (by omega) (fun e => by injection e; omega))

section
variable {P : Program} (w : World) {t e : TypeId} {size bytes : Nat}

end

/-- A block that the call has laid for a list of values, as something that lies. -/
theorem Lies.new (w : World) (cs : Array Value) (t : TypeId) (fr : Nat × Nat) (B : Nat) (h : w.heap.size < B) : Lies (w.alloc (.cells cs t fr)) B (some ⟨w.heap.size, 0, none⟩) cs.toList :=
  .inr ⟨_, rfl, h, World.news_of_block (heap_alloc_new w _)⟩

end Go.Proofs.Ytabancgcokcfdaa
