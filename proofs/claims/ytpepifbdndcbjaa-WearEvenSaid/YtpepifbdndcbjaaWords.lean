/-
  WORDS of this verifier's own: bytes as cells, slices that read as lists, strings made of bytes. Nothing here speaks of one program.
-/
import Derived.WalkKit
import Derived.WalkSpells
import Derived.WalkLawsBesides
import Derived.Maps.AppendAt
import Derived.Deep.AppendLies
import Derived.OneCell
import Derived.IntWalk
namespace Go.Proofs.Ytpepifbdndcbjaa
open Go.RowKit

theorem bel_drewN {B : Nat} {a w : World} (h : Below B a w) (n : Nat) : Below B a (w.drewN n) := ⟨h.os, h.tape, h.output, h.size, h.block⟩
/-- A fact that the walk shall not use as a rule. -/
theorem hide {p : Prop} (h : p) : Hid p := h

/-- Bytes as cells. -/
def bys (l : List UInt8) : List Value := l.map fun b => .int .u8 (b.toNat : Int)

theorem bys_len (l : List UInt8) : (bys l).length = l.length := by simp [bys]
/-- The slice that begins at A holds the cells xs; what it holds lies below block B. -/
def Lies (w : World) (B : Nat) (A : Option Addr) (xs : List Value) : Prop :=
  xs = [] ∨ ∃ a, A = some a ∧ a.block < B ∧ ∀ j u, xs[j]? = some u → w.cell? (a.add j) = some u

section
variable {w w' : World} {B B' : Nat} {A : Option Addr} {xs : List Value}
theorem Lies.nil : Lies w B A [] := .inl rfl
theorem Lies.same (h : Lies w B A xs) (hk : ∀ p : Addr, p.block < B → w'.cell? p = w.cell? p) : Lies w' B A xs := by
  rcases h with h | ⟨a, hA, hb, hc⟩
  · exact .inl h
  · refine .inr ⟨a, hA, hb, fun j u hu => ?_⟩
    have e : (a.add j).block = a.block := by unfold Addr.add; split <;> rfl
    exact (hk _ (by rw [e]; exact hb)).trans (hc j u hu)
theorem Lies.below (h : Lies w B A xs) (hb : Below B w w') : Lies w' B A xs := h.same fun _ hp => hb.cell hp
theorem Lies.drewN (h : Lies w B A xs) (n : Nat) : Lies (w.drewN n) B A xs := h
theorem Lies.drew (h : Lies w B A xs) : Lies w.drew B A xs := h
theorem Lies.up (h : Lies w B A xs) (hB : B ≤ B') : Lies w B' A xs := by
  rcases h with h | ⟨a, hA, hb, hc⟩
  · exact .inl h
  · exact .inr ⟨a, hA, by omega, hc⟩
theorem Lies.alloc (h : Lies w B A xs) (hB : B ≤ w.heap.size) (o : Obj) : Lies (w.alloc o) B A xs := h.below ((Below.refl B w).alloc hB o)
theorem Lies.at_ {k : Nat} (h : Lies w B A xs) (hk : k < xs.length) : ∃ a, A = some a ∧ a.block < B ∧ w.cell? (a.add k) = some (xs[k]'hk) := by
  rcases h with h | ⟨a, hA, hb, hc⟩
  · subst h; simp at hk
  · exact ⟨a, hA, hb, hc k _ (List.getElem?_eq_getElem hk)⟩
theorem Lies.of_own {base size : Nat} {e : TypeId} {n m c : Nat} (h : w.ownsRow base e size (.slice A m c) n xs) : Lies w w.heap.size A xs := by
  rcases h.2 with ⟨hv, hn⟩ | ⟨g, cap, cur, hv, _, hg, _, _, _, _⟩
  · refine .inl (List.eq_nil_of_length_eq_zero ?_)
    rw [h.1, hn, Nat.zero_mul]
  · injection hv with hA _ _
    subst hA
    exact .inr ⟨_, rfl, (Array.getElem?_eq_some_iff.1 hg).1, h.cells rfl⟩
theorem Lies.take (h : Lies w B A xs) (n : Nat) : Lies w B A (xs.take n) := by
  rcases h with h | ⟨a, hA, hb, hc⟩
  · exact .inl (by rw [h]; simp)
  · refine .inr ⟨a, hA, hb, fun j u hu => hc j u ?_⟩
    rw [List.getElem?_take] at hu
    split at hu
    · exact hu
    · cases hu
theorem Lies.drop (h : Lies w B A xs) (n cap : Nat) (hcap : xs.length ≤ cap) : Lies w B (if cap = n then A else A.map (·.add n)) (xs.drop n) := by
  by_cases hn : xs.length ≤ n
  · exact .inl (List.drop_eq_nil_of_le hn)
  · rw [if_neg (by omega)]
    rcases h with h | ⟨a, rfl, hb, hc⟩
    · subst h; simp at hn
    · refine .inr ⟨a.add n, rfl, ?_, fun j u hu => ?_⟩
      · have e : (a.add n).block = a.block := by unfold Addr.add; split <;> rfl
        rw [e]; exact hb
      · have e : (a.add n).add j = a.add (n + j) := by
          unfold Addr.add
          by_cases h1 : n = 0 <;> by_cases h2 : j = 0 <;> simp [h1, h2, Nat.add_assoc]
        rw [e]
        exact hc _ _ (by rw [← hu, List.getElem?_drop])
theorem Lies.byte {l : List UInt8} {k : Nat} (h : Lies w B A (bys l)) (hk : k < l.length) : ∃ a, A = some a ∧ a.block < B ∧ w.cell? (a.add k) = some (.int .u8 ((l.getD k 0).toNat : Int)) := by
  obtain ⟨a, hA, hb, hc⟩ := h.at_ (k := k) (by rw [bys_len]; exact hk)
  refine ⟨a, hA, hb, hc.trans ?_⟩
  congr 1
  simp [bys, List.getD, List.getElem?_eq_getElem hk]
/-- A row of the call's own is a slice; its length is what is said. -/
theorem own_form {base size : Nat} {e : TypeId} {n : Nat} {v : Value} (h : w.ownsRow base e size v n xs) : ∃ A c, v = .slice A n c ∧ n ≤ c ∧ c ≤ maxLen := by
  rcases h.2 with ⟨hv, hn⟩ | ⟨g, cap, cur, hv, _, _, h1, h2, _, _⟩
  · subst hn; exact ⟨none, 0, hv, Nat.le_refl _, Nat.zero_le _⟩
  · exact ⟨_, cap, hv, h1, h2⟩
end

/-- What is owned from a block on is owned from every block ahead of it. -/
theorem own_up {w : World} {base base' n size : Nat} {e : TypeId} {v : Value} {xs : List Value} (h : w.ownsRow base e size v n xs) (hb : base' ≤ base) : w.ownsRow base' e size v n xs := by
  refine ⟨h.1, ?_⟩
  rcases h.2 with h | ⟨g, cap, cur, hv, hg, r⟩
  · exact .inl h
  · exact .inr ⟨g, cap, cur, hv, Nat.le_trans hb hg, r⟩

theorem grown_below {w w' : World} {r : Option Nat} (h : Below w.heap.size w w') : w.grownBy w' r :=
  ⟨h.os, h.tape, h.output, h.size, fun k hk _ => h.block k hk⟩
theorem Lies.grown {w w' : World} {B g : Nat} {A : Option Addr} {xs : List Value} (h : Lies w B A xs) (hg : w.grownBy w' (some g)) (hB : B ≤ g) (hs : B ≤ w.heap.size) : Lies w' B A xs :=
  h.same fun p hp => World.cell?_of_block (hg.block p.block (by omega) (fun e => by injection e; omega))

/-- What a program knows of a slice's type t: its elements' type, their cells, their bytes. -/
structure Elems (P : Program) (t e : TypeId) (size bytes : Nat) : Prop where
  ht : P.underlying t = some (.slice e)
  info : ∃ i z, P.info? e = some i ∧ i.zero = some z ∧ i.size = size ∧ i.bytes = bytes ∧ z.cells.size = size
  pos : 0 < size

section
variable {P : Program} (w : World) {t e : TypeId} {size bytes : Nat}

/-- append onto a row of the call's own, from a slice that lies somewhere, or is nil. -/
theorem run_app (E : Elems P t e size bytes) (ty : TypeId) (base : Nat) (v : Value) (n : Nat) (xs : List Value) (hown : w.ownsRow base e size v n xs) (B : Nat) (A : Option Addr) (m c : Nat) (news : List Value) (hl : news.length = m * size)
    (hlies : Lies w B A news) (h1 : ∀ u ∈ news, u.oneCell' = true) (h63 : n + m ≤ maxLen) (hbytes : (n + m) * bytes ≤ 140737488355328) (hbase : base ≤ w.heap.size) :
    ∃ A' c' w', (Builtin.append_ #[t, t] ty #[v, .slice A m c]).run P w = .ok (.slice A' (n + m) c') w' ∧ w'.ownsRow base e size (.slice A' (n + m) c') (n + m) (xs ++ news) ∧ w.grownBy w' v.ownBlock ∧
      ((Value.slice A' (n + m) c').ownBlock = v.ownBlock ∨ (Value.slice A' (n + m) c').ownBlock = some w.heap.size) := by
  obtain ⟨i, z, hi, hz, hsize, hby, hzs⟩ := E.info
  have fin : ∀ v' w', (Builtin.append_ #[t, t] ty #[v, .slice A m c]).run P w = .ok v' w' → w'.ownsRow base e size v' (n + m) (xs ++ news) → w.grownBy w' v.ownBlock → (v'.ownBlock = v.ownBlock ∨ v'.ownBlock = some w.heap.size) →
      ∃ A' c' w', (Builtin.append_ #[t, t] ty #[v, .slice A m c]).run P w = .ok (.slice A' (n + m) c') w' ∧ w'.ownsRow base e size (.slice A' (n + m) c') (n + m) (xs ++ news) ∧ w.grownBy w' v.ownBlock ∧
        ((Value.slice A' (n + m) c').ownBlock = v.ownBlock ∨ (Value.slice A' (n + m) c').ownBlock = some w.heap.size) := by
    intro v' w' hr ho hg hb
    obtain ⟨A', c', rfl, _, _⟩ := own_form ho
    exact ⟨A', c', w', hr, ho, hg, hb⟩
  rcases A with _ | a
  · have hn : news = [] := by
      rcases hlies with h | ⟨a, hA, _⟩
      · exact h
      · cases hA
    subst hn
    have hm : m = 0 := by
      have := E.pos
      rcases Nat.eq_zero_or_pos m with h | h
      · exact h
      · have := Nat.mul_pos h this; simp at hl; omega
    subst hm
    have hr : (Builtin.append_ #[t, t] ty #[v, .slice none 0 c]).run P w = .ok v w := by
      rcases hown.2 with ⟨rfl, rfl⟩ | ⟨g, cap, cur, rfl, _, _, hnc, _⟩
      · simp [Builtin.append_, run_underlying E.ht, sizeOf, typeInfo, hi, Builtin.lenOf, Builtin.firstCells]
      · simp [Builtin.append_, run_underlying E.ht, sizeOf, typeInfo, hi, Builtin.lenOf, Builtin.firstCells, hnc, storeCells]
    exact fin v w hr (by simpa using hown) (World.grownBy.refl w _) (.inl rfl)
  · have hnews : ∀ j u, news[j]? = some u → w.cell? (a.add j) = some u := by
      rcases hlies with h | ⟨a', hA, _, hc⟩
      · intro j u hu; rw [h] at hu; simp at hu
      · cases hA; exact hc
    obtain ⟨v', w', hr, ho, hg, _, hb⟩ := run_append_own_at (P := P) w base t ty e i z size bytes E.ht hi hz hsize hby hzs E.pos v n xs hown a m c news hl hnews h1 h63 hbytes hbase
    exact fin v' w' hr ho hg hb

theorem wp_app {o : Oper} {a : Act} {K : Act → World → Prop} {Q : Exit → Act → World → Prop} (E : Elems P t e size bytes) (s x : Operand)
    (ho : o.op = .call { callee := .builtin .append, args := #[s, x], argTypes := #[t, t] })
    (base : Nat) (v : Value) (n : Nat) (xs : List Value) (hs : a.eval s = v) (hown : w.ownsRow base e size v n xs) (B : Nat) (A : Option Addr) (m c : Nat) (news : List Value) (hx : a.eval x = .slice A m c) (hl : news.length = m * size)
    (hlies : Lies w B A news) (h1 : ∀ u ∈ news, u.oneCell' = true) (h63 : n + m ≤ maxLen) (hbytes : (n + m) * bytes ≤ 140737488355328) (hbase : base ≤ w.heap.size)
    (h : ∀ A' c' w', w'.ownsRow base e size (.slice A' (n + m) c') (n + m) (xs ++ news) → w.grownBy w' v.ownBlock →
      ((Value.slice A' (n + m) c').ownBlock = v.ownBlock ∨ (Value.slice A' (n + m) c').ownBlock = some w.heap.size) → K (a.put o.dst (.slice A' (n + m) c')) w') : o.wp P a w K Q := by
  obtain ⟨A', c', w', hr, h2, h3, h4⟩ := run_app (P := P) w E o.type base v n xs hown B A m c news hl hlies h1 h63 hbytes hbase
  unfold Oper.wp execOp
  simp only [ho, resolve, invoke, builtin, Sem.run_bind, Sem.run_pure, Result.andThen_ok, List.map_toArray, List.map_cons, List.map_nil, hs, hx, hr]
  exact h A' c' w' h2 h3 h4

theorem wpl_app {ops : Array Oper} {rest : List Oper} {o : Oper} {a : Act} {Q : Exit → Act → World → Prop} (hgd : o.guard = none) (E : Elems P t e size bytes) (s x : Operand)
    (ho : o.op = .call { callee := .builtin .append, args := #[s, x], argTypes := #[t, t] })
    (base : Nat) (v : Value) (n : Nat) (xs : List Value) (hs : a.eval s = v) (hown : w.ownsRow base e size v n xs) (B : Nat) (A : Option Addr) (m c : Nat) (news : List Value) (hx : a.eval x = .slice A m c) (hl : news.length = m * size)
    (hlies : Lies w B A news) (h1 : ∀ u ∈ news, u.oneCell' = true) (h63 : n + m ≤ maxLen) (hbytes : (n + m) * bytes ≤ 140737488355328) (hbase : base ≤ w.heap.size)
    (h : ∀ A' c' w', w'.ownsRow base e size (.slice A' (n + m) c') (n + m) (xs ++ news) → w.grownBy w' v.ownBlock →
      ((Value.slice A' (n + m) c').ownBlock = v.ownBlock ∨ (Value.slice A' (n + m) c').ownBlock = some w.heap.size) → wpList P ops Q rest (a.put o.dst (.slice A' (n + m) c')) w') : wpList P ops Q (o :: rest) a w :=
  wpList_plain hgd fun _ hK => wp_app w E s x ho base v n xs hs hown B A m c news hx hl hlies h1 h63 hbytes hbase fun A' c' w' h2 h3 h4 => hK _ _ (h A' c' w' h2 h3 h4)

end

/-- A block that the call has laid for a list of values, as something that lies. -/
theorem Lies.new (w : World) (cs : Array Value) (t : TypeId) (fr : Nat × Nat) (B : Nat) (h : w.heap.size < B) : Lies (w.alloc (.cells cs t fr)) B (some ⟨w.heap.size, 0, none⟩) cs.toList :=
  .inr ⟨_, rfl, h, World.news_of_block (heap_alloc_new w _)⟩

end Go.Proofs.Ytpepifbdndcbjaa
