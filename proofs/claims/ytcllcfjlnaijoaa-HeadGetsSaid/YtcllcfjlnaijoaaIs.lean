/-
  CONTRACTS, bytes.Equal, bytes.HasPrefix, package head's Is.
-/
import Derived.Test.YtcllcfjlnaijoaaHead2
namespace Go.Proofs.Ytcllcfjlnaijoaa
open Go.RowKit

theorem str_toList (l : List UInt8) : (str l).toList = l := by rw [ByteArray.toList_eq]; rfl

theorem equal_any (A A2 : Option Addr) (n c n2 c2 B B2 : Nat) (l m : List UInt8) (w : World) (h : Lies w B A (bys l)) (hn : n = l.length) (h2 : Lies w B2 A2 (bys m)) (hn2 : n2 = m.length) :
    Calls Try.prog 25 #[.slice A n c, .slice A2 n2 c2] w fun e w' => e = .returned (.bool (decide (l = m))) ∧ w = w' := by
  have hs1 : (convert 23 9 (.slice A n c)).run Try.prog w = .ok (.string (str l)) w := strU8 c h hn
  have hs2 : (convert 23 9 (.slice A2 n2 c2)).run Try.prog w = .ok (.string (str m)) w := strU8 c2 h2 hn2
  have hcmp : ((str l).toList == (str m).toList) = decide (l = m) := by
    rw [str_toList, str_toList]
    by_cases he : l = m
    · rw [decide_eq_true he, he]; exact beq_self_eq_true _
    · rw [decide_eq_false he]; exact beq_eq_false_iff_ne.2 he
  clear h h2 hn hn2
  generalize decide (l = m) = b at *
  generalize str l = s at *
  generalize str m = t at *
  go_enter Try.func25, Try.ntmps25
  go_wp2
  go_ret
  exact ⟨by first | rfl | exact ret_bool hcmp, rfl⟩

/-- Do bytes begin with others? -/
def begins (l p : List UInt8) : Bool := decide (p.length ≤ l.length ∧ l.take p.length = p)

theorem prefix_any (A A2 : Option Addr) (n c n2 c2 B B2 : Nat) (l m : List UInt8) (w : World) (h : Lies w B A (bys l)) (hn : n = l.length) (hc : n ≤ c) (h2 : Lies w B2 A2 (bys m)) (hn2 : n2 = m.length) (hbig : c ≤ maxLen) :
    Calls Try.prog 21 #[.slice A n c, .slice A2 n2 c2] w fun e w' => e = .returned (.bool (begins l m)) ∧ w = w' := by
  have hbm : (c : Int) ≤ 9223372036854775807 := by unfold maxLen at hbig; omega
  by_cases hle : n2 ≤ n
  · have hle' : (n2 : Int) ≤ (n : Int) := by omega
    have f1 := equal_any A A2 n2 c n2 c2 B B2 (l.take n2) m w (by rw [bys_take]; exact h.take _) (by simp; omega) h2 hn2
    have e : begins l m = decide (l.take n2 = m) := by
      unfold begins
      rw [← hn, ← hn2]
      simp [hle]
    rw [e]
    generalize decide (l.take n2 = m) = b at *
    have h5 : (n2 : Int) ≤ (c : Int) := by omega
    clear e h h2 hn hn2 hbig
    go_enter Try.func21, Try.ntmps21
    go_wp2_with fail
    (with_reducible refine f1.mono ?_)
    rintro e w1 ⟨rfl, rfl⟩
    go_wp2
    go_ret
    exact ⟨rfl, rfl⟩
  · have hle' : ¬ (n2 : Int) ≤ (n : Int) := by omega
    have e : begins l m = false := by
      unfold begins
      rw [← hn, ← hn2]
      simp [hle]
    rw [e]
    clear e h h2 hn hn2 hbig
    go_enter Try.func21, Try.ntmps21
    go_wp2
    go_ret
    exact ⟨rfl, rfl⟩

theorem is_any (A A2 : Option Addr) (n c n2 c2 B B2 : Nat) (l m : List UInt8) (w : World) (h : Lies w B A (bys l)) (hn : n = l.length) (hc : n ≤ c) (h2 : Lies w B2 A2 (bys m)) (hn2 : n2 = m.length) (hbig : c ≤ maxLen) :
    Calls Try.prog 12 #[.slice A n c, .slice A2 n2 c2] w fun e w' => e = .returned (.bool (begins l m)) ∧ w = w' := by
  have f1 := prefix_any A A2 n c n2 c2 B B2 l m w h hn hc h2 hn2 hbig
  generalize begins l m = b at *
  clear h h2 hn hn2 hbig
  go_enter Try.func12, Try.ntmps12
  go_wp2_with fail
  (with_reducible refine f1.mono ?_)
  rintro e w1 ⟨rfl, rfl⟩
  go_wp2
  go_ret
  exact ⟨rfl, rfl⟩

/-- append, the operation guarded, its guard saying yes. -/
theorem wpl_app_want {P : Program} {w : World} {t e : TypeId} {size bytes : Nat} {ops : Array Oper} {rest : List Oper} {o : Oper} {a : Act} {Q : Exit → Act → World → Prop} (hw : Region.wanted o (yielded ops a.tmps) = true) (E : Elems P t e size bytes) (s x : Operand)
    (ho : o.op = .call { callee := .builtin .append, args := #[s, x], argTypes := #[t, t] })
    (base : Nat) (v : Value) (n : Nat) (xs : List Value) (hs : a.eval s = v) (hown : w.ownsRow base e size v n xs) (B : Nat) (A : Option Addr) (m c : Nat) (news : List Value) (hx : a.eval x = .slice A m c) (hl : news.length = m * size)
    (hlies : Lies w B A news) (h1 : ∀ u ∈ news, u.oneCell' = true) (h63 : n + m ≤ maxLen) (hbytes : (n + m) * bytes ≤ 140737488355328) (hbase : base ≤ w.heap.size)
    (h : ∀ A' c' w', w'.ownsRow base e size (.slice A' (n + m) c') (n + m) (xs ++ news) → w.grownBy w' v.ownBlock →
      ((Value.slice A' (n + m) c').ownBlock = v.ownBlock ∨ (Value.slice A' (n + m) c').ownBlock = some w.heap.size) → wpList P ops Q rest (a.put o.dst (.slice A' (n + m) c')) w') : wpList P ops Q (o :: rest) a w :=
  BigFrame.wpList_want hw fun _ hK => wp_app w E s x ho base v n xs hs hown B A m c news hx hl hlies h1 h63 hbytes hbase fun A' c' w' h2 h3 h4 => hK _ _ (h A' c' w' h2 h3 h4)

end Go.Proofs.Ytcllcfjlnaijoaa
