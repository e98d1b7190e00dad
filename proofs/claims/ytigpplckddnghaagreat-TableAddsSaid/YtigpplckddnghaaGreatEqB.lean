/-
  CONTRACT of bytes.Equal.
-/
import Derived.Test.YtigpplckddnghaaGreatBytes
namespace Go.Proofs.YtigpplckddnghaaGreat
open Go.RowKit
set_option maxRecDepth 8000

theorem str_toList (l : List UInt8) : (str l).toList = l := by rw [ByteArray.toList_eq]; rfl

theorem equal_any (A A2 : Option Addr) (n c n2 c2 B B2 : Nat) (l m : List UInt8) (w : World) (h : Lies w B A (bys l)) (hn : n = l.length) (h2 : Lies w B2 A2 (bys m)) (hn2 : n2 = m.length) :
    Calls Tryz.prog 63 #[.slice A n c, .slice A2 n2 c2] w fun e w' => e = .returned (.bool (decide (l = m))) ∧ w = w' := by
  have hs1 : (convert 67 9 (.slice A n c)).run Tryz.prog w = .ok (.string (str l)) w := strU8 c h hn
  have hs2 : (convert 67 9 (.slice A2 n2 c2)).run Tryz.prog w = .ok (.string (str m)) w := strU8 c2 h2 hn2
  have hcmp : ((str l).toList == (str m).toList) = decide (l = m) := by
    rw [str_toList, str_toList]
    by_cases he : l = m
    · rw [decide_eq_true he, he]; exact beq_self_eq_true _
    · rw [decide_eq_false he]; exact beq_eq_false_iff_ne.2 he
  clear h h2 hn hn2
  generalize decide (l = m) = b at *
  generalize str l = s at *
  generalize str m = t at *
  go_enter Tryz.func63, Tryz.ntmps63
  go_wp2
  go_ret
  exact ⟨by first | rfl | exact ret_bool hcmp, rfl⟩

end Go.Proofs.YtigpplckddnghaaGreat
