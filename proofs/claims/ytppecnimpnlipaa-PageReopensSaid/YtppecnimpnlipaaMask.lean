/-
  CONTRACTS of package zeros: Mask, within and the function that it makes.
-/
import Derived.Test.YtppecnimpnlipaaClone
import Derived.Test.YtppecnimpnlipaaBits
import Derived.Deep.QuietTactic
import Derived.BigQuiet
import Derived.Deep.RegionLaw
import Derived.Deep.RegionWith
import Derived.StillTailTactics
namespace Go.Proofs.Ytppecnimpnlipaa
open Go.RowKit

theorem mask_any (A : Option Addr) (n c B : Nat) (l : List UInt8) (i : Nat) (w : World) (h : Lies w B A (bys l)) (hn : n = l.length) :
    Calls Try.prog 94 #[.slice A n c, .int .i64 (i : Int)] w fun e w' => e = .returned (.int .u8 ((maskB l i).toNat : Int)) ∧ w = w' := by
  by_cases h0 : n = 0
  · subst h0
    have e0 : maskB l i = 0 := by unfold maskB; rw [if_pos hn.symm]
    rw [e0]
    clear h hn e0
    go_enter Try.func94, Try.ntmps94
    go_wp2
    go_ret
    exact ⟨rfl, rfl⟩
  · obtain ⟨k, hk, hk8⟩ : ∃ k, k = i % n ∧ k < n := ⟨_, rfl, Nat.mod_lt _ (by omega)⟩
    have e1 : (i : Int) % (n : Int) = (k : Int) := by rw [hk]; simp
    have e0 : maskB l i = l.getD k 0 := by unfold maskB; rw [if_neg (by omega), ← hn, ← hk]
    rw [e0]
    obtain ⟨a, rfl, _, hc⟩ := h.byte (k := k) (by omega)
    generalize (l.getD k 0) = x at *
    have hpos : 0 < n := by omega
    have hne : ((n : Int) == 0) = false := by rw [beq_eq_false_iff_ne]; omega
    have hi0 : ¬ (i : Int) < 0 := by omega
    clear hk hn h e0
    go_enter Try.func94, Try.ntmps94
    go_wp2
    go_ret
    exact ⟨rfl, rfl⟩

theorem mask_neg (A : Option Addr) (n c : Nat) (i : Int) (w : World) (hi : i < 0) :
    Calls Try.prog 94 #[.slice A n c, .int .i64 i] w fun e w' => e = .returned (.int .u8 0) ∧ w = w' := by
  go_enter Try.func94, Try.ntmps94
  go_wp2
  go_ret
  exact ⟨rfl, rfl⟩

theorem zwithin_any (A : Option Addr) (n c : Nat) (w : World) : Calls Try.prog 86 #[.slice A n c] w fun e w' => e = .returned (.func (.func 93) #[] #[.pointer (some ⟨w.heap.size, 0, none⟩)]) ∧ w.alloc (.cells #[.slice A n c] 40) = w' := by
  go_enter Try.func86, Try.ntmps86
  go_wp2
  go_ret
  exact ⟨rfl, rfl⟩

theorem mix_any (g : Nat) (A : Option Addr) (n c B : Nat) (l : List UInt8) (i : Nat) (x y : UInt8) (w : World) (hg : w.cell? ⟨g, 0, none⟩ = some (.slice A n c)) (h : Lies w B A (bys l)) (hn : n = l.length) :
    Calls Try.prog 93 #[.int .i64 (i : Int), .int .u8 (x.toNat : Int), .int .u8 (y.toNat : Int), .pointer (some ⟨g, 0, none⟩)] w fun e w' => e = .returned (.int .u8 ((mixB x y (maskB l i)).toNat : Int)) ∧ w = w' := by
  have Hn := hide hn
  have Hl := hide h
  have Hm := hide (mixB_toNat x y (maskB l i))
  obtain ⟨d, hd⟩ : ∃ d, d = maskB l i := ⟨_, rfl⟩
  rw [← hd] at Hm ⊢
  have Hd := hide hd
  clear hd h hn
  obtain ⟨z, hz⟩ : ∃ z, z = (mixB x y d).toNat := ⟨_, rfl⟩
  rw [← hz] at Hm ⊢
  clear hz
  have hx := x.toNat_lt
  have hy := y.toNat_lt
  have hd8 := d.toNat_lt
  go_enter Try.func93, Try.ntmps93
  go_wp2_with fail
  refine (mask_any A n c B l i _ Hl.out Hn.out).mono ?_
  rintro e w2 ⟨he, rfl⟩
  rw [← Hd.out] at he
  subst he
  generalize d.toNat = d' at *
  generalize x.toNat = x' at *
  generalize y.toNat = y' at *
  go_wp2
  go_ret
  exact ⟨ret_int (by rw [bits_mix _ _ _ hx hy hd8, Hm.out]), rfl⟩

end Go.Proofs.Ytppecnimpnlipaa
