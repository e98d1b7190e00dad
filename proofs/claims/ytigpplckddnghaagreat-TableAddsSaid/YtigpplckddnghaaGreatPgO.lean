/-
  CONTRACT of page.onto's closure: a number's bytes laid behind those that stand.
-/
import Derived.Test.YtigpplckddnghaaGreatPgB
namespace Go.Proofs.YtigpplckddnghaaGreat
open Go.RowKit
set_option maxRecDepth 8000

set_option maxHeartbeats 2000000 in
theorem lay1_any (cc p g cap o k x : Nat) (l : List UInt8) (w : World) (hc : w.heap[cc]? = some (.cells #[.int .i64 (o : Int)] 3 (0, 0))) (hp : w.heap[p]? = some (.cells #[.slice (some ⟨g, 0, none⟩) 252 cap] 67 (0, 0)))
    (hb : Buf w g l) (hl : l.length = 252) (hcap : 252 ≤ cap) (ho : o + k ≤ 252) (h1 : 1 ≤ k) (h8 : k ≤ 8) (n1 : cc ≠ g) :
    Calls Tryz.prog 117 #[.int .i64 (k : Int), .int .u64 (x : Int), .pointer (some ⟨cc, 0, none⟩), .pointer (some ⟨p, 0, none⟩)] w fun e w' => e = .returned (.tuple #[]) ∧
      w'.heap[cc]? = some (.cells #[.int .i64 ((o + k : Nat) : Int)] 3 (0, 0)) ∧ Buf w' g (over l o (beB k x)) ∧ Tch [cc, g] w w' := by
  have hcl := (Array.getElem?_eq_some_iff.1 hc).1
  have c0 : w.cell? ⟨cc, 0, none⟩ = some (.int .i64 (o : Int)) := World.news_of_block hc 0 _ rfl
  have p0 : w.cell? ⟨p, 0, none⟩ = some (.slice (some ⟨g, 0, none⟩) 252 cap) := World.news_of_block hp 0 _ rfl
  have ea : (⟨g, 0, none⟩ : Addr).add o = ⟨g, o, none⟩ := at0 g o
  have i1 : (0 : Int) ≤ (o : Int) := by omega
  have i2 : (o : Int) ≤ 252 := by omega
  have i3 : (252 : Int) ≤ (cap : Int) := by omega
  have hne : ¬ cap = o := by omega
  have hsum : wrap64 ((o : Int) + (k : Int)) = ((o + k : Nat) : Int) := by unfold wrap64; omega
  have hsum2 : IntKind.i64.wrap ((o : Int) + (k : Int)) = ((o + k : Nat) : Int) := IntWalk.i64_in _ (by omega)
  have HC := hide hc
  have HB := hide hb
  have HP := hide (fun W => putn_any k x W h1 h8)
  have Hl := hide hl
  have Ho := hide ho
  have H1 := hide h1
  have Hcl := hide hcl
  have N1 := hide n1
  clear hc hp hb hl hcap ho h1 h8 hcl n1
  go_enter Tryz.func117, Tryz.ntmps117
  go_region_law (first
    | (refine step_callP (f := 118) (args := #[.slice none 0 0, .int .i64 (k : Int), .int .u64 (x : Int)]) rfl (by simp [Act.eval, go_sem]) ((HP.out _).mono ?_); rintro e w2 ⟨A, c, rfl, hl2, hb2⟩; refine ⟨_, rfl, ?_⟩; have hb3 : Below w.heap.size w w2 := (Below.refl _ w).drew.trans hb2; obtain ⟨w3, hr3, hB3, hT3⟩ := (HB.out.below hb3).copy o (beB k x) (by rw [beB_len, Hl.out]; exact Ho.out) A k c (252 - o) (cap - o) w2.heap.size hl2 (beB_len k x).symm (by rw [beB_len]; exact H1.out) (by rw [beB_len]; have := Ho.out; omega); rw [beB_len] at hr3; have HB3 := hide hB3; have HT3 := hide ((Tch.of_below (S := [g]) hb3).trans hT3); have c0b : w2.cell? ⟨cc, 0, none⟩ = some (.int .i64 (o : Int)) := (hb3.cell Hcl.out).trans c0; have p0b : w2.cell? ⟨p, 0, none⟩ = some (.slice (some ⟨g, 0, none⟩) 252 cap) := (hb3.cell (World.block_lt_of_cell? w _ p0)).trans p0; have hk3 := HT3.out.block cc Hcl.out (by simpa using N1.out); have HK3 := hide hk3; have c0c : w3.cell? ⟨cc, 0, none⟩ = some (.int .i64 (o : Int)) := (World.cell?_of_block (w := w) (a := ⟨cc, 0, none⟩) hk3).trans c0; have f0c : w3.frozen? ⟨cc, 0, none⟩ = false := frozen_of_row w3 cc 0 _ _ (hk3.trans HC.out); clear hl2 hb2 hb3 hB3 hT3 hk3)
    | (refine step_copyrun rfl (.tmp 9) (.tmp 12) 67 67 rfl hr3 (by simp [Act.eval, Act.put]) (by simp [Act.eval, Act.put]) ?_))
  all_goals
    go_end0
    refine ⟨rfl, ?_, HB3.out.kept (by simp [World.setCell]) (Below.heap_setCell _ _ _ _ (Ne.symm N1.out)), (HT3.out.mono (by simp)).trans (Tch.set (by simp) _)⟩
    exact heap_set (HK3.out.trans HC.out) 0 _
end Go.Proofs.YtigpplckddnghaaGreat
