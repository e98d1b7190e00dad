/-
  CONTRACTS of package primary: named.
-/
import Derived.Test.YtlbgcbekjjkokaaEq28
namespace Go.Proofs.Ytlbgcbekjjkokaa
open Go.RowKit

theorem below_size {w w' : World} (o : Obj) (h : Below (w.alloc o).heap.size (w.alloc o) w') : Below w.heap.size w w' ∧ w.heap.size < w'.heap.size := by
  have hs : (w.alloc o).heap.size = w.heap.size + 1 := by simp
  have := h.size
  exact ⟨((Below.refl w.heap.size w).alloc (Nat.le_refl _) o).trans (h.mono (by omega)), by omega⟩

theorem named_any (p : Pr) (w : World) : Calls Try.prog 43 #[p.val] w fun e w' => e = .returned (.bool (p.dst.right && (p.src.right && p.rep.right))) ∧ Below w.heap.size w w' := by
  have F1 := hide (fun W => right_any p.dst W)
  have F2 := hide (fun W => right_any p.src W)
  have F3 := hide (fun W => right_any p.rep W)
  have R := range_new w p.cells 28 (0, 0)
  have hlt : w.heap.size < (w.alloc (.cells p.cells.toArray 28)).heap.size := by simp
  rcases p with ⟨fl, crc, ⟨d0, d1, d2, d3⟩, ⟨s0, s1, s2, s3⟩, ⟨r0, r1, r2, r3⟩, time, seq, life, off, tot⟩
  simp only [Pr.val, Pr.cells] at R hlt ⊢
  simp only [Nm.val, Nm.cells] at F1 F2 F3
  generalize Nm.right ⟨d0, d1, d2, d3⟩ = bd at *
  generalize Nm.right ⟨s0, s1, s2, s3⟩ = bs at *
  generalize Nm.right ⟨r0, r1, r2, r3⟩ = br at *
  have RR := hide (fun W (hb : Below _ _ W) => range_below R hb hlt)
  clear R hlt
  cases bd with
  | true =>
    cases bs with
    | true =>
      go_enter Try.func43, Try.ntmps43
      go_wp2_with fail
      (with_reducible refine (F1.out _).mono ?_)
      rintro e w1 ⟨rfl, hb⟩
      have R1 := RR.out w1 hb
      have c6 : w1.cell? ⟨w.heap.size, 6, none⟩ = some (.int .i64 s0) := R1 6 _ rfl
      have c7 : w1.cell? ⟨w.heap.size, 7, none⟩ = some (.string s1) := R1 7 _ rfl
      have c8 : w1.cell? ⟨w.heap.size, 8, none⟩ = some (.int .u64 (s2 : Int)) := R1 8 _ rfl
      have c9 : w1.cell? ⟨w.heap.size, 9, none⟩ = some (.int .u64 (s3 : Int)) := R1 9 _ rfl
      obtain ⟨hb1, hz1⟩ := below_size _ hb
      have Hb1 := hide hb1
      have HR1 := hide R1
      clear hb R1 hb1 F1
      go_wp2_with fail
      (with_reducible refine (F2.out _).mono ?_)
      rintro e w2 ⟨rfl, hb⟩
      have R2 := range_below HR1.out hb hz1
      have c10 : w2.cell? ⟨w.heap.size, 10, none⟩ = some (.int .i64 r0) := R2 10 _ rfl
      have c11 : w2.cell? ⟨w.heap.size, 11, none⟩ = some (.string r1) := R2 11 _ rfl
      have c12 : w2.cell? ⟨w.heap.size, 12, none⟩ = some (.int .u64 (r2 : Int)) := R2 12 _ rfl
      have c13 : w2.cell? ⟨w.heap.size, 13, none⟩ = some (.int .u64 (r3 : Int)) := R2 13 _ rfl
      have Hb2 := hide (Hb1.out.trans (hb.mono (Nat.le_of_lt hz1)))
      have hz2 := Hb2.out.size
      clear hb R2 F2 c6 c7 c8 c9
      go_wp2_with fail
      (with_reducible refine (F3.out _).mono ?_)
      rintro e w3 ⟨rfl, hb⟩
      have Hb3 := hide (Hb2.out.trans (hb.mono hz2))
      clear hb F3 c10 c11 c12 c13
      go_wp2
      go_ret
      exact ⟨rfl, Hb3.out⟩
    | false =>
      go_enter Try.func43, Try.ntmps43
      go_wp2_with fail
      (with_reducible refine (F1.out _).mono ?_)
      rintro e w1 ⟨rfl, hb⟩
      have R1 := RR.out w1 hb
      have c6 : w1.cell? ⟨w.heap.size, 6, none⟩ = some (.int .i64 s0) := R1 6 _ rfl
      have c7 : w1.cell? ⟨w.heap.size, 7, none⟩ = some (.string s1) := R1 7 _ rfl
      have c8 : w1.cell? ⟨w.heap.size, 8, none⟩ = some (.int .u64 (s2 : Int)) := R1 8 _ rfl
      have c9 : w1.cell? ⟨w.heap.size, 9, none⟩ = some (.int .u64 (s3 : Int)) := R1 9 _ rfl
      obtain ⟨hb1, hz1⟩ := below_size _ hb
      have Hb1 := hide hb1
      have HR1 := hide R1
      clear hb R1 hb1 F1
      go_wp2_with fail
      (with_reducible refine (F2.out _).mono ?_)
      rintro e w2 ⟨rfl, hb⟩
      have Hb2 := hide (Hb1.out.trans (hb.mono (Nat.le_of_lt hz1)))
      clear hb F2 c6 c7 c8 c9
      go_wp2
      go_ret
      exact ⟨rfl, Hb2.out⟩
  | false =>
    go_enter Try.func43, Try.ntmps43
    go_wp2_with fail
    (with_reducible refine (F1.out _).mono ?_)
    rintro e w1 ⟨rfl, hb⟩
    obtain ⟨hb1, hz1⟩ := below_size _ hb
    have Hb1 := hide hb1
    clear hb hb1 F1
    go_wp2
    go_ret
    exact ⟨rfl, Hb1.out⟩

end Go.Proofs.Ytlbgcbekjjkokaa
