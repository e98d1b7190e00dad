/-
  The statements' Light (wagtaillaw11): is a bundle not far too great?
-/
import Derived.Test.YtlbgcbekjjkokaaBuck
namespace Go.Proofs.Ytlbgcbekjjkokaa
open Go.RowKit

def lightAll (l : List Bk) : Bool := l.all fun x => decide (x.data.size ≤ 200)
def Bn.light (b : Bn) : Bool := decide (b.n ≤ 20 ∧ b.pay.data.size ≤ 500 ∧ b.p.dst.name.size ≤ 100 ∧ b.p.src.name.size ≤ 100 ∧ b.p.rep.name.size ≤ 100) && lightAll b.bs
theorem lightAll_drop {l : List Bk} {k : Nat} (hk : k < l.length) : lightAll (l.drop k) = (decide (l[k].data.size ≤ 200) && lightAll (l.drop (k + 1))) := by
  unfold lightAll; rw [List.drop_eq_getElem_cons hk, List.all_cons]

set_option maxRecDepth 100000 in
set_option maxHeartbeats 2000000 in
theorem light_any (b : Bn) (B : Nat) (w : World) (hl : Lies w B b.A (b.bs.flatMap Bk.cells)) (hn : b.n = b.bs.length) (hB : B ≤ w.heap.size) : Calls Try.prog 5 #[b.val] w fun e w' => e = .returned (.bool b.light) ∧ Below w.heap.size w w' := by
  obtain ⟨z, hz⟩ : ∃ z, z = b.light := ⟨_, rfl⟩
  rw [← hz]
  have Hz := hide hz
  unfold Bn.light at Hz
  have hlt : w.heap.size < (w.alloc (.cells b.cells.toArray 33)).heap.size := by simp
  have RR := hide (fun W (hb : Below (w.alloc (.cells b.cells.toArray 33)).heap.size (w.alloc (.cells b.cells.toArray 33)) W) => range_below (range_new w b.cells 33 (0, 0)) hb hlt)
  have HB := hide ((Below.refl w.heap.size w).alloc (Nat.le_refl _) (.cells b.cells.toArray 33))
  have Hl := hide hl
  have Hn := hide hn
  clear hz hl hn hlt
  rcases b with ⟨⟨fl, crc, ⟨d0, d1, d2, d3⟩, ⟨s0, s1, s2, s3⟩, ⟨r0, r1, r2, r3⟩, time, seq, life, off, tot⟩, A, n, c, bs, ⟨ty, num, fl2, crc2, data⟩⟩
  simp only [Bn.val, Bn.cells] at RR HB ⊢
  simp only at Hz Hl Hn
  by_cases g1 : 20 < n
  · obtain rfl : z = false := by
      have := Hz.out
      rw [decide_eq_false (by omega)] at this
      exact this
    have g' : (20 : Int) < (n : Int) := by omega
    clear g1 Hz Hl Hn
    go_enter Try.func5, Try.ntmps5
    go_wp2
    go_ret
    exact ⟨rfl, HB.out⟩
  have q1 : ¬ (20 : Int) < (n : Int) := by omega
  by_cases g2 : 500 < data.size
  · obtain rfl : z = false := by
      have := Hz.out
      rw [decide_eq_false (by omega)] at this
      exact this
    have g' : (500 : Int) < (data.size : Int) := by omega
    clear g2 Hz Hl Hn
    go_enter Try.func5, Try.ntmps5
    go_wp2
    go_ret
    exact ⟨rfl, HB.out⟩
  have q2 : ¬ (500 : Int) < (data.size : Int) := by omega
  by_cases g3 : 100 < d1.size
  · obtain rfl : z = false := by
      have := Hz.out
      rw [decide_eq_false (by omega)] at this
      exact this
    have g' : (100 : Int) < (d1.size : Int) := by omega
    clear g3 Hz Hl Hn
    go_enter Try.func5, Try.ntmps5
    go_wp2
    go_ret
    exact ⟨rfl, HB.out⟩
  have q3 : ¬ (100 : Int) < (d1.size : Int) := by omega
  by_cases g4 : 100 < s1.size
  · obtain rfl : z = false := by
      have := Hz.out
      rw [decide_eq_false (by omega)] at this
      exact this
    have g' : (100 : Int) < (s1.size : Int) := by omega
    clear g4 Hz Hl Hn
    go_enter Try.func5, Try.ntmps5
    go_wp2
    go_ret
    exact ⟨rfl, HB.out⟩
  have q4 : ¬ (100 : Int) < (s1.size : Int) := by omega
  by_cases g5 : 100 < r1.size
  · obtain rfl : z = false := by
      have := Hz.out
      rw [decide_eq_false (by omega)] at this
      exact this
    have g' : (100 : Int) < (r1.size : Int) := by omega
    clear g5 Hz Hl Hn
    go_enter Try.func5, Try.ntmps5
    go_wp2
    go_ret
    exact ⟨rfl, HB.out⟩
  have q5 : ¬ (100 : Int) < (r1.size : Int) := by omega
  obtain ⟨R, hR⟩ : ∃ R, R = lightAll bs := ⟨_, rfl⟩
  have hzR : z = R := by
    have := Hz.out
    rw [decide_eq_true (show n ≤ 20 ∧ data.size ≤ 500 ∧ d1.size ≤ 100 ∧ s1.size ≤ 100 ∧ r1.size ≤ 100 by omega), Bool.true_and, ← hR] at this
    exact this
  subst hzR
  have HR := hide hR
  have hn20 : n ≤ 20 := by omega
  clear hR Hz g1 g2 g3 g4 g5
  go_enter Try.func5, Try.ntmps5
  go_wp2_with fail
  generalize Value.agg #[.int .u64 (fl : Int), .int .i64 crc, .int .i64 d0, .string d1, .int .u64 (d2 : Int), .int .u64 (d3 : Int), .int .i64 s0, .string s1, .int .u64 (s2 : Int), .int .u64 (s3 : Int), .int .i64 r0, .string r1, .int .u64 (r2 : Int), .int .u64 (r3 : Int), .int .u64 (time : Int), .int .u64 (seq : Int), .int .u64 (life : Int), .int .u64 (off : Int), .int .u64 (tot : Int), .slice A n c, .int .u64 (ty : Int), .int .u64 (num : Int), .int .u64 (fl2 : Int), .int .i64 crc2, .string data] = V0
  generalize hw1 : w.alloc (.cells #[.int .u64 (fl : Int), .int .i64 crc, .int .i64 d0, .string d1, .int .u64 (d2 : Int), .int .u64 (d3 : Int), .int .i64 s0, .string s1, .int .u64 (s2 : Int), .int .u64 (s3 : Int), .int .i64 r0, .string r1, .int .u64 (r2 : Int), .int .u64 (r3 : Int), .int .u64 (time : Int), .int .u64 (seq : Int), .int .u64 (life : Int), .int .u64 (off : Int), .int .u64 (tot : Int), .slice A n c, .int .u64 (ty : Int), .int .u64 (num : Int), .int .u64 (fl2 : Int), .int .i64 crc2, .string data] 33) = w1 at *
  have hz1 : w.heap.size < w1.heap.size := by rw [← hw1]; simp
  clear hw1
  go_loopw [3] (fun s3 wr => ∃ k : Nat, k ≤ n ∧ s3 = .int .i64 (k : Int) ∧ Below w1.heap.size w1 wr ∧ Hid (lightAll (bs.drop k) = z)) (fun s3 wr => n - (intOf s3).toNat)
  case atStart => exact ⟨0, Nat.zero_le _, rfl, Below.refl _ _, hide (by rw [List.drop_zero]; exact HR.out.symm)⟩
  case round =>
    obtain ⟨k, hk, rfl, hb, HK⟩ := hrel
    have Hb := hide hb
    have c19 : wr.cell? ⟨w.heap.size, 19, none⟩ = some (.slice A n c) := (RR.out wr hb) 19 _ rfl
    have HBr := hide (HB.out.trans (hb.mono (Nat.le_of_lt hz1)))
    clear hb
    by_cases hlt : k < n
    · have hlt' : (k : Int) < (n : Int) := by omega
      have hkl : k < bs.length := by rw [← Hn.out]; exact hlt
      obtain ⟨a, rfl, _, hca⟩ := (Hl.out.below (HBr.out.mono hB)).elem (f := Bk.cells) (m := 5) Bk.cells_len hkl (by omega)
      have d4 : wr.cell? ⟨(a.add (k * 5)).block, (a.add (k * 5)).off + 4, none⟩ = some (.string bs[k].data) := hca 4 _ rfl
      have Hd := hide (show (decide (bs[k].data.size ≤ 200) && lightAll (bs.drop (k + 1))) = z by rw [← lightAll_drop hkl]; exact HK.out)
      clear hca HK
      generalize bs[k].data = y at *
      by_cases hy : y.size ≤ 200
      · have hy' : ¬ (200 : Int) < (y.size : Int) := by omega
        have Hd2 := hide (show lightAll (bs.drop (k + 1)) = z by have := Hd.out; rw [decide_eq_true hy, Bool.true_and] at this; exact this)
        clear Hd hy
        go_wp2
        go_roundw
        case rel => exact ⟨k + 1, by omega, by go_num, Hb.out, Hd2⟩
        case measure => simp [intOf]; omega
      · have hy' : (200 : Int) < (y.size : Int) := by omega
        obtain rfl : z = false := by have := Hd.out; rw [decide_eq_false hy, Bool.false_and] at this; exact this.symm
        clear Hd hy HR
        go_wp2
        go_ret
        exact ⟨rfl, HBr.out⟩
    · have hlt' : ¬ (k : Int) < (n : Int) := by omega
      obtain rfl : z = true := by rw [← HK.out, List.drop_eq_nil_of_le (by have := Hn.out; omega)]; rfl
      clear HK HR
      go_wp2
      go_ret
      exact ⟨rfl, HBr.out⟩

end Go.Proofs.Ytlbgcbekjjkokaa
