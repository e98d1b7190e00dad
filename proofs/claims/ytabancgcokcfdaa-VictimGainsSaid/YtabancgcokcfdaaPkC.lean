/-
  LAYER 20, CONTRACTS: Used, Count, among.
-/
import Derived.Test.YtabancgcokcfdaaPkB
namespace Go.Proofs.Ytabancgcokcfdaa
open Go.RowKit
set_option maxRecDepth 8000

/-- The slice that begins at A holds the cells xs; what it holds lies in a block from lo on, below hi. -/
def LiesB (w : World) (lo hi : Nat) (A : Option Addr) (xs : List Value) : Prop := xs = [] ∨ ∃ a, A = some a ∧ lo ≤ a.block ∧ a.block < hi ∧ ∀ j u, xs[j]? = some u → w.cell? (a.add j) = some u
section
variable {w w' : World} {lo hi : Nat} {A : Option Addr} {xs : List Value}
theorem LiesB.lies (h : LiesB w lo hi A xs) : Lies w hi A xs := by
  rcases h with h | ⟨a, h1, _, h2, h3⟩
  · exact .inl h
  · exact .inr ⟨a, h1, h2, h3⟩
theorem LiesB.turn (h : LiesB w lo hi A xs) (hk : ∀ j, lo ≤ j → j < hi → w'.heap[j]? = w.heap[j]?) : LiesB w' lo hi A xs := by
  rcases h with h | ⟨a, h1, h0, h2, h3⟩
  · exact .inl h
  · refine .inr ⟨a, h1, h0, h2, fun j u hu => ?_⟩
    have e2 : (a.add j).block = a.block := by unfold Addr.add; split <;> rfl
    exact (World.cell?_of_block (a := a.add j) (by rw [e2]; exact hk _ h0 h2)).trans (h3 j u hu)
theorem LiesB.below {B : Nat} (h : LiesB w lo hi A xs) (hb : Below B w w') (hB : hi ≤ B) : LiesB w' lo hi A xs := h.turn fun j _ hj => hb.block j (Nat.lt_of_lt_of_le hj hB)
theorem LiesB.up {lo' hi' : Nat} (h : LiesB w lo hi A xs) (h1 : lo' ≤ lo) (h2 : hi ≤ hi') : LiesB w lo' hi' A xs := by
  rcases h with h | ⟨a, e, h0, h3, h4⟩
  · exact .inl h
  · exact .inr ⟨a, e, Nat.le_trans h1 h0, Nat.lt_of_lt_of_le h3 h2, h4⟩
theorem LiesB.of_own {base size : Nat} {e : TypeId} {n m c : Nat} (h : w.ownsRow base e size (.slice A m c) n xs) : LiesB w base w.heap.size A xs := by
  rcases h.2 with ⟨hv, hn⟩ | ⟨g, cap, cur, hv, hg0, hg, _, _, _, _⟩
  · refine .inl (List.eq_nil_of_length_eq_zero ?_)
    rw [h.1, hn, Nat.zero_mul]
  · injection hv with hA _ _
    subst hA
    exact .inr ⟨_, rfl, hg0, (Array.getElem?_eq_some_iff.1 hg).1, h.cells rfl⟩
end
def cntB (b : Int) (L : List Pl2) : Nat := (L.filter fun q => decide (q.1 = b)).length
theorem cntB_next {b : Int} {L : List Pl2} {k : Nat} (h : k < L.length) : cntB b (L.take (k + 1)) = cntB b (L.take k) + (if L[k].1 = b then 1 else 0) := by
  unfold cntB
  rw [← List.take_append_getElem h, List.filter_append, List.length_append]
  by_cases hb : L[k].1 = b <;> simp [hb]
theorem cntB_le (b : Int) (L : List Pl2) : cntB b L ≤ L.length := List.length_filter_le _ _
set_option maxHeartbeats 4000000 in
theorem count_any (A : Option Addr) (n c B : Nat) (L : List Pl2) (b : Int) (w : World) (hl : Lies w B A (rowQ L)) (hB : B ≤ w.heap.size) (hn : n = L.length) (hbig : n ≤ 1000) :
    Calls Try.prog 22 #[.slice A n c, .int .i64 b] w fun e w' => e = .returned (.int .i64 (cntB b L : Int)) ∧ Below w.heap.size w w' := by
  have HL := hide hl
  have HB := hide hB
  have Hn := hide hn
  have Hbig := hide hbig
  obtain ⟨R, hR⟩ : ∃ R, cntB b L = R := ⟨_, rfl⟩
  rw [hR]
  have HR := hide hR
  clear hl hn hbig hB hR
  go_enter Try.func22, Try.ntmps22
  go_wp2
  go_loopw [5, 10] (fun m i wr => ∃ k m0 : Nat, k ≤ n ∧ m0 ≤ k ∧ m = .int .i64 (m0 : Int) ∧ i = .int .i64 (k : Int) ∧ Hid (cntB b (L.take k) = m0) ∧ Hid (Below w.heap.size w wr)) (fun _ i _ => n - (RowKit.intOf i).toNat)
  case atStart => exact ⟨0, 0, Nat.zero_le _, Nat.le_refl _, rfl, rfl, hide rfl, hide (Below.refl _ _)⟩
  case round =>
    obtain ⟨k, m0, hk, hmk, rfl, rfl, HM, HW⟩ := hrel
    by_cases hlt : k < n
    · have hlt' : (k : Int) < (n : Int) := by omega
      have e7 : wrap64 ((k : Int) + 1) = ((k + 1 : Nat) : Int) := by have := Hbig.out; unfold wrap64; omega
      have e8 : wrap64 ((m0 : Int) + 1) = ((m0 + 1 : Nat) : Int) := by have := Hbig.out; clear e7; unfold wrap64; omega
      have hnl : k < L.length := by rw [← Hn.out]; exact hlt
      obtain ⟨ad, rfl, hab, hca⟩ := (HL.out.below (HW.out.mono HB.out)).elem plc_len hnl (by decide)
      have Hca := hide hca
      have Hnx := hide (cntB_next (b := b) hnl)
      generalize L[k] = f at *
      rcases f with ⟨fx, fy⟩
      clear hca hab hnl
      have Hlt := hide hlt
      have E7 := hide e7
      have E8 := hide e8
      have Hmk := hide hmk
      have HX4 := hide (BoxQ2.new (fx, fy) wr)
      have HA4 := hide (HW.out.alloc HW.out.size (.cells #[.int .i64 fx, .int .i64 fy] 35))
      unfold plc at Hca
      dsimp only at *
      go_upto_region 5 with (with_reducible refine wpl_load_addr rfl 35 (.tmp 12) rfl (ad.add (k * 2)) _ Hca.out rfl _ Try.underlying35 rfl 2 infoPl2 rfl ?_)
      generalize wr.alloc (.cells #[.int .i64 fx, .int .i64 fy] 35) = w5 at *
      clear Hca HW
      generalize wr.heap.size = q8 at *
      have x0 := HX4.out.c0
      try dsimp only at x0
      by_cases hb : fx = b
      · have g1 : (fx == b) = true := beq_iff_eq.2 hb
        have HM2 := hide (show cntB b (L.take (k + 1)) = m0 + 1 by rw [Hnx.out, HM.out, if_pos hb])
        clear hb HM
        go_wp2
        go_roundw
        case rel => exact ⟨k + 1, m0 + 1, Hlt.out, Nat.succ_le_succ Hmk.out, congrArg (Value.int .i64) E8.out, congrArg (Value.int .i64) E7.out, HM2, HA4⟩
        case measure => first | exact measT Hlt.out | exact measT2 E7.out Hlt.out
      · have g1 : (fx == b) = false := beq_eq_false_iff_ne.2 hb
        have HM2 := hide (show cntB b (L.take (k + 1)) = m0 by rw [Hnx.out, HM.out, if_neg hb]; rfl)
        clear hb HM
        go_wp2
        go_roundw
        case rel => exact ⟨k + 1, m0, Hlt.out, Nat.le_succ_of_le Hmk.out, rfl, congrArg (Value.int .i64) E7.out, HM2, HA4⟩
        case measure => first | exact measT Hlt.out | exact measT2 E7.out Hlt.out
    · obtain rfl : k = n := by omega
      have e : m0 = R := by rw [← HR.out, ← HM.out, List.take_of_length_le (by rw [Hn.out]; exact Nat.le_refl _)]
      subst e
      go_wp2
      go_ret
      exact ⟨rfl, HW.out⟩

/-- What 'among' keeps of some blocks: their sorted row, in its box. -/
structure Amg (bad : List Int) (lo q : Nat) (W : World) : Prop where
  ex : ∃ (A : Option Addr) (c : Nat) (S : List Int), W.heap[q]? = some (.cells #[.slice A S.length c] 22 (0, 0)) ∧ LiesB W lo q A (nums .i64 S) ∧ S.Pairwise (· ≤ ·) ∧ S.length ≤ 1000 ∧ ∀ x, x ∈ S ↔ x ∈ bad
theorem Amg.turn {bad : List Int} {lo q : Nat} {W W' : World} (h : Amg bad lo q W) (hl : lo ≤ q) (hk : ∀ j, lo ≤ j → j ≤ q → W'.heap[j]? = W.heap[j]?) : Amg bad lo q W' := by
  obtain ⟨A, c, S, h1, h2, h3⟩ := h.ex
  exact ⟨A, c, S, (hk q hl (Nat.le_refl _)).trans h1, h2.turn (fun j h3 h4 => hk j h3 (Nat.le_of_lt h4)), h3⟩
theorem Amg.below {bad : List Int} {lo q B : Nat} {W W' : World} (h : Amg bad lo q W) (hb : Below B W W') (hq : q < B) : Amg bad lo q W' := by
  obtain ⟨A, c, S, h1, h2, h3⟩ := h.ex
  exact ⟨A, c, S, (hb.block q hq).trans h1, h2.below hb (Nat.le_of_lt hq), h3⟩
theorem Amg.lt {bad : List Int} {lo q : Nat} {W : World} (h : Amg bad lo q W) : q < W.heap.size := by
  obtain ⟨A, c, S, h1, _⟩ := h.ex
  exact (Array.getElem?_eq_some_iff.1 h1).1
end Go.Proofs.Ytabancgcokcfdaa
