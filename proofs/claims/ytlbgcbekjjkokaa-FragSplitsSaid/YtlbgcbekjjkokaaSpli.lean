/-
  CONTRACTS: frag.Split.
-/
import Derived.Test.YtlbgcbekjjkokaaPiec
namespace Go.Proofs.Ytlbgcbekjjkokaa
open Go.RowKit

/-- What Split tells: pieces, an error. -/
def SplitIs (b : Bn) (size : Int) (w' : World) (v : Value) (e : Int) : Prop :=
  (¬ b.check = 0 ∧ v = .slice none 0 0 ∧ e = b.check) ∨
  (b.check = 0 ∧ size < 1 ∧ v = .slice none 0 0 ∧ e = 3) ∨
  (b.check = 0 ∧ ∃ s : Nat, size = (s : Int) ∧ 1 ≤ s ∧
    ((1024 < manyN b.pay.data.size s ∧ v = .slice none 0 0 ∧ e = 4) ∨
     (manyN b.pay.data.size s = 1 ∧ e = 0 ∧ ∃ A c g, v = .slice (some ⟨g, 0, none⟩) 1 1 ∧ Bn.Ok w' w'.heap.size { b with A := A, c := c } ∧ Lies w' w'.heap.size (some ⟨g, 0, none⟩) (Bn.cells { b with A := A, c := c })) ∨
     (2 ≤ manyN b.pay.data.size s ∧ manyN b.pay.data.size s ≤ 1024 ∧
      ((b.p.fl / 4 % 2 = 1 ∧ v = .slice none 0 0 ∧ e = 6) ∨
       (b.p.fl / 4 % 2 = 0 ∧ b.p.fl % 2 = 1 ∧ b.p.tot - b.p.off < b.pay.data.size ∧ v = .slice none 0 0 ∧ e = 2) ∨
       (b.p.fl / 4 % 2 = 0 ∧ (b.p.fl % 2 = 1 → b.pay.data.size ≤ b.p.tot - b.p.off) ∧ e = 0 ∧ ∃ A c g, v = .slice (some ⟨g, 0, none⟩) (manyN b.pay.data.size s) (manyN b.pay.data.size s) ∧ Bn.Ok w' w'.heap.size { b with A := A, c := c } ∧ Lies w' w'.heap.size (some ⟨g, 0, none⟩) (((List.range (manyN b.pay.data.size s)).map (pieceOf b A c s)).flatMap Bn.cells))))))
def SplitPost (b : Bn) (size : Int) (w : World) (e : Ending) (w' : World) : Prop := ∃ v er, e = .returned (.tuple #[v, .int .i64 er]) ∧ SplitIs b size w' v er ∧ Below w.heap.size w w'

theorem many_two {n s : Nat} (hs : 1 ≤ s) (h : 2 ≤ manyN n s) : (manyN n s - 1) * s < n ∧ n ≤ manyN n s * s ∧ s < n := by
  unfold manyN at *
  by_cases h0 : n = 0
  · rw [if_pos h0] at h; omega
  · rw [if_neg h0] at *
    have h1 : (n - 1) / s * s ≤ n - 1 := Nat.div_mul_le_self _ _
    have h2 : n - 1 < ((n - 1) / s + 1) * s := by rw [Nat.mul_comm]; exact Nat.lt_mul_div_succ _ hs
    refine ⟨by rw [Nat.add_sub_cancel]; omega, by omega, ?_⟩
    have h3 : 1 * s ≤ (n - 1) / s * s := Nat.mul_le_mul_right s (by omega)
    omega

theorem foldl_put : ∀ (vs : List Value) (o : Nat) (cs : Array Value), (vs.zipIdx o).foldl (fun (c : Array Value) x => c.setIfInBounds x.2 x.1) cs = putArr cs o vs
  | [], _, _ => rfl
  | v :: r, o, cs => by
    rw [List.zipIdx_cons, List.foldl_cons]
    exact foldl_put r (o + 1) _
theorem build_one (X : Bn) : List.foldl (fun (c : Array Value) (x : Value × Nat) => c.setIfInBounds x.2 x.1) zBn.cells.toArray X.cells.zipIdx = X.cells.toArray := by
  rw [foldl_put X.cells 0, putArr_eq _ _ _ (by show 0 + 25 ≤ 25; omega)]
  rfl
theorem split_fits {b : Bn} {w : World} {B : Nat} (hc : b.check = 0) (hok : b.Ok w B) (hle : b.p.fl % 2 = 1 → b.pay.data.size ≤ b.p.tot - b.p.off) : b.p.off + b.bytes.length < 18446744073709551616 := by
  rw [bytes_len]
  have h1 := hok.data
  have h2 := hok.tot
  by_cases hf : b.p.fl % 2 = 1
  · have h3 := hle hf
    have h4 := check_off hc hf
    omega
  · have h3 := (check_off0 hc hf).1
    omega

set_option maxRecDepth 100000 in
set_option maxHeartbeats 4000000 in
theorem split_any (b : Bn) (B : Nat) (size : Int) (w : World) (hok : b.Ok w B) (hB : B ≤ w.heap.size) (hsz : size ≤ 9223372036854775807) :
    Calls Try.prog 7 #[b.val, .int .i64 size] w (SplitPost b size w) := by
  obtain ⟨w1, hw1⟩ : ∃ w1, w1 = w.alloc (.cells b.cells.toArray 33) := ⟨_, rfl⟩
  have HW1 := hide hw1
  have Hb1 := hide (show Below w.heap.size w w1 by rw [hw1]; exact (Below.refl w.heap.size w).alloc (Nat.le_refl _) _)
  have hr1 : w1.heap[w.heap.size]? = some (.cells b.cells.toArray 33 (0, 0)) := by rw [hw1]; exact heap_alloc_last w _
  have hz1 : w.heap.size < w1.heap.size := (Array.getElem?_eq_some_iff.1 hr1).1
  have Hr1 := hide hr1
  have Hok := hide hok
  have FC := hide (bundleCheck_any b B w1 (hok.below (Hb1.out.mono hB)) (Nat.le_trans hB (Nat.le_of_lt hz1)))
  have Hval := hide (show b.val = .agg b.cells.toArray from rfl)
  have Hsz := hide hsz
  rw [Hval.out]
  clear hw1 hok hr1 hsz
  go_enter Try.func7, Try.ntmps7
  go_upto_region 1 with fail
  rw [← HW1.out]
  go_wp2_with (with_reducible refine wpl_load_at rfl 33 (.tmp 2) rfl w.heap.size 33 b.cells.toArray _ Hr1.out rfl Try.underlying33 rfl 25 info33 (cells_size b) ?_)
  refine FC.out.mono ?_
  rintro e w2 ⟨rfl, hb2⟩
  have Hb2 := hide (Hb1.out.trans (hb2.mono (Nat.le_of_lt hz1)))
  have Hr2 := hide ((hb2.block w.heap.size hz1).trans Hr1.out)
  clear hb2 FC Hr1 HW1
  by_cases hc : b.check = 0
  · have Hc := hide hc
    rw [hc]
    clear hc
    simp only []
    have c24 : w2.cell? ⟨w.heap.size, 24, none⟩ = some (.string b.pay.data) := range_of_row Hr2.out 24 _ rfl
    by_cases hs : size < 1
    · have FM := hide (many_low b.pay.data.size size w2 hs)
      go_wp2_with fail
      refine FM.out.mono ?_
      rintro e w3 ⟨rfl, rfl⟩
      go_wp2
      go_ret2
      exact ⟨_, 3, rfl, .inr (.inl ⟨Hc.out, hs, rfl, rfl⟩), Hb2.out⟩
    · obtain ⟨s, rfl⟩ : ∃ s : Nat, size = (s : Int) := ⟨size.toNat, by omega⟩
      have hs1 : 1 ≤ s := by omega
      have FM := hide (many_any b.pay.data.size s w2 hs1 (by have := Hok.out.data; omega) (Int.ofNat_le.1 (show (s : Int) ≤ ((9223372036854775807 : Nat) : Int) from Hsz.out)))
      have Hm2 := hide (fun h => many_two (n := b.pay.data.size) hs1 h)
      have hm1 : 1 ≤ manyN b.pay.data.size s := by unfold manyN; split; exact Nat.le_refl 1; exact Nat.le_add_left 1 _
      obtain ⟨m, hm⟩ : ∃ m, m = manyN b.pay.data.size s := ⟨_, rfl⟩
      rw [← hm] at FM Hm2 hm1
      have Hm := hide hm
      have Hs1 := hide (show 1 ≤ s from hs1)
      clear hm
      go_wp2_with fail
      refine FM.out.mono ?_
      rintro e w3 ⟨rfl, rfl⟩
      clear FM
      by_cases hbig : 1024 < m
      · have hbig' : (1024 : Int) < (m : Int) := by omega
        have Hbig := hide hbig
        clear hbig
        go_wp2
        go_ret2
        exact ⟨_, 4, rfl, .inr (.inr ⟨Hc.out, s, rfl, Hs1.out, .inl ⟨by rw [← Hm.out]; exact Hbig.out, rfl, rfl⟩⟩), Hb2.out⟩
      · have hbig' : ¬ (1024 : Int) < (m : Int) := by omega
        by_cases h1 : m = 1
        · have h1b : ((m : Int) == 1) = true := by rw [h1]; rfl
          have H1 := hide h1
          clear h1 c24
          have FCl := hide (clone_any b B w3 (Hok.out.below (Hb2.out.mono hB)) (Nat.le_trans hB Hb2.out.size))
          go_wp2_with (with_reducible refine wpl_load_at rfl 33 (.tmp 2) rfl w.heap.size 33 b.cells.toArray _ Hr2.out rfl Try.underlying33 rfl 25 info33 (cells_size b) ?_)
          refine FCl.out.mono ?_
          rintro e w4 ⟨A1, c1, rfl, hok4, hb4, hab4⟩
          obtain ⟨X, hX⟩ : ∃ X, X = ({ b with A := A1, c := c1 } : Bn) := ⟨_, rfl⟩
          have HX := hide hX
          rw [show Bn.val { b with A := A1, c := c1 } = .agg X.cells.toArray by rw [hX]; rfl]
          rw [← hX] at hok4
          have Hok4 := hide hok4
          have Hb4 := hide (Hb2.out.trans (hb4.mono Hb2.out.size))
          clear hok4 hb4 hab4 FCl hX
          have hX25 : X.cells.toArray.size = 25 := cells_size X
          have hX26 : X.cells.length = 25 := rfl
          go_wp2
          rw [← zBn_cells, build_one]
          go_ret2
          refine ⟨.slice (some ⟨w4.heap.size, 0, none⟩) 1 1, 0, rfl, .inr (.inr ⟨Hc.out, s, rfl, Hs1.out, .inr (.inl ⟨by rw [← Hm.out]; exact H1.out, rfl, A1, c1, w4.heap.size, rfl, ?_, ?_⟩)⟩), Hb4.out.alloc Hb4.out.size _⟩
          · rw [← HX.out]
            exact (Hok4.out.below ((Below.refl w4.heap.size w4).alloc (Nat.le_refl _) _)).up (by simp)
          · rw [← HX.out]
            exact Lies.new w4 X.cells.toArray 33 (0, 0) _ (by simp)
        · have h1b : ((m : Int) == 1) = false := beq_eq_false_iff_ne.2 (by omega)
          have hm2 : 2 ≤ m := by omega
          have hms := Hm2.out hm2
          have HM := hide (show 2 ≤ manyN b.pay.data.size s ∧ manyN b.pay.data.size s ≤ 1024 by rw [← Hm.out]; omega)
          have c0 : w3.cell? ⟨w.heap.size, 0, none⟩ = some (.int .u64 (b.p.fl : Int)) := range_of_row Hr2.out 0 _ rfl
          have hand := and_four b.p.fl Hok.out.fl
          by_cases h4 : b.p.fl / 4 % 2 = 1
          · have h4b : (((b.p.fl / 4 % 2 * 4 : Nat) : Int) != 0) = true := by rw [h4]; rfl
            have H4 := hide h4
            clear h4
            generalize b.p.fl / 4 % 2 * 4 = q4 at *
            go_wp2
            go_ret2
            exact ⟨_, 6, rfl, .inr (.inr ⟨Hc.out, s, rfl, Hs1.out, .inr (.inr ⟨HM.out.1, HM.out.2, .inl ⟨H4.out, rfl, rfl⟩⟩)⟩), Hb2.out⟩
          · have h40 : b.p.fl / 4 % 2 = 0 := by omega
            have h4b : (((b.p.fl / 4 % 2 * 4 : Nat) : Int) != 0) = false := by rw [h40]; rfl
            have H4 := hide h40
            clear h4 h40
            generalize b.p.fl / 4 % 2 * 4 = q4 at *
            have RP := hide (range_p (range_of_row Hr2.out))
            have FF := hide (fragment_any b.p w3 Hok.out.fl)
            clear hms
            go_wp2_with (with_reducible refine wpl_load_mid rfl 28 (.tmp 38) rfl w.heap.size 0 b.p.cells RP.out rfl _ Try.underlying28 rfl 19 info28 (by with_unfolding_all rfl) ?_)
            refine FF.out.mono ?_
            rintro e w4 ⟨rfl, hb4⟩
            have hzz : w.heap.size < w3.heap.size := (Array.getElem?_eq_some_iff.1 Hr2.out).1
            have Hb4 := hide (Hb2.out.trans (hb4.mono Hb2.out.size))
            have Hr4 := hide ((hb4.block w.heap.size hzz).trans Hr2.out)
            clear hb4 FF RP Hr2 c0 c24
            by_cases hfr : b.p.fl % 2 = 1
            · rw [decide_eq_true hfr]
              simp only []
              have hoff := check_off Hc.out hfr
              have Hfr := hide hfr
              have FB := hide (beyond_any b w4 (by have := Hok.out.data; omega) (Nat.le_of_lt hoff) Hok.out.tot)
              have RB := hide (range_of_row Hr4.out)
              clear hfr hoff
              by_cases hby : b.p.tot - b.p.off < b.pay.data.size
              · rw [decide_eq_true hby] at FB
                have Hby := hide hby
                clear hby
                go_wp2_with (with_reducible refine wpl_load_want ?_ 33 (.tmp 2) rfl w.heap.size 0 b.cells RB.out rfl _ Try.underlying33 rfl 25 info33 (by with_unfolding_all rfl) ?_)
                refine FB.out.mono ?_
                rintro e w5 ⟨rfl, hb5⟩
                have Hb5 := hide (Hb4.out.trans (hb5.mono Hb4.out.size))
                clear hb5
                go_wp2
                go_ret2
                exact ⟨_, 2, rfl, .inr (.inr ⟨Hc.out, s, rfl, Hs1.out, .inr (.inr ⟨HM.out.1, HM.out.2, .inr (.inl ⟨H4.out, Hfr.out, Hby.out, rfl, rfl⟩)⟩)⟩), Hb5.out⟩
              · rw [decide_eq_false hby] at FB
                have Hby := hide hby
                clear hby
                go_wp2_with (with_reducible refine wpl_load_want ?_ 33 (.tmp 2) rfl w.heap.size 0 b.cells RB.out rfl _ Try.underlying33 rfl 25 info33 (by with_unfolding_all rfl) ?_)
                refine FB.out.mono ?_
                rintro e w5 ⟨rfl, hb5⟩
                have Hb5 := hide (Hb4.out.trans (hb5.mono Hb4.out.size))
                have Hr5 := hide ((hb5.block w.heap.size (Array.getElem?_eq_some_iff.1 Hr4.out).1).trans Hr4.out)
                have Hle := hide (show b.p.fl % 2 = 1 → b.pay.data.size ≤ b.p.tot - b.p.off from fun _ => Nat.not_lt.1 Hby.out)
                have HP := hide (split_fits Hc.out Hok.out Hle.out)
                clear hb5 Hr4 FB RB Hb4 Hb2
                generalize w5 = w9 at *
                have Hb9 := Hb5
                have Hr9 := Hr5
                clear Hb5 Hr5
                have hms := Hm2.out hm2
                have FP := hide (pieces_any b B s m w9 (Hok.out.below (Hb9.out.mono hB)) (Nat.le_trans hB Hb9.out.size) Hs1.out (by have := Hok.out.data; omega) hm2 (by omega) (by rw [bytes_len]; exact hms.1) (by rw [bytes_len]; exact hms.2.1) HP.out)
                clear hms
                go_wp2_with (with_reducible refine wpl_load_at rfl 33 (.tmp 2) rfl w.heap.size 33 b.cells.toArray _ Hr9.out rfl Try.underlying33 rfl 25 info33 (cells_size b) ?_)
                refine FP.out.mono ?_
                rintro e w6 ⟨A1, c1, g, rfl, hl6, hok6, hb6⟩
                have Hl6 := hide hl6
                have Hok6 := hide hok6
                have Hb6 := hide (Hb9.out.trans (hb6.mono Hb9.out.size))
                clear hl6 hok6 hb6 FP
                go_wp2
                go_ret2
                exact ⟨.slice (some ⟨g, 0, none⟩) m m, 0, rfl, .inr (.inr ⟨Hc.out, s, rfl, Hs1.out, .inr (.inr ⟨HM.out.1, HM.out.2, .inr (.inr ⟨H4.out, Hle.out, rfl, A1, c1, g, by rw [← Hm.out], Hok6.out, by rw [← Hm.out]; exact Hl6.out⟩)⟩)⟩), Hb6.out⟩
            · rw [decide_eq_false hfr]
              simp only []
              have Hle := hide (show b.p.fl % 2 = 1 → b.pay.data.size ≤ b.p.tot - b.p.off from fun h => absurd h hfr)
              have HP := hide (split_fits Hc.out Hok.out Hle.out)
              clear hfr Hb2
              generalize w4 = w9 at *
              have Hb9 := Hb4
              have Hr9 := Hr4
              clear Hb4 Hr4
              have hms := Hm2.out hm2
              have FP := hide (pieces_any b B s m w9 (Hok.out.below (Hb9.out.mono hB)) (Nat.le_trans hB Hb9.out.size) Hs1.out (by have := Hok.out.data; omega) hm2 (by omega) (by rw [bytes_len]; exact hms.1) (by rw [bytes_len]; exact hms.2.1) HP.out)
              clear hms
              go_wp2_with (with_reducible refine wpl_load_at rfl 33 (.tmp 2) rfl w.heap.size 33 b.cells.toArray _ Hr9.out rfl Try.underlying33 rfl 25 info33 (cells_size b) ?_)
              refine FP.out.mono ?_
              rintro e w6 ⟨A1, c1, g, rfl, hl6, hok6, hb6⟩
              have Hl6 := hide hl6
              have Hok6 := hide hok6
              have Hb6 := hide (Hb9.out.trans (hb6.mono Hb9.out.size))
              clear hl6 hok6 hb6 FP
              go_wp2
              go_ret2
              exact ⟨.slice (some ⟨g, 0, none⟩) m m, 0, rfl, .inr (.inr ⟨Hc.out, s, rfl, Hs1.out, .inr (.inr ⟨HM.out.1, HM.out.2, .inr (.inr ⟨H4.out, Hle.out, rfl, A1, c1, g, by rw [← Hm.out], Hok6.out, by rw [← Hm.out]; exact Hl6.out⟩)⟩)⟩), Hb6.out⟩
  · have Hc := hide hc
    clear hc
    obtain ⟨z, hz⟩ : ∃ z, z = b.check := ⟨_, rfl⟩
    have Hz := hide hz
    rw [← hz]
    have hz0 : ¬ z = 0 := by rw [hz]; exact Hc.out
    clear hz
    go_wp2
    go_ret2
    exact ⟨_, z, rfl, .inl ⟨Hc.out, rfl, Hz.out⟩, Hb2.out⟩

end Go.Proofs.Ytlbgcbekjjkokaa
