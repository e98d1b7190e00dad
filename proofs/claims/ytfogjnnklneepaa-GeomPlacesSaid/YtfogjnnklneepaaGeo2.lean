/-
  CONTRACTS of package geom, second part: Bad.
-/
import Derived.Test.YtfogjnnklneepaaGeo
import Derived.OneCell
import Derived.WalkSmall
namespace Go.Proofs.Ytfogjnnklneepaa
open Go.RowKit

/-- Numbers as cells. -/
def i64s (l : List Int) : List Value := l.map fun z => .int .i64 z
theorem i64s_len (l : List Int) : (i64s l).length = l.length := by simp [i64s]
theorem Lies.int {w : World} {B : Nat} {A : Option Addr} {l : List Int} {k : Nat} (h : Lies w B A (i64s l)) (hk : k < l.length) : ∃ a, A = some a ∧ a.block < B ∧ w.cell? (a.add k) = some (.int .i64 (l[k]'hk)) := by
  obtain ⟨a, hA, hb, hc⟩ := h.at_ (k := k) (by rw [i64s_len]; exact hk)
  exact ⟨a, hA, hb, hc.trans (by simp [i64s])⟩

/-- The sides in their box. -/
def Boxed (g : Gm) (k : Nat) (w : World) : Prop := ∃ fr, w.heap[k]? = some (.cells #[.int .i64 g.b, .int .i64 g.p, .int .i64 g.r] 26 fr)
theorem Boxed.below {g : Gm} {k B : Nat} {w w' : World} (h : Boxed g k w) (hb : Below B w w') (hk : k < B) : Boxed g k w' := by
  obtain ⟨fr, h⟩ := h
  exact ⟨fr, (hb.block k hk).trans h⟩
theorem Boxed.new (g : Gm) (w : World) : Boxed g w.heap.size (w.alloc (.cells #[.int .i64 g.b, .int .i64 g.p, .int .i64 g.r] 26)) := ⟨_, heap_alloc_new w _⟩
theorem Boxed.b {g : Gm} {k : Nat} {w : World} (h : Boxed g k w) : w.cell? ⟨k, 0, none⟩ = some (.int .i64 g.b) := by
  obtain ⟨fr, h⟩ := h; exact World.news_of_block h 0 _ rfl
theorem Boxed.p {g : Gm} {k : Nat} {w : World} (h : Boxed g k w) : w.cell? ⟨k, 1, none⟩ = some (.int .i64 g.p) := by
  obtain ⟨fr, h⟩ := h; exact World.news_of_block h 1 _ rfl
theorem Boxed.r {g : Gm} {k : Nat} {w : World} (h : Boxed g k w) : w.cell? ⟨k, 2, none⟩ = some (.int .i64 g.r) := by
  obtain ⟨fr, h⟩ := h; exact World.news_of_block h 2 _ rfl

def Gm.bad (g : Gm) (l : List Int) : Int := if g.Right then badN g.b l else 0
theorem Gm.bad_ok {g : Gm} {l : List Int} (h : g.Right) : g.bad l = badN g.b l := if_pos h
theorem Gm.bad_not {g : Gm} {l : List Int} (h : ¬ g.Right) : g.bad l = 0 := if_neg h

theorem zero34_list (B : Int) : (Array.replicate 34 (Value.bool false)).toList = marks B [] := by
  unfold marks
  simp only [mark_nil]
  rfl
theorem addr_own {w : World} {base g : Nat} {e : TypeId} {n m c : Nat} {xs : List Value} (h : w.ownsRow base e 1 (.slice (some ⟨g, 0, none⟩) m c) n xs) {k : Nat} {u : Value} (hu : xs[k]? = some u) : w.cell? ⟨g, k, none⟩ = some u := by
  have h := h.cells rfl k u hu
  have e : ((⟨g, 0, none⟩ : Addr).add k) = ⟨g, k, none⟩ := by unfold Addr.add; by_cases hq : k = 0 <;> simp [hq]
  rwa [e] at h

set_option maxHeartbeats 2000000 in
theorem bad_any (g : Gm) (A : Option Addr) (n c B : Nat) (l : List Int) (w : World) (hl : Lies w B A (i64s l)) (hn : n = l.length) (hn2 : n ≤ 9223372036854775807) (hB : B ≤ w.heap.size) :
    Calls Try.prog 18 #[g.val, .slice A n c] w fun e w' => e = .returned (.int .i64 (g.bad l)) ∧ Below w.heap.size w w' := by
  have Hl := hide hl
  have Hn := hide hn
  have HB := hide hB
  have Hc := hide (check_any g)
  have Hb0 := hide ((Below.refl w.heap.size w).alloc (Nat.le_refl _) (.cells #[.int .i64 g.b, .int .i64 g.p, .int .i64 g.r] 26))
  have Hx := hide (Boxed.new g w)
  clear hl hn hB
  by_cases h : g.Right
  · rw [Gm.bad_ok h]
    rw [Gm.check_ok h] at Hc
    obtain ⟨hb1, hb2, _⟩ := h
    have hBn := badN_le g.b
    generalize hN : badN g.b l = N
    have HN := hide hN
    clear hN
    unfold Gm.val at *
    go_enter Try.func18, Try.ntmps18
    go_wp2_with fail
    (with_reducible refine (Hc.out _).mono ?_)
    rintro e w1 ⟨rfl, hb⟩
    have Hb := hide hb
    clear hb Hc
    have hz := Hb.out.size
    have Hbw := hide (Hb0.out.trans (Hb.out.mono (by simp)))
    have Hx1 := hide (Hx.out.below Hb.out (by simp))
    have hs1 : w.heap.size < w1.heap.size := by simp at hz; omega
    have Hown := hide (World.ownsRow_lit w1 (Array.replicate 34 (.bool false)) (e := 40) (base := w1.heap.size) (size := 1) 34 (Nat.le_refl _) (by unfold maxLen; decide) rfl)
    have Ha := hide (fun W (hW : Below w1.heap.size w1 W) => Boxed.b (Hx1.out.below hW hs1))
    have HL := hide (fun W (hW : Below w1.heap.size w1 W) => Hl.out.below ((Hbw.out.trans (hW.mono (by omega))).mono HB.out))
    clear Hb Hb0 Hx Hx1 hz
    have Hout := hide (fun W (hW : Below w1.heap.size w1 W) => Hbw.out.trans (hW.mono (by omega)))
    clear Hbw Hl HB
    go_wp2
    generalize hG : w1.heap.size = G at *
    have HG := hide hG
    clear hG
    go_loopw [6, 8, 14] (fun s _ i wr => ∃ j : Nat, j ≤ n ∧ i = .int .i64 (j : Int) ∧ s = .int .i64 (badN g.b (l.take j) : Nat) ∧ Below G w1 wr ∧
      Hid (wr.ownsRow G 40 1 (.slice (some ⟨G, 0, none⟩) 34 34) 34 (marks g.b (l.take j)))) (fun _ _ i _ => n - (intOf i).toNat)
    case atStart =>
      refine ⟨0, Nat.zero_le _, rfl, by rw [List.take_zero, badN_nil]; rfl, (Below.refl _ _).alloc (Nat.le_of_eq HG.out.symm) _, hide ?_⟩
      rw [List.take_zero, ← zero34_list]
      exact Hown.out
    case round =>
      obtain ⟨j, hj, rfl, rfl, hb, Hm⟩ := hrel
      have Hb := hide hb
      have hbox := Ha.out wr hb
      have e1 : wrap64 (g.b - 1) = g.b - 1 := gwr64 (by omega)
      have hle := hBn (l.take j)
      by_cases hlt : j < n
      · have hjl : j < l.length := by rw [← Hn.out]; exact hlt
        obtain ⟨a, rfl, _, hc⟩ := (HL.out wr hb).int hjl
        have Ht := hide (show l.take (j + 1) = l.take j ++ [l[j]] from by rw [List.take_append_getElem])
        have hlt' : (j : Int) < (n : Int) := by omega
        have e2 : wrap64 ((j : Int) + 1) = ((j + 1 : Nat) : Int) := by rw [gwr64 (by omega)]; rfl
        have Hle := hide hle
        clear hb hle hlt
        generalize l[j] = z at *
        generalize l.take j = t at *
        generalize g.b = b at *
        by_cases hin : 2 ≤ z ∧ z ≤ b - 1
        · obtain ⟨k, rfl⟩ := Int.eq_ofNat_of_zero_le (show 0 ≤ z by omega)
          have hk : k < 34 := by omega
          have hk' : (k : Int) < 34 := by omega
          have f1 := within_any (k : Int) 2 (b - 1) wr
          rw [decide_eq_true hin] at f1
          have hcell := addr_own Hm.out (marks_at (B := b) (l := t) hk)
          have hfz := Hm.out.frozenAt k
          cases hmk : mark b t k with
          | true =>
            rw [hmk] at hcell
            have Hs := hide (badN_again hmk)
            have Hs2 := hide (mark_again hmk)
            clear hmk
            go_wp2_with (go_at_call 16; (with_reducible refine f1.mono ?_); rintro e w2 ⟨rfl, rfl⟩; clear f1)
            refine ⟨⟨j + 1, by omega, rfl, ?_, Hb.out, hide ?_⟩, by simp [intOf]; omega⟩
            · rw [Ht.out, Hs.out]
            · rw [Ht.out, show marks b (t ++ [(k : Int)]) = marks b t from by unfold marks; rw [Hs2.out]]; exact Hm.out
          | false =>
            rw [hmk] at hcell
            have Hs := hide (badN_new hk (by omega) hin.2 hmk)
            clear hmk
            go_wp2_with (go_at_call 16; (with_reducible refine f1.mono ?_); rintro e w2 ⟨rfl, rfl⟩; clear f1)
            obtain ⟨ho2, hg2⟩ := Hm.out.stored k (.bool true)
            have hle := Hle.out
            refine ⟨⟨j + 1, by omega, rfl, ?_, Hb.out.grown hg2 (by have := Hb.out.size; rw [HG.out] at this; exact this) (fun q hq => by injection hq with hq; omega), hide ?_⟩, by simp [intOf]; omega⟩
            · rw [Ht.out, Hs.out, gwr64 (by omega)]; rfl
            · rw [Ht.out, ← marks_set (by omega) hin.2]; exact ho2
        · have f1 := within_any z 2 (b - 1) wr
          rw [decide_eq_false hin] at f1
          have Hs := hide (badN_old (l := t) hin)
          have Hs2 := hide (mark_old (l := t) hin)
          clear hin
          go_wp2_with (go_at_call 16; (with_reducible refine f1.mono ?_); rintro e w2 ⟨rfl, rfl⟩; clear f1)
          refine ⟨⟨j + 1, by omega, rfl, ?_, Hb.out, hide ?_⟩, by simp [intOf]; omega⟩
          · rw [Ht.out, Hs.out]
          · rw [Ht.out, show marks b (t ++ [z]) = marks b t from by unfold marks; rw [Hs2.out]]; exact Hm.out
      · have hjn : j = n := by omega
        subst hjn
        have hfin : badN g.b (l.take j) = N := by rw [List.take_of_length_le (Nat.le_of_eq Hn.out.symm), HN.out]
        rw [hfin]
        clear hb hle hfin hlt hj
        go_wp2
        go_ret
        exact ⟨rfl, Hout.out _ Hb.out⟩
  · rw [Gm.bad_not h]
    rw [Gm.check_not h] at Hc
    unfold Gm.val at *
    go_enter Try.func18, Try.ntmps18
    go_wp2_with fail
    (with_reducible refine (Hc.out _).mono ?_)
    rintro e w1 ⟨rfl, hb⟩
    have Hb := hide hb
    clear hb Hc
    go_wp2
    go_ret
    exact ⟨rfl, Hb0.out.trans (Hb.out.mono (by simp))⟩

end Go.Proofs.Ytfogjnnklneepaa
