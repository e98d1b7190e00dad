/-
  LAYER 22, CONTRACTS: gain, Gain, Order, Total; slices.MinFunc and Pick; the reference's Count and Pick.
-/
import Derived.Test.YtabancgcokcfdaaVcT
import Derived.Test.YtabancgcokcfdaaVcR
namespace Go.Proofs.Ytabancgcokcfdaa
open Go.RowKit
set_option maxRecDepth 8000
namespace Vc
theorem egK : ∀ args w, (callFunc 21 args).run Try.prog w = .ok (.enter 21 args) w := enters_of Try.func21 (by kernel_rfl) rfl
theorem below_row {W W' : World} {k B : Nat} (hg : W.grownBy W' (some k)) (h1 : B ≤ k) (h2 : B ≤ W.heap.size) : Below B W W' :=
  ⟨hg.os, hg.tape, hg.output, hg.size, fun j hj => hg.block j (by omega) (fun e => by injection e with e; omega)⟩
theorem gain_any (L : List Pl2) (b p : Int) (W : World) (hL : L.length ≤ 1000) (hp : Ok64 p) :
    Calls Try.prog 18 #[.int .i64 (cntB b L : Int), .int .i64 p] W fun e w' => e = .returned (.int .i64 (gainZ L b p)) ∧ W = w' := by
  have hc := cntB_le b L
  unfold gainZ
  obtain ⟨k, hk⟩ : ∃ k, cntB b L = k := ⟨_, rfl⟩
  rw [hk] at hc ⊢
  by_cases h : p ≤ (k : Int)
  · rw [if_pos h]
    have g1 : decide (p ≤ (k : Int)) = true := decide_eq_true h
    clear hk hc hp
    go_enter Try.func18, Try.ntmps18
    go_wp2
    go_ret
    exact ⟨rfl, rfl⟩
  · rw [if_neg h]
    have g1 : decide (p ≤ (k : Int)) = false := decide_eq_false h
    have e1 : wrap64 (p - (k : Int)) = p - (k : Int) := by obtain ⟨h1, h2⟩ := hp; unfold wrap64; omega
    clear hk hc hp h
    go_enter Try.func18, Try.ntmps18
    go_wp2
    go_ret
    exact ⟨congrArg (fun z => Ending.returned (.int .i64 z)) e1, rfl⟩
set_option maxHeartbeats 2000000 in
theorem gainX_any (A : Option Addr) (c : Nat) (L : List Pl2) (b p : Int) (w : World) (hl : Lies w w.heap.size A (rowQ L)) (hL : L.length ≤ 1000) (hb : Ok64 b) (hp : Ok64 p) :
    Calls Try.prog 10 #[.slice A L.length c, .int .i64 b, .int .i64 p] w fun e w' => e = .returned (.int .i64 (gainZ L b p)) ∧ Below w.heap.size w w' := by
  have eg := egK
  have F1 := hide (keeper_any A c L [b] w hl)
  have F2 := hide (fun W (h : Kp L [b] w.heap.size W) => keep1_any L [b] w.heap.size b W h (List.mem_cons_self ..) hb hL (by simp))
  have F3 := hide (fun W => gain_any L b p W hL hp)
  clear hl hL hb hp
  go_enter Try.func10, Try.ntmps10
  go_wp2_with fail
  (with_reducible refine F1.out.mono ?_)
  rintro e w1 ⟨rfl, hk, hb, _⟩
  have HK := hide hk
  have HB := hide hb
  clear hk hb F1
  go_wp2_with fail
  (go_at_fn 21; refine (F2.out _ HK.out).mono ?_; rintro e w2 ⟨rfl, hk, hg⟩)
  have HB2 := hide (HB.out.trans (below_row hg (Nat.le_succ _) HB.out.size))
  clear hk hg
  go_wp2_with fail
  (with_reducible refine (F3.out _).mono ?_)
  rintro e w3 ⟨rfl, rfl⟩
  go_wp2
  go_ret
  exact ⟨rfl, HB2.out⟩
set_option maxHeartbeats 2000000 in
theorem order_any (A B : Option Addr) (c d : Nat) (zs : List Int) (L : List Pl2) (w : World) (hz : Lies w w.heap.size A (nums .i64 zs)) (hl : Lies w w.heap.size B (rowQ L)) (he : Env L zs) (hN : zs.length < 50) :
    Calls Try.prog 11 #[.slice A zs.length c, .slice B L.length d] w fun e w' => ∃ (v : Value) (R : List Int), e = .returned v ∧ R.Perm zs ∧ (R.Pairwise fun x y => ltV L y x = false) ∧ w'.ownsRow w.heap.size 3 1 v R.length (nums .i64 R) ∧ Below w.heap.size w w' := by
  have hb0 : Below w.heap.size w (w.alloc (.cells #[.slice A zs.length c] 22)) := (Below.refl _ w).alloc (Nat.le_refl _) _
  have F0 := hide (Pk.values_any A zs.length c w)
  have F1 := hide (keeper_any B d L zs (w.alloc (.cells #[.slice A zs.length c] 22)) ((hl.below hb0).up hb0.size))
  have hq : (w.alloc (.cells #[.slice A zs.length c] 22)).heap.size = w.heap.size + 1 := by simp
  have hc0 : (w.alloc (.cells #[.slice A zs.length c] 22)).cell? ⟨w.heap.size, 0, none⟩ = some (.slice A zs.length c) := by simp
  have HZ := hide (hz.below hb0)
  have HB0 := hide hb0
  have HC0 := hide hc0
  have HE := hide he
  have Hq := hide hq
  have HN := hide hN
  generalize w.alloc (.cells #[.slice A zs.length c] 22) = w1 at *
  rw [hq] at F1
  clear hz hl he hb0 hq hc0 hN
  go_enter Try.func11, Try.ntmps11
  go_wp2_with fail
  (with_reducible refine F0.out.mono ?_)
  rintro e w1 ⟨rfl, rfl⟩
  go_wp2_with fail
  (with_reducible refine F1.out.mono ?_)
  rintro e w2 ⟨rfl, hk, hb, hs⟩
  have HK := hide hk
  have HB := hide hb
  have HS := hide hs
  have F2 := hide (ahead_any L zs (w.heap.size + 1) w2 hk hs)
  clear hk hb hs F1
  go_wp2_with fail
  (with_reducible refine F2.out.mono ?_)
  rintro e w3 ⟨rfl, hk, hb⟩
  have HB3 := hide (HB.out.trans (hb.mono (by rw [HS.out]; omega)))
  have F3 := hide (sortedFunc_cmp w.heap.size A c zs w3 ((HB3.out.cell (p := ⟨w.heap.size, 0, none⟩) (by show w.heap.size < w.heap.size + 1; omega)).trans HC0.out) (by have := hk.lt; omega) ((HZ.out.below (HB3.out.mono (Nat.le_succ _))).up (by have := hk.lt; omega)) hk HE.out (fun x h => h) HN.out)
  have H34 := hide (show w.heap.size ≤ w3.heap.size by have := hk.lt; omega)
  clear hk hb F2
  go_wp2_with fail
  (with_reducible refine F3.out.mono ?_)
  rintro e w4 ⟨v, R, rfl, h1, h2, h3, h4⟩
  have HR := hide (And.intro h1 (And.intro h2 (And.intro h3 h4)))
  obtain ⟨A2, c2, hv, _⟩ := own_form h3
  clear h1 h2 h3 h4 F3
  subst hv
  go_wp2
  go_ret
  obtain ⟨h1, h2, h3, h4⟩ := HR.out
  refine ⟨_, R, rfl, h1, h2, ⟨h3.1, ?_⟩, (HB0.out.trans (HB3.out.mono (Nat.le_succ _))).trans (h4.mono (Nat.le_succ _))⟩
  rcases h3.2 with h | ⟨g, cap, cur, hv, h5, h6⟩
  · exact .inl h
  · exact .inr ⟨g, cap, cur, hv, Nat.le_trans H34.out h5, h6⟩
end Vc
end Go.Proofs.Ytabancgcokcfdaa
