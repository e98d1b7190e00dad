/-
  LAYER 19, CONTRACT of awake of its statements. (By gen/LtT.gen.py.)
-/
import Derived.Test.YtjdaoenapmjoeaaLtS
import Derived.Test.YtjdaoenapmjoeaaLtO
import Derived.Test.YtjdaoenapmjoeaaFlow
namespace Go.Proofs.Ytjdaoenapmjoeaa
open Go.RowKit
set_option maxRecDepth 8000

def lA : List Fo := [⟨2, 0, 3, 0, 1, 1, 0, 5, 0⟩, ⟨2, 1, 3, 0, 2, 2, 0, 5, 0⟩]
theorem lA_hi : hiO lA = 2 := by decide
theorem lA_broken : brokenO lA = true := by decide +kernel
theorem lA_void : voidO lA [] = [2] := by decide +kernel
theorem lA_list : listV (voidO lA []) lA = [2] := by decide +kernel
theorem lA_ok : ∀ f ∈ lA, f.Ok := by
  intro f hf
  simp only [lA, List.mem_cons, List.not_mem_nil, or_false] at hf
  rcases hf with rfl | rfl <;> (unfold Fo.Ok; dsimp only; omega)
theorem lA_group (lp : Int) : groupO (voidO lA []) lA lA lp = if lp = 5 then [⟨2, 0, 3, 0, 1, 1, 0, 5, 0⟩] else [] := by
  rw [lA_void]
  unfold groupO
  have h1 : wantO [2] lA ⟨2, 0, 3, 0, 1, 1, 0, 5, 0⟩ = true := by decide
  have h2 : wantO [2] lA ⟨2, 1, 3, 0, 2, 2, 0, 5, 0⟩ = false := by decide
  unfold lA at *
  rw [List.filter_cons, List.filter_cons, List.filter_nil, h1, h2]
  by_cases h : lp = 5
  · subst h; simp
  · have h3 : ¬ (5 : Int) = lp := fun e => h e.symm
    simp [h, h3]
theorem lA_ats : atsO [(⟨2, 0, 3, 0, 1, 1, 0, 5, 0⟩ : Fo)] = [(2, 0)] := by
  have h := sortO_len [(⟨2, 0, 3, 0, 1, 1, 0, 5, 0⟩ : Fo)]
  unfold atsO
  have h2 : sortO [(⟨2, 0, 3, 0, 1, 1, 0, 5, 0⟩ : Fo)] = [⟨2, 0, 3, 0, 1, 1, 0, 5, 0⟩] := by decide +kernel
  rw [h2]; rfl
/-- What awake knows ahead of its last region. -/
structure AwL (w : World) (g : Nat) (ad ta av : Addr) (tc : Nat) (W : World) : Prop where
  row : Lies W W.heap.size (some ⟨g, 0, none⟩) (rowO lA)
  c2' : ad.block < W.heap.size ∧ W.cell? ⟨ad.block, ad.off + 2, none⟩ = some (.slice (some ta) 1 tc)
  x0' : ta.block < W.heap.size ∧ W.cell? ta = some (.int .i64 2) ∧ W.cell? ⟨ta.block, ta.off + 1, none⟩ = some (.int .i64 0)
  v0' : av.block < W.heap.size ∧ W.cell? av = some (.int .u64 2)
  below : Below w.heap.size w W
section
variable {w W W' : World} {g : Nat} {ad ta av : Addr} {tc : Nat}
theorem AwL.next (h : AwL w g ad ta av tc W) (hb : Below W.heap.size W W') : AwL w g ad ta av tc W' where
  row := (h.row.below hb).up hb.size
  c2' := ⟨Nat.lt_of_lt_of_le h.c2'.1 hb.size, (hb.cell (p := ⟨ad.block, ad.off + 2, none⟩) h.c2'.1).trans h.c2'.2⟩
  x0' := ⟨Nat.lt_of_lt_of_le h.x0'.1 hb.size, (hb.cell (p := ta) h.x0'.1).trans h.x0'.2.1, (hb.cell (p := ⟨ta.block, ta.off + 1, none⟩) h.x0'.1).trans h.x0'.2.2⟩
  v0' := ⟨Nat.lt_of_lt_of_le h.v0'.1 hb.size, (hb.cell (p := av) h.v0'.1).trans h.v0'.2⟩
  below := h.below.trans (hb.mono h.below.size)
theorem AwL.c2 (h : AwL w g ad ta av tc W) : W.cell? ⟨ad.block, ad.off + 2, none⟩ = some (.slice (some ta) 1 tc) := h.c2'.2
theorem AwL.x0 (h : AwL w g ad ta av tc W) : W.cell? ta = some (.int .i64 2) := h.x0'.2.1
theorem AwL.x1 (h : AwL w g ad ta av tc W) : W.cell? ⟨ta.block, ta.off + 1, none⟩ = some (.int .i64 0) := h.x0'.2.2
theorem AwL.v0 (h : AwL w g ad ta av tc W) : W.cell? av = some (.int .u64 2) := h.v0'.2
theorem AwL.broken (h : AwL w g ad ta av tc W) : Calls Try.prog 14 #[.slice (some ⟨g, 0, none⟩) 2 2] W fun e w' => e = .returned (.bool true) ∧ Below W.heap.size W w' := by
  have := broken_any (some ⟨g, 0, none⟩) 2 2 W.heap.size lA W h.row (Nat.le_refl _) rfl (by decide)
  rw [lA_broken] at this
  exact this
end
/-- What Versions tells of awake's finds. -/
theorem Vr.one {w W : World} {A : Option Addr} {R : List Te} (h : Vr w (groupO (voidO lA []) lA lA) A R W) : R.length = 1 ∧ ∃ (ad ta : Addr) (tc : Nat), A = some ad ∧ (ad.block < W.heap.size ∧ W.cell? ⟨ad.block, ad.off + 2, none⟩ = some (.slice (some ta) 1 tc)) ∧ (ta.block < W.heap.size ∧ W.cell? ta = some (.int .i64 2) ∧ W.cell? ⟨ta.block, ta.off + 1, none⟩ = some (.int .i64 0)) := by
  have hk := fun lp => h.keys lp
  simp only [lA_group] at hk
  obtain ⟨t, rfl⟩ : ∃ t, R = [t] := by
    have h5 := (hk 5).1 (by simp)
    cases R with
    | nil => simp at h5
    | cons t R =>
      cases R with
      | nil => exact ⟨t, rfl⟩
      | cons t2 R =>
        have e1 := (hk t.lp).2 (by simp)
        have e2 := (hk t2.lp).2 (by simp)
        have hs := h.sorted
        have h12 : t.lp < t2.lp := by simp at hs; exact hs.1.1
        have e1' : t.lp = 5 := by by_cases h : t.lp = 5 <;> simp_all
        have e2' : t2.lp = 5 := by by_cases h : t2.lp = 5 <;> simp_all
        omega
  have e5 : t.lp = 5 := by
    have e1 := (hk t.lp).2 (by simp)
    by_cases h : t.lp = 5 <;> simp_all
  obtain ⟨_, hn, hlt, hc⟩ := h.each t (by simp)
  rw [lA_group, e5, if_pos rfl] at hn hc
  rw [lA_ats] at hc
  rcases h.lies with hx | ⟨ad, rfl, hb, hcc⟩
  · simp [Te.cells] at hx
  · refine ⟨rfl, ad, t.a, t.c, rfl, ⟨hb, ?_⟩, hlt, ?_, ?_⟩
    · have := hcc 2 _ (show ([t].flatMap Te.cells)[2]? = some _ from rfl)
      rw [hn] at this
      exact fo_at this
    · have := hc 0 _ rfl
      rwa [show t.a.add 0 = t.a by simp [Addr.add]] at this
    · exact fo_at (hc 1 _ rfl)
set_option maxHeartbeats 8000000 in
theorem awake19_any (w : World) : Calls Try.prog 5 #[] w fun e w' => e = .returned (.bool true) ∧ Below w.heap.size w w' := by
  have FA := hide (fun x y W => at19_any x y W)
  have hlr : rowO lA = [.int .i64 2, .int .i64 0, .int .i64 3, .int .i64 0, .int .i64 1, .int .u64 1, .int .u64 0, .int .i64 5, .int .i64 0, .int .i64 2, .int .i64 1, .int .i64 3, .int .i64 0, .int .i64 2, .int .u64 2, .int .u64 0, .int .i64 5, .int .i64 0] := rfl
  go_enter Try.func5, Try.ntmps5
  go_wp2_with fail
  (with_reducible refine (FA.out 2 0 _).mono ?_)
  rintro e w1 ⟨rfl, hb1⟩
  go_wp2_with fail
  (with_reducible refine (FA.out 2 1 _).mono ?_)
  rintro e w2 ⟨rfl, hb2⟩
  have HB2 := hide (hb1.trans (hb2.mono hb1.size))
  clear hb1 hb2 FA
  have HB3 := hide (HB2.out.alloc HB2.out.size (.cells #[.int .i64 2, .int .i64 0, .int .i64 3, .int .i64 0, .int .i64 1, .int .u64 1, .int .u64 0, .int .i64 5, .int .i64 0, .int .i64 2, .int .i64 1, .int .i64 3, .int .i64 0, .int .i64 2, .int .u64 2, .int .u64 0, .int .i64 5, .int .i64 0] 34))
  have HL3 := hide (show Lies (w2.alloc (.cells #[.int .i64 2, .int .i64 0, .int .i64 3, .int .i64 0, .int .i64 1, .int .u64 1, .int .u64 0, .int .i64 5, .int .i64 0, .int .i64 2, .int .i64 1, .int .i64 3, .int .i64 0, .int .i64 2, .int .u64 2, .int .u64 0, .int .i64 5, .int .i64 0] 34)) (w2.heap.size + 1) (some ⟨w2.heap.size, 0, none⟩) (rowO lA) from Lies.new w2 _ _ (0, 0) _ (Nat.lt_succ_self _))
  have HS3 : Hid ((w2.alloc (.cells #[.int .i64 2, .int .i64 0, .int .i64 3, .int .i64 0, .int .i64 1, .int .u64 1, .int .u64 0, .int .i64 5, .int .i64 0, .int .i64 2, .int .i64 1, .int .i64 3, .int .i64 0, .int .i64 2, .int .u64 2, .int .u64 0, .int .i64 5, .int .i64 0] 34)).heap.size = w2.heap.size + 1) := hide (by simp)
  clear hlr
  go_wp2_with fail
  generalize w2.alloc (.cells #[.int .i64 2, .int .i64 0, .int .i64 3, .int .i64 0, .int .i64 1, .int .u64 1, .int .u64 0, .int .i64 5, .int .i64 0, .int .i64 2, .int .i64 1, .int .i64 3, .int .i64 0, .int .i64 2, .int .u64 2, .int .u64 0, .int .i64 5, .int .i64 0] 34) = w3 at *
  rw [← HS3.out] at HL3
  clear HS3 HB2
  generalize w2.heap.size = g at *
  have FV := hide (versions_any (some ⟨g, 0, none⟩) none 2 2 0 0 w3.heap.size lA [] w3 HL3.out Lies.nil (Nat.le_refl _) rfl rfl (by decide) (by decide) lA_ok)
  (with_reducible refine FV.out.mono ?_)
  rintro e w4 ⟨A3, c3, R, rfl, hR⟩
  obtain ⟨e1, ad, ta, tc, rfl, q1, q2⟩ := hR.one
  rw [e1]
  have Q := hide (And.intro q1 q2)
  have HB4 := hide (HB3.out.trans (hR.below.mono HB3.out.size))
  have HL4 := hide ((HL3.out.below hR.below).up hR.below.size)
  clear e1 q1 q2 hR FV HB3 HL3
  have FH := high_any (some ⟨g, 0, none⟩) 2 2 w4.heap.size lA w4 HL4.out (Nat.le_refl _) rfl (by decide)
  rw [lA_hi, show decide (0 < 2) = true from rfl] at FH
  have FH := hide FH
  go_wp2_with fail
  (with_reducible refine FH.out.mono ?_)
  rintro e w5 ⟨rfl, hb5⟩
  have FD := hide (void_one (some ⟨g, 0, none⟩) none 2 2 0 0 w5.heap.size lA [] 2 w5 ((HL4.out.below hb5).up hb5.size) Lies.nil (Nat.le_refl _) rfl rfl (by decide) (by decide) lA_list)
  have HB5 := hide hb5
  clear FH hb5
  go_wp2_with fail
  (with_reducible refine FD.out.mono ?_)
  rintro e w6 ⟨A5, c5, rfl, hL5, hb6⟩
  have h46 := HB5.out.trans (hb6.mono HB5.out.size)
  have HS0 : ∃ av, A5 = some av ∧ AwL w g ad ta av tc w6 := by
    rcases hL5 with hx | ⟨av, rfl, hlt, hcv⟩
    · cases hx
    · refine ⟨av, rfl, (HL4.out.below h46).up h46.size, ⟨Nat.lt_of_lt_of_le Q.out.1.1 h46.size, (h46.cell (p := ⟨ad.block, ad.off + 2, none⟩) Q.out.1.1).trans Q.out.1.2⟩, ⟨Nat.lt_of_lt_of_le Q.out.2.1 h46.size, (h46.cell (p := ta) Q.out.2.1).trans Q.out.2.2.1, (h46.cell (p := ⟨ta.block, ta.off + 1, none⟩) Q.out.2.1).trans Q.out.2.2.2⟩, ⟨hlt, ?_⟩, HB4.out.trans (h46.mono HB4.out.size)⟩
      have := hcv 0 _ rfl
      rwa [show av.add 0 = av by simp [Addr.add]] at this
  obtain ⟨av, rfl, hS⟩ := HS0
  have HS := hide hS
  clear hS h46 hL5 hb6 HB5 FD HL4 HB4 Q
  go_upto_region 5 with fail
  have Hb1 := hide HS.out.below
  refine wp_region_flow (by kernel_rfl) (fun d => if d = 0 then is (.bool true) else List.getD [is (.slice (some ad) 1 c3), is (.int .i64 1), is (.bool true), is (.bool true), is (.slice (some ad) 1 c3), is (.pointer (some ad)), is (.pointer (some ⟨ad.block, ad.off + 2, none⟩)), is (.slice (some ta) 1 tc), is (.pointer (some ta)), is (.agg #[.int .i64 2, .int .i64 0]), is (.agg #[.int .i64 2, .int .i64 0]), is (.bool true), is (.bool true), is (.bool true), is (.int .u64 2), is (.bool true), is (.bool true), is (.bool true), is (.bool true), is (.bool true), is (.bool true), is (.slice (some ⟨g, 0, none⟩) 2 2), is (.bool true), is (.bool true), is (.bool true), is (.slice (some av) 1 c5), is (.int .i64 1), is (.bool true), is (.bool true), is (.bool true), is (.slice (some av) 1 c5), is (.pointer (some av)), is (.int .u64 2), is (.bool true), is (.bool true)] (d - 22) (fun _ _ => True)) 0 (by kernel_rfl) (by kernel_rfl) ?_ ?_
  · refine And.intro ?_ (And.intro ?_ (And.intro ?_ (And.intro ?_ (And.intro ?_ (And.intro ?_ (And.intro ?_ (And.intro ?_ (And.intro ?_ (And.intro ?_ (And.intro ?_ (And.intro ?_ (And.intro ?_ (And.intro ?_ (And.intro ?_ (And.intro ?_ (And.intro ?_ (And.intro ?_ (And.intro ?_ (And.intro ?_ (And.intro ?_ (And.intro ?_ (And.intro ?_ (And.intro ?_ (And.intro ?_ (And.intro ?_ (And.intro ?_ (And.intro ?_ (And.intro ?_ (And.intro ?_ (And.intro ?_ (And.intro ?_ (And.intro ?_ (And.intro ?_ (And.intro ?_ (And.intro ?_ trivial)))))))))))))))))))))))))))))))))))
    · intro a w hb h
      have e2 : a.tmps.getD 2 undef = .slice (some ad) 1 c3 := sb h 2 (by kernel_rfl) (by kernel_rfl) rfl
      exact .val (want0 rfl) rfl (by simp [Act.eval, e2, go_sem]) (Keeps.is rfl)
    · intro a w hb h
      have e22 := (sw h 22 (by kernel_rfl) (by kernel_rfl)).eq
      exact .val (want0 rfl) rfl (by simp [Act.eval, e22, go_sem]) (Keeps.is rfl)
    · intro a w hb h
      have e23 := (sw h 23 (by kernel_rfl) (by kernel_rfl)).eq
      exact .val (want0 rfl) rfl (by simp [Act.eval, e23, go_sem]) (Keeps.is rfl)
    · intro a w hb h
      have e24 := (sw h 24 (by kernel_rfl) (by kernel_rfl)).eq
      exact .val (want0 rfl) rfl (by simp [Act.eval, e24, go_sem]) (Keeps.is rfl)
    · intro a w hb h
      have eg := (sw h 25 (by kernel_rfl) (by kernel_rfl)).eq
      have e2 : a.tmps.getD 2 undef = .slice (some ad) 1 c3 := sb h 2 (by kernel_rfl) (by kernel_rfl) rfl
      exact .val (wantg rfl (by kernel_rfl) eg) rfl (by simp [Act.eval, e2, go_sem]) (Keeps.is rfl)
    · intro a w hb h
      have eg := (sw h 25 (by kernel_rfl) (by kernel_rfl)).eq
      have e26 := (sw h 26 (by kernel_rfl) (by kernel_rfl)).eq
      exact .val (wantg rfl (by kernel_rfl) eg) rfl (by simp [Act.eval, e26, go_sem]) (Keeps.is rfl)
    · intro a w hb h
      have eg := (sw h 25 (by kernel_rfl) (by kernel_rfl)).eq
      have e27 := (sw h 27 (by kernel_rfl) (by kernel_rfl)).eq
      exact .val (wantg rfl (by kernel_rfl) eg) rfl (by simp [Act.eval, e27, go_sem]) (Keeps.is rfl)
    · intro a w hb h
      have eg := (sw h 25 (by kernel_rfl) (by kernel_rfl)).eq
      have e28 := (sw h 28 (by kernel_rfl) (by kernel_rfl)).eq
      have hS := HS.out.next hb
      have c2 := hS.c2
      exact .val (wantg rfl (by kernel_rfl) eg) rfl (by simp [Act.eval, e28, c2, go_sem]) (Keeps.is rfl)
    · intro a w hb h
      have eg := (sw h 25 (by kernel_rfl) (by kernel_rfl)).eq
      have e29 := (sw h 29 (by kernel_rfl) (by kernel_rfl)).eq
      exact .val (wantg rfl (by kernel_rfl) eg) rfl (by simp [Act.eval, e29, go_sem]) (Keeps.is rfl)
    · intro a w hb h
      have eg := (sw h 25 (by kernel_rfl) (by kernel_rfl)).eq
      have e30 := (sw h 30 (by kernel_rfl) (by kernel_rfl)).eq
      have hS := HS.out.next hb
      have x0 := hS.x0
      have x1 := hS.x1
      exact .val (wantg rfl (by kernel_rfl) eg) rfl (by simp [Act.eval, e30, x0, x1, go_sem]) (Keeps.is rfl)
    · intro a w hb h
      have eg := (sw h 25 (by kernel_rfl) (by kernel_rfl)).eq
      exact .called (wantg rfl (by kernel_rfl) eg) rfl (by simp [go_sem]) (belowF (at19_any 2 0 w))
    · intro a w hb h
      have eg := (sw h 25 (by kernel_rfl) (by kernel_rfl)).eq
      have e31 := (sw h 31 (by kernel_rfl) (by kernel_rfl)).eq
      have e32 := (sw h 32 (by kernel_rfl) (by kernel_rfl)).eq
      exact .val (wantg rfl (by kernel_rfl) eg) rfl (by simp [Act.eval, e31, e32, go_sem]) (Keeps.is rfl)
    · intro a w hb h
      have e25 := (sw h 25 (by kernel_rfl) (by kernel_rfl)).eq
      have e33 := (sw h 33 (by kernel_rfl) (by kernel_rfl)).eq
      exact .val (want0 rfl) rfl (by simp [Act.eval, e25, e33, go_sem]) (Keeps.is rfl)
    · intro a w hb h
      have e34 := (sw h 34 (by kernel_rfl) (by kernel_rfl)).eq
      exact .val (want0 rfl) rfl (by simp [Act.eval, e34, go_sem]) (Keeps.is rfl)
    · intro a w hb h
      have eg := (sw h 35 (by kernel_rfl) (by kernel_rfl)).eq
      have e3 : a.tmps.getD 3 undef = .int .u64 2 := sb h 3 (by kernel_rfl) (by kernel_rfl) rfl
      exact .val (wantg rfl (by kernel_rfl) eg) rfl (by simp [Act.eval, e3, go_sem]) (Keeps.is rfl)
    · intro a w hb h
      have eg := (sw h 35 (by kernel_rfl) (by kernel_rfl)).eq
      have e36 := (sw h 36 (by kernel_rfl) (by kernel_rfl)).eq
      exact .val (wantg rfl (by kernel_rfl) eg) rfl (by simp [Act.eval, e36, go_sem]) (Keeps.is rfl)
    · intro a w hb h
      have e35 := (sw h 35 (by kernel_rfl) (by kernel_rfl)).eq
      have e37 := (sw h 37 (by kernel_rfl) (by kernel_rfl)).eq
      exact .val (want0 rfl) rfl (by simp [Act.eval, e35, e37, go_sem]) (Keeps.is rfl)
    · intro a w hb h
      have e38 := (sw h 38 (by kernel_rfl) (by kernel_rfl)).eq
      exact .val (want0 rfl) rfl (by simp [Act.eval, e38, go_sem]) (Keeps.is rfl)
    · intro a w hb h
      have eg := (sw h 39 (by kernel_rfl) (by kernel_rfl)).eq
      have e4 : a.tmps.getD 4 undef = .bool true := sb h 4 (by kernel_rfl) (by kernel_rfl) rfl
      exact .val (wantg rfl (by kernel_rfl) eg) rfl (by simp [Act.eval, e4, go_sem]) (Keeps.is rfl)
    · intro a w hb h
      have e39 := (sw h 39 (by kernel_rfl) (by kernel_rfl)).eq
      have e40 := (sw h 40 (by kernel_rfl) (by kernel_rfl)).eq
      exact .val (want0 rfl) rfl (by simp [Act.eval, e39, e40, go_sem]) (Keeps.is rfl)
    · intro a w hb h
      have e41 := (sw h 41 (by kernel_rfl) (by kernel_rfl)).eq
      exact .val (want0 rfl) rfl (by simp [Act.eval, e41, go_sem]) (Keeps.is rfl)
    · intro a w hb h
      have eg := (sw h 42 (by kernel_rfl) (by kernel_rfl)).eq
      have e1 : a.tmps.getD 1 undef = .slice (some ⟨g, 0, none⟩) 2 2 := sb h 1 (by kernel_rfl) (by kernel_rfl) rfl
      exact .val (wantg rfl (by kernel_rfl) eg) rfl (by simp [Act.eval, e1, go_sem]) (Keeps.is rfl)
    · intro a w hb h
      have eg := (sw h 42 (by kernel_rfl) (by kernel_rfl)).eq
      have e43 := (sw h 43 (by kernel_rfl) (by kernel_rfl)).eq
      have hS := HS.out.next hb
      exact .called (wantg rfl (by kernel_rfl) eg) rfl (by simp [Act.eval, e43, go_sem]) (belowF hS.broken)
    · intro a w hb h
      have e42 := (sw h 42 (by kernel_rfl) (by kernel_rfl)).eq
      have e44 := (sw h 44 (by kernel_rfl) (by kernel_rfl)).eq
      exact .val (want0 rfl) rfl (by simp [Act.eval, e42, e44, go_sem]) (Keeps.is rfl)
    · intro a w hb h
      have e45 := (sw h 45 (by kernel_rfl) (by kernel_rfl)).eq
      exact .val (want0 rfl) rfl (by simp [Act.eval, e45, go_sem]) (Keeps.is rfl)
    · intro a w hb h
      have eg := (sw h 46 (by kernel_rfl) (by kernel_rfl)).eq
      have e5 : a.tmps.getD 5 undef = .slice (some av) 1 c5 := sb h 5 (by kernel_rfl) (by kernel_rfl) rfl
      exact .val (wantg rfl (by kernel_rfl) eg) rfl (by simp [Act.eval, e5, go_sem]) (Keeps.is rfl)
    · intro a w hb h
      have eg := (sw h 46 (by kernel_rfl) (by kernel_rfl)).eq
      have e47 := (sw h 47 (by kernel_rfl) (by kernel_rfl)).eq
      exact .val (wantg rfl (by kernel_rfl) eg) rfl (by simp [Act.eval, e47, go_sem]) (Keeps.is rfl)
    · intro a w hb h
      have eg := (sw h 46 (by kernel_rfl) (by kernel_rfl)).eq
      have e48 := (sw h 48 (by kernel_rfl) (by kernel_rfl)).eq
      exact .val (wantg rfl (by kernel_rfl) eg) rfl (by simp [Act.eval, e48, go_sem]) (Keeps.is rfl)
    · intro a w hb h
      have e46 := (sw h 46 (by kernel_rfl) (by kernel_rfl)).eq
      have e49 := (sw h 49 (by kernel_rfl) (by kernel_rfl)).eq
      exact .val (want0 rfl) rfl (by simp [Act.eval, e46, e49, go_sem]) (Keeps.is rfl)
    · intro a w hb h
      have e50 := (sw h 50 (by kernel_rfl) (by kernel_rfl)).eq
      exact .val (want0 rfl) rfl (by simp [Act.eval, e50, go_sem]) (Keeps.is rfl)
    · intro a w hb h
      have eg := (sw h 51 (by kernel_rfl) (by kernel_rfl)).eq
      have e5 : a.tmps.getD 5 undef = .slice (some av) 1 c5 := sb h 5 (by kernel_rfl) (by kernel_rfl) rfl
      exact .val (wantg rfl (by kernel_rfl) eg) rfl (by simp [Act.eval, e5, go_sem]) (Keeps.is rfl)
    · intro a w hb h
      have eg := (sw h 51 (by kernel_rfl) (by kernel_rfl)).eq
      have e52 := (sw h 52 (by kernel_rfl) (by kernel_rfl)).eq
      exact .val (wantg rfl (by kernel_rfl) eg) rfl (by simp [Act.eval, e52, go_sem]) (Keeps.is rfl)
    · intro a w hb h
      have eg := (sw h 51 (by kernel_rfl) (by kernel_rfl)).eq
      have e53 := (sw h 53 (by kernel_rfl) (by kernel_rfl)).eq
      have hS := HS.out.next hb
      have v0 := hS.v0
      exact .val (wantg rfl (by kernel_rfl) eg) rfl (by simp [Act.eval, e53, v0, go_sem]) (Keeps.is rfl)
    · intro a w hb h
      have eg := (sw h 51 (by kernel_rfl) (by kernel_rfl)).eq
      have e54 := (sw h 54 (by kernel_rfl) (by kernel_rfl)).eq
      exact .val (wantg rfl (by kernel_rfl) eg) rfl (by simp [Act.eval, e54, go_sem]) (Keeps.is rfl)
    · intro a w hb h
      have e51 := (sw h 51 (by kernel_rfl) (by kernel_rfl)).eq
      have e55 := (sw h 55 (by kernel_rfl) (by kernel_rfl)).eq
      exact .val (want0 rfl) rfl (by simp [Act.eval, e51, e55, go_sem]) (Keeps.is rfl)
    · intro a w hb h
      have e56 := (sw h 56 (by kernel_rfl) (by kernel_rfl)).eq
      exact .val (want0 rfl) rfl (by simp [Act.eval, e56, go_sem]) (Keeps.is rfl)
  · intro a w2 hd hb hv
    have er := hv.eq
    clear hv
    simp only [Exit.then]
    go_wp2
    exact ⟨hd, _, results_tmp rfl _ _ _, by rw [er], Hb1.out.trans (hb.mono Hb1.out.size)⟩
end Go.Proofs.Ytjdaoenapmjoeaa
