/-
  CONTRACTS of package be, third part: the reader (stop, take, N, Over).
  A string of bytes as bytes. (Cut out of PgV.)
-/
import Derived.Test.YtigpplckddnghaaGreatMakes
import Derived.Test.YtigpplckddnghaaGreatBits
import Derived.Laws.Strings2
import Derived.Deep.AppendLies
namespace Go.Proofs.YtigpplckddnghaaGreat
section
open Go.RowKit
set_option maxRecDepth 8000

/-- Block g is a reader, of whose bytes l are left; s: it is short. -/
def Rdr (w : World) (g : Nat) (l : List UInt8) (s : Bool) : Prop :=
  ∃ A n c, w.heap[g]? = some (.cells #[.slice A n c, .bool s] 196 (0, 0)) ∧ n = l.length ∧ n ≤ c ∧ c ≤ maxLen ∧ n ≤ 140737488350000 ∧ Lies w g A (bys l)

theorem stop_any (g : Nat) (v x : Value) (w : World) (hg : w.heap[g]? = some (.cells #[v, x] 196 (0, 0))) :
    Calls Tryz.prog 152 #[.pointer (some ⟨g, 0, none⟩)] w fun e w' => e = .returned (.tuple #[]) ∧ w'.heap[g]? = some (.cells #[.slice none 0 0, .bool true] 196 (0, 0)) ∧ w.grownBy w' (some g) := by
  have h0 : w.cell? ⟨g, 0, none⟩ = some v := by simp [World.cell?, hg]
  have h1 : w.cell? ⟨g, 1, none⟩ = some x := by simp [World.cell?, hg]
  have f0 : w.frozen? ⟨g, 0, none⟩ = false := by simp [World.frozen?, hg]
  have f1 : w.frozen? ⟨g, 1, none⟩ = false := by simp [World.frozen?, hg]
  have Hg := hide hg
  clear hg
  go_enter Tryz.func152, Tryz.ntmps152
  go_wp2
  go_end0
  refine ⟨rfl, ?_, ?_⟩
  · rw [heap_setCell_same _ g 1 _ _ _ (heap_setCell_same w g 0 _ _ _ Hg.out)]
    rfl
  · exact grown_set (grown_set (World.grownBy.refl w (some g)) ⟨g, 0, none⟩ rfl _) ⟨g, 1, none⟩ rfl _

/-- What a call takes off a reader: the bytes, what is left, whether it is short. -/
def took (l : List UInt8) (s : Bool) (n : Int) : List UInt8 × List UInt8 × Bool :=
  if 0 ≤ n ∧ n ≤ l.length then (l.take n.toNat, l.drop n.toNat, s) else ([], [], true)

theorem took_len (l : List UInt8) (s : Bool) (n : Int) : (took l s n).1.length ≤ l.length := by
  unfold took; split <;> simp
  omega

/-- How 'take' ends. -/
def TakeEnd (w : World) (g : Nat) (l : List UInt8) (s : Bool) (n : Int) (e : Ending) (w' : World) : Prop :=
  ∃ A m c, e = .returned (.slice A m c) ∧ m = (took l s n).1.length ∧ Lies w' g A (bys (took l s n).1) ∧ Rdr w' g (took l s n).2.1 (took l s n).2.2 ∧ w.grownBy w' (some g)

set_option maxHeartbeats 400000 in
theorem take_any (g : Nat) (l : List UInt8) (s : Bool) (n : Int) (w : World) (hr : Rdr w g l s) (hn0 : -9223372036854775808 ≤ n) (hn1 : n ≤ 9223372036854775807) :
    Calls Tryz.prog 154 #[.pointer (some ⟨g, 0, none⟩), .int .i64 n] w (TakeEnd w g l s n) := by
  obtain ⟨A, k, c, hg, hk, hkc, hcm, hc47, hl⟩ := hr
  have h0 : w.cell? ⟨g, 0, none⟩ = some (.slice A k c) := by simp [World.cell?, hg]
  have f0 : w.frozen? ⟨g, 0, none⟩ = false := by simp [World.frozen?, hg]
  have Hg := hide hg
  have Hl := hide hl
  have Hk := hide hk
  clear hg hl hk
  by_cases hin : 0 ≤ n ∧ n ≤ (k : Int)
  · have e : took l s n = (l.take n.toNat, l.drop n.toNat, s) := by unfold took; rw [if_pos (by rw [← Hk.out]; exact hin)]
    have He := hide e
    clear e
    obtain ⟨m, rfl⟩ := Int.eq_ofNat_of_zero_le hin.1
    have hm : m ≤ k := by omega
    have hm' : ¬ (m : Int) > (k : Int) := by omega
    have hn' : ¬ (m : Int) < 0 := by omega
    clear hin
    have Hd := hide (Hl.out.drop m c (by rw [bys_len, ← Hk.out]; exact hkc))
    have fin : ∀ A2, (if c = m then A else A.map (·.add m)) = A2 →
        TakeEnd w g l s m (.returned (.slice A m c)) (w.setCell ⟨g, 0, none⟩ (.slice A2 (k - m) (c - m))) := by
      rintro A2 rfl
      have hgr : w.grownBy (w.setCell ⟨g, 0, none⟩ (.slice (if c = m then A else A.map (·.add m)) (k - m) (c - m))) (some g) := grown_set (World.grownBy.refl w (some g)) ⟨g, 0, none⟩ rfl _
      have hgl := lt_of_block Hg.out
      refine ⟨A, m, c, rfl, ?_, ?_, ⟨(if c = m then A else A.map (·.add m)), k - m, c - m, ?_, ?_, by omega, by omega, by omega, ?_⟩, hgr⟩
      · rw [He.out]; simp; have := Hk.out; omega
      · rw [He.out]
        exact ((bys_take l m ▸ Hl.out.take m : Lies w g A (bys (l.take m)))).grown hgr (Nat.le_refl _) (by omega)
      · rw [He.out, heap_setCell_same w g 0 _ _ _ Hg.out]; rfl
      · rw [He.out]; simp; have := Hk.out; omega
      · rw [He.out]
        exact ((bys_drop l m ▸ Hd.out : Lies w g (if c = m then A else A.map (·.add m)) (bys (l.drop m)))).grown hgr (Nat.le_refl _) (by omega)
    have Hfin := hide fin
    clear fin
    go_enter Tryz.func154, Tryz.ntmps154
    go_wp2
    · go_ret
      have := Hfin.out A (if_pos h)
      rw [h] at this
      simpa using this
    · go_ret
      exact Hfin.out _ (if_neg h)
  · have e : took l s n = ([], [], true) := by unfold took; rw [if_neg (by rw [← Hk.out]; exact hin)]
    have He := hide e
    clear e
    by_cases hneg : n < 0
    all_goals
      first
      | have hgt : (k : Int) < n := by omega
      | skip
      go_enter Tryz.func154, Tryz.ntmps154
      go_wp2_with fail
      refine (stop_any g _ _ _ Hg.out).mono ?_
      rintro e w1 ⟨rfl, hg1, hgr⟩
      have Hg1 := hide hg1
      clear hg1
      go_wp2
      go_ret
      refine ⟨none, 0, 0, rfl, ?_⟩
      rw [He.out]
      exact ⟨rfl, Lies.nil, ⟨none, 0, 0, Hg1.out, rfl, Nat.le_refl _, Nat.zero_le _, Nat.zero_le _, Lies.nil⟩, hgr⟩

/-- N. -/
def NEnd (w : World) (g : Nat) (l : List UInt8) (s : Bool) (n : Int) (e : Ending) (w' : World) : Prop :=
  ∃ x : Nat, e = .returned (.int .u64 (x : Int)) ∧ ((1 ≤ n ∧ n ≤ 8 ∧ n ≤ l.length ∧ x = numAt l 0 n.toNat ∧ Rdr w' g (l.drop n.toNat) s) ∨ (¬ (1 ≤ n ∧ n ≤ 8 ∧ n ≤ l.length) ∧ x = 0 ∧ Rdr w' g [] true)) ∧ w.grownBy w' (some g)

theorem numAt_take (l : List UInt8) (k : Nat) : ∀ w, w ≤ k → numAt (l.take k) 0 w = numAt l 0 w
  | 0, _ => rfl
  | w + 1, h => by
    rw [numAt, numAt, numAt_take l k w (by omega)]
    congr 1
    rw [show ((0 : Int) + (w : Int)) = ((w : Nat) : Int) by omega, byteAt_nat, byteAt_nat]
    rw [List.getD_eq_getElem?_getD, List.getD_eq_getElem?_getD, List.getElem?_take, if_pos (by omega)]

set_option maxHeartbeats 400000 in
theorem n_any (g : Nat) (l : List UInt8) (s : Bool) (n : Int) (w : World) (hr : Rdr w g l s) (hn0 : -9223372036854775808 ≤ n) (hn1 : n ≤ 9223372036854775807) :
    Calls Tryz.prog 124 #[.pointer (some ⟨g, 0, none⟩), .int .i64 n] w (NEnd w g l s n) := by
  have Hr := hide hr
  obtain ⟨A, k, c, hg, hk, hkc, hcm, hc47, hl⟩ := hr
  have Hg := hide hg
  have Hk := hide hk
  clear hg hl hk
  by_cases h1 : 1 ≤ n ∧ n ≤ 8
  · have h1' := h1.1
    have h8' := h1.2
    go_enter Tryz.func124, Tryz.ntmps124
    go_wp2_with fail
    refine (take_any g l s n _ Hr.out hn0 hn1).mono ?_
    rintro e w1 ⟨A1, m1, c1, rfl, hm1, hl1, hr1, hgr⟩
    have Hm1 := hide hm1
    have Hl1 := hide hl1
    have Hr1 := hide hr1
    clear hm1 hl1 hr1
    go_wp2_with fail
    refine (get_any A1 m1 c1 g (took l s n).1 0 n _ Hl1.out Hm1.out (by have := Hm1.out; have := took_len l s n; have := Hk.out; omega) (by omega) (by omega)).mono ?_
    rintro e w2 ⟨rfl, rfl⟩
    go_wp2
    go_ret
    refine ⟨_, rfl, ?_, hgr⟩
    have e8 : (min (max n 0) 8).toNat = n.toNat := by omega
    have h3 := Hr1.out
    rw [e8]
    by_cases hin : n ≤ l.length
    · have e : took l s n = (l.take n.toNat, l.drop n.toNat, s) := if_pos ⟨by omega, hin⟩
      rw [e] at h3 ⊢
      exact .inl ⟨h1', h8', hin, numAt_take l _ _ (Nat.le_refl _), h3⟩
    · have e : took l s n = ([], [], true) := if_neg (fun h => hin h.2)
      rw [e] at h3 ⊢
      exact .inr ⟨fun h => hin h.2.2, numAt_out [] 0 (.inr (by simp)) _ (by omega), h3⟩
  · have hbad : ¬ (1 ≤ n ∧ n ≤ 8 ∧ n ≤ (l.length : Int)) := fun h => h1 ⟨h.1, h.2.1⟩
    have Hbad := hide hbad
    clear hbad
    by_cases h2 : n < 1
    all_goals
      first
      | have h3 : 8 < n := by omega
      | skip
      clear h1
      go_enter Tryz.func124, Tryz.ntmps124
      go_wp2_with fail
      refine (stop_any g _ _ _ Hg.out).mono ?_
      rintro e w1 ⟨rfl, hg1, hgr⟩
      have Hg1 := hide hg1
      clear hg1
      go_wp2
      go_ret
      exact ⟨0, rfl, .inr ⟨Hbad.out, rfl, ⟨none, 0, 0, Hg1.out, rfl, Nat.le_refl _, Nat.zero_le _, Nat.zero_le _, Lies.nil⟩⟩, hgr⟩

theorem Rdr.keep {w w' : World} {g : Nat} {l : List UInt8} {s : Bool} (h : Rdr w g l s) (hb : Below w.heap.size w w') : Rdr w' g l s := by
  obtain ⟨A, n, c, hg, hn, hc, hc2, hc3, hl⟩ := h
  have hgl := lt_of_block hg
  exact ⟨A, n, c, (hb.block g hgl).trans hg, hn, hc, hc2, hc3, hl.below (hb.mono (by omega))⟩

theorem Rdr.drewN {w : World} {g : Nat} {l : List UInt8} {s : Bool} (h : Rdr w g l s) (n : Nat) : Rdr (w.drewN n) g l s := h

/-- Over. -/
def OverEnd (w : World) (l : List UInt8) (e : Ending) (w' : World) : Prop :=
  ∃ g, e = .returned (.pointer (some ⟨g, 0, none⟩)) ∧ w.heap.size ≤ g ∧ Rdr w' g l false ∧ Below w.heap.size w w'
theorem over_any (A : Option Addr) (n c B : Nat) (l : List UInt8) (w : World) (h : Lies w B A (bys l)) (hn : n = l.length) (hbig : n ≤ 140737488350000) :
    Calls Tryz.prog 122 #[.slice A n c] w (OverEnd w l) := by
  have Hn := hide hn
  have Hl := hide h
  clear hn h
  go_enter Tryz.func122, Tryz.ntmps122
  go_wp2_with fail
  refine (clone_any A n c B (bys l) _ Hl.out (by rw [bys_len]; exact Hn.out) (bys_one _) (by omega)).mono ?_
  rintro e w2 ⟨v2, rfl, hown2, hb2⟩
  obtain ⟨A2, c2, rfl, hc1, hc2⟩ := own_form hown2
  have Hown2 := hide hown2
  have Hb2 := hide hb2
  clear hown2 hb2
  go_wp2
  go_ret
  have hs := Hb2.out.size
  exact ⟨w2.heap.size, rfl, hs, ⟨A2, n, c2, heap_alloc_new _ _, Hn.out, hc1, hc2, hbig, (Lies.of_own Hown2.out).alloc (Nat.le_refl _) _⟩, Hb2.out.alloc hs _⟩
end
section
open Go.RowKit
set_option maxRecDepth 8000

theorem strBytesP (W : World) (s : List UInt8) : ∃ c W', (convert 9 67 (.string (str s))).run Tryz.prog W = .ok (.slice (some ⟨W.heap.size, 0, none⟩) s.length c) W' ∧ s.length ≤ c ∧ Below W.heap.size W W' ∧ Lies W' W'.heap.size (some ⟨W.heap.size, 0, none⟩) (bys s) := by
  have hr := run_bytes_of_string (P := Tryz.prog) W 9 67 5 (str s) Tryz.underlying9 Tryz.underlying67 Tryz.underlying5
  have hz : (str s).size = s.length := str_size s
  have hcap := grownCap_ge W (str s).size 0 5
  generalize hcp : grownCap W (str s).size 0 5 = cp at hr hcap
  rw [hz] at hr hcap
  refine ⟨_, _, hr, hcap, ((Below.refl _ W).drew).alloc (Nat.le_refl _) _, .inr ⟨_, rfl, by simp, ?_⟩⟩
  intro j u hj
  have hjl : j < s.length := by have := (List.getElem?_eq_some_iff.1 hj).1; rwa [bys_len] at this
  rw [bys_at s j hjl] at hj
  cases hj
  have e : (⟨W.heap.size, 0, none⟩ : Addr).add j = ⟨W.heap.size, j, none⟩ := by unfold Addr.add; split <;> simp_all
  rw [e, show (⟨W.heap.size, j, none⟩ : Addr) = ⟨W.drew.heap.size, j, none⟩ from rfl, World.cell?_alloc_mark, bytesRow_at (str s) _ j (by simpa [str] using hjl)]
  simp [str]
end
end Go.Proofs.YtigpplckddnghaaGreat
