/-
  CONTRACTS of package be, third part: the reader (stop, take, N, Over).
  CONTRACTS of page.read (and its closure) and page.carried.
-/
import Derived.Test.YtahipfmokbiklaaPgM
import Derived.Test.YtahipfmokbiklaaBits
import Derived.Test.YtahipfmokbiklaaPgP
import Derived.Deep.DeepCutAuto
namespace Go.Proofs.Ytahipfmokbiklaa
section
open Go.RowKit
set_option maxRecDepth 8000

/-- Block g is a reader, of whose bytes l are left; s: it is short. -/
def Rdr (w : World) (g : Nat) (l : List UInt8) (s : Bool) : Prop :=
  ∃ A n c, w.heap[g]? = some (.cells #[.slice A n c, .bool s] 138 (0, 0)) ∧ n = l.length ∧ n ≤ c ∧ c ≤ maxLen ∧ n ≤ 140737488350000 ∧ Lies w g A (bys l)

theorem stop_any (g : Nat) (v x : Value) (w : World) (hg : w.heap[g]? = some (.cells #[v, x] 138 (0, 0))) :
    Calls Try.prog 87 #[.pointer (some ⟨g, 0, none⟩)] w fun e w' => e = .returned (.tuple #[]) ∧ w'.heap[g]? = some (.cells #[.slice none 0 0, .bool true] 138 (0, 0)) ∧ w.grownBy w' (some g) := by
  have h0 : w.cell? ⟨g, 0, none⟩ = some v := by simp [World.cell?, hg]
  have h1 : w.cell? ⟨g, 1, none⟩ = some x := by simp [World.cell?, hg]
  have f0 : w.frozen? ⟨g, 0, none⟩ = false := by simp [World.frozen?, hg]
  have f1 : w.frozen? ⟨g, 1, none⟩ = false := by simp [World.frozen?, hg]
  have Hg := hide hg
  clear hg
  go_enter Try.func87, Try.ntmps87
  go_wp2
  go_end0
  refine ⟨rfl, ?_, ?_⟩
  · rw [heap_setCell_same _ g 1 _ _ _ (heap_setCell_same w g 0 _ _ _ Hg.out)]
    rfl
  · exact grown_set (grown_set (World.grownBy.refl w (some g)) ⟨g, 0, none⟩ rfl _) ⟨g, 1, none⟩ rfl _

/-- What a call takes off a reader: the bytes, what is left, whether it is short. -/
def took (l : List UInt8) (s : Bool) (n : Int) : List UInt8 × List UInt8 × Bool :=
  if 0 ≤ n ∧ n ≤ l.length then (l.take n.toNat, l.drop n.toNat, s) else ([], [], true)

theorem took_len (l : List UInt8) (s : Bool) (n : Int) : (took l s n).1.length ≤ l.length := by
  unfold took; split <;> simp
  omega

/-- How 'take' ends. -/
def TakeEnd (w : World) (g : Nat) (l : List UInt8) (s : Bool) (n : Int) (e : Ending) (w' : World) : Prop :=
  ∃ A m c, e = .returned (.slice A m c) ∧ m = (took l s n).1.length ∧ Lies w' g A (bys (took l s n).1) ∧ Rdr w' g (took l s n).2.1 (took l s n).2.2 ∧ w.grownBy w' (some g)

set_option maxHeartbeats 400000 in
theorem take_any (g : Nat) (l : List UInt8) (s : Bool) (n : Int) (w : World) (hr : Rdr w g l s) (hn0 : -9223372036854775808 ≤ n) (hn1 : n ≤ 9223372036854775807) :
    Calls Try.prog 89 #[.pointer (some ⟨g, 0, none⟩), .int .i64 n] w (TakeEnd w g l s n) := by
  obtain ⟨A, k, c, hg, hk, hkc, hcm, hc47, hl⟩ := hr
  have h0 : w.cell? ⟨g, 0, none⟩ = some (.slice A k c) := by simp [World.cell?, hg]
  have f0 : w.frozen? ⟨g, 0, none⟩ = false := by simp [World.frozen?, hg]
  have Hg := hide hg
  have Hl := hide hl
  have Hk := hide hk
  clear hg hl hk
  by_cases hin : 0 ≤ n ∧ n ≤ (k : Int)
  · have e : took l s n = (l.take n.toNat, l.drop n.toNat, s) := by unfold took; rw [if_pos (by rw [← Hk.out]; exact hin)]
    have He := hide e
    clear e
    obtain ⟨m, rfl⟩ := Int.eq_ofNat_of_zero_le hin.1
    have hm : m ≤ k := by omega
    have hm' : ¬ (m : Int) > (k : Int) := by omega
    have hn' : ¬ (m : Int) < 0 := by omega
    clear hin
    have Hd := hide (Hl.out.drop m c (by rw [bys_len, ← Hk.out]; exact hkc))
    have fin : ∀ A2, (if c = m then A else A.map (·.add m)) = A2 →
        TakeEnd w g l s m (.returned (.slice A m c)) (w.setCell ⟨g, 0, none⟩ (.slice A2 (k - m) (c - m))) := by
      rintro A2 rfl
      have hgr : w.grownBy (w.setCell ⟨g, 0, none⟩ (.slice (if c = m then A else A.map (·.add m)) (k - m) (c - m))) (some g) := grown_set (World.grownBy.refl w (some g)) ⟨g, 0, none⟩ rfl _
      have hgl := lt_of_block Hg.out
      refine ⟨A, m, c, rfl, ?_, ?_, ⟨(if c = m then A else A.map (·.add m)), k - m, c - m, ?_, ?_, by omega, by omega, by omega, ?_⟩, hgr⟩
      · rw [He.out]; simp; have := Hk.out; omega
      · rw [He.out]
        exact ((bys_take l m ▸ Hl.out.take m : Lies w g A (bys (l.take m)))).grown hgr (Nat.le_refl _) (by omega)
      · rw [He.out, heap_setCell_same w g 0 _ _ _ Hg.out]; rfl
      · rw [He.out]; simp; have := Hk.out; omega
      · rw [He.out]
        exact ((bys_drop l m ▸ Hd.out : Lies w g (if c = m then A else A.map (·.add m)) (bys (l.drop m)))).grown hgr (Nat.le_refl _) (by omega)
    have Hfin := hide fin
    clear fin
    go_enter Try.func89, Try.ntmps89
    go_wp2
    · go_ret
      have := Hfin.out A (if_pos h)
      rw [h] at this
      simpa using this
    · go_ret
      exact Hfin.out _ (if_neg h)
  · have e : took l s n = ([], [], true) := by unfold took; rw [if_neg (by rw [← Hk.out]; exact hin)]
    have He := hide e
    clear e
    by_cases hneg : n < 0
    all_goals
      first
      | have hgt : (k : Int) < n := by omega
      | skip
      go_enter Try.func89, Try.ntmps89
      go_wp2_with fail
      refine (stop_any g _ _ _ Hg.out).mono ?_
      rintro e w1 ⟨rfl, hg1, hgr⟩
      have Hg1 := hide hg1
      clear hg1
      go_wp2
      go_ret
      refine ⟨none, 0, 0, rfl, ?_⟩
      rw [He.out]
      exact ⟨rfl, Lies.nil, ⟨none, 0, 0, Hg1.out, rfl, Nat.le_refl _, Nat.zero_le _, Nat.zero_le _, Lies.nil⟩, hgr⟩

/-- N. -/
def NEnd (w : World) (g : Nat) (l : List UInt8) (s : Bool) (n : Int) (e : Ending) (w' : World) : Prop :=
  ∃ x : Nat, e = .returned (.int .u64 (x : Int)) ∧ ((1 ≤ n ∧ n ≤ 8 ∧ n ≤ l.length ∧ x = numAt l 0 n.toNat ∧ Rdr w' g (l.drop n.toNat) s) ∨ (¬ (1 ≤ n ∧ n ≤ 8 ∧ n ≤ l.length) ∧ x = 0 ∧ Rdr w' g [] true)) ∧ w.grownBy w' (some g)

theorem numAt_take (l : List UInt8) (k : Nat) : ∀ w, w ≤ k → numAt (l.take k) 0 w = numAt l 0 w
  | 0, _ => rfl
  | w + 1, h => by
    rw [numAt, numAt, numAt_take l k w (by omega)]
    congr 1
    rw [show ((0 : Int) + (w : Int)) = ((w : Nat) : Int) by omega, byteAt_nat, byteAt_nat]
    rw [List.getD_eq_getElem?_getD, List.getD_eq_getElem?_getD, List.getElem?_take, if_pos (by omega)]

set_option maxHeartbeats 400000 in
theorem n_any (g : Nat) (l : List UInt8) (s : Bool) (n : Int) (w : World) (hr : Rdr w g l s) (hn0 : -9223372036854775808 ≤ n) (hn1 : n ≤ 9223372036854775807) :
    Calls Try.prog 80 #[.pointer (some ⟨g, 0, none⟩), .int .i64 n] w (NEnd w g l s n) := by
  have Hr := hide hr
  obtain ⟨A, k, c, hg, hk, hkc, hcm, hc47, hl⟩ := hr
  have Hg := hide hg
  have Hk := hide hk
  clear hg hl hk
  by_cases h1 : 1 ≤ n ∧ n ≤ 8
  · have h1' := h1.1
    have h8' := h1.2
    go_enter Try.func80, Try.ntmps80
    go_wp2_with fail
    refine (take_any g l s n _ Hr.out hn0 hn1).mono ?_
    rintro e w1 ⟨A1, m1, c1, rfl, hm1, hl1, hr1, hgr⟩
    have Hm1 := hide hm1
    have Hl1 := hide hl1
    have Hr1 := hide hr1
    clear hm1 hl1 hr1
    go_wp2_with fail
    refine (get_any A1 m1 c1 g (took l s n).1 0 n _ Hl1.out Hm1.out (by have := Hm1.out; have := took_len l s n; have := Hk.out; omega) (by omega) (by omega)).mono ?_
    rintro e w2 ⟨rfl, rfl⟩
    go_wp2
    go_ret
    refine ⟨_, rfl, ?_, hgr⟩
    have e8 : (min (max n 0) 8).toNat = n.toNat := by omega
    have h3 := Hr1.out
    rw [e8]
    by_cases hin : n ≤ l.length
    · have e : took l s n = (l.take n.toNat, l.drop n.toNat, s) := if_pos ⟨by omega, hin⟩
      rw [e] at h3 ⊢
      exact .inl ⟨h1', h8', hin, numAt_take l _ _ (Nat.le_refl _), h3⟩
    · have e : took l s n = ([], [], true) := if_neg (fun h => hin h.2)
      rw [e] at h3 ⊢
      exact .inr ⟨fun h => hin h.2.2, numAt_out [] 0 (.inr (by simp)) _ (by omega), h3⟩
  · have hbad : ¬ (1 ≤ n ∧ n ≤ 8 ∧ n ≤ (l.length : Int)) := fun h => h1 ⟨h.1, h.2.1⟩
    have Hbad := hide hbad
    clear hbad
    by_cases h2 : n < 1
    all_goals
      first
      | have h3 : 8 < n := by omega
      | skip
      clear h1
      go_enter Try.func80, Try.ntmps80
      go_wp2_with fail
      refine (stop_any g _ _ _ Hg.out).mono ?_
      rintro e w1 ⟨rfl, hg1, hgr⟩
      have Hg1 := hide hg1
      clear hg1
      go_wp2
      go_ret
      exact ⟨0, rfl, .inr ⟨Hbad.out, rfl, ⟨none, 0, 0, Hg1.out, rfl, Nat.le_refl _, Nat.zero_le _, Nat.zero_le _, Lies.nil⟩⟩, hgr⟩

theorem Rdr.keep {w w' : World} {g : Nat} {l : List UInt8} {s : Bool} (h : Rdr w g l s) (hb : Below w.heap.size w w') : Rdr w' g l s := by
  obtain ⟨A, n, c, hg, hn, hc, hc2, hc3, hl⟩ := h
  have hgl := lt_of_block hg
  exact ⟨A, n, c, (hb.block g hgl).trans hg, hn, hc, hc2, hc3, hl.below (hb.mono (by omega))⟩

theorem Rdr.drewN {w : World} {g : Nat} {l : List UInt8} {s : Bool} (h : Rdr w g l s) (n : Nat) : Rdr (w.drewN n) g l s := h

/-- Over. -/
def OverEnd (w : World) (l : List UInt8) (e : Ending) (w' : World) : Prop :=
  ∃ g, e = .returned (.pointer (some ⟨g, 0, none⟩)) ∧ w.heap.size ≤ g ∧ Rdr w' g l false ∧ Below w.heap.size w w'
theorem over_any (A : Option Addr) (n c B : Nat) (l : List UInt8) (w : World) (h : Lies w B A (bys l)) (hn : n = l.length) (hbig : n ≤ 140737488350000) :
    Calls Try.prog 78 #[.slice A n c] w (OverEnd w l) := by
  have Hn := hide hn
  have Hl := hide h
  clear hn h
  go_enter Try.func78, Try.ntmps78
  go_wp2_with fail
  refine (clone_any A n c B (bys l) _ Hl.out (by rw [bys_len]; exact Hn.out) (bys_one _) (by omega)).mono ?_
  rintro e w2 ⟨v2, rfl, hown2, hb2⟩
  obtain ⟨A2, c2, rfl, hc1, hc2⟩ := own_form hown2
  have Hown2 := hide hown2
  have Hb2 := hide hb2
  clear hown2 hb2
  go_wp2
  go_ret
  have hs := Hb2.out.size
  exact ⟨w2.heap.size, rfl, hs, ⟨A2, n, c2, heap_alloc_new _ _, Hn.out, hc1, hc2, hbig, (Lies.of_own Hown2.out).alloc (Nat.le_refl _) _⟩, Hb2.out.alloc hs _⟩
end
section
open Go.RowKit
set_option maxRecDepth 8000

theorem byteAt_drop (l : List UInt8) (o : Nat) (z : Nat) : byteAt (l.drop o) (z : Int) = byteAt l ((o : Int) + (z : Int)) := by
  rw [byteAt_nat, show ((o : Int) + (z : Int)) = ((o + z : Nat) : Int) by omega, byteAt_nat]
  simp [List.getD, List.getElem?_drop]
theorem numAt_drop (l : List UInt8) (o : Nat) : ∀ k, numAt (l.drop o) 0 k = numAt l (o : Int) k
  | 0 => rfl
  | k + 1 => by
    rw [numAt, numAt, numAt_drop l o k, Int.zero_add, byteAt_drop]
theorem byteAt_take (l : List UInt8) (m z : Nat) (h : z < m) : byteAt (l.take m) (z : Int) = byteAt l (z : Int) := by
  rw [byteAt_nat, byteAt_nat]
  simp [List.getD, h]
theorem numAt_takes (l : List UInt8) (m o : Nat) : ∀ k, o + k ≤ m → numAt (l.take m) (o : Int) k = numAt l (o : Int) k
  | 0, _ => rfl
  | k + 1, h => by
    rw [numAt, numAt, numAt_takes l m o k (by omega), show ((o : Int) + (k : Int)) = ((o + k : Nat) : Int) by omega, byteAt_take l m _ (by omega)]

/-- A page's head that is being read. -/
structure RdS (w0 : World) (rb g : Nat) (b : List UInt8) (off : Nat) (W : World) : Prop where
  box : W.heap[rb]? = some (.cells #[.pointer (some ⟨g, 0, none⟩)] 127 (0, 0))
  rdr : Rdr W g ((b.take 24).drop off) false
  below : Below w0.heap.size w0 W
  pos : w0.heap.size ≤ g ∧ g < rb
section
variable {w0 W W' : World} {rb g off : Nat} {b : List UInt8}
theorem RdS.lt (h : RdS w0 rb g b off W) : rb < W.heap.size := (Array.getElem?_eq_some_iff.1 h.box).1
theorem RdS.cell (h : RdS w0 rb g b off W) : W.cell? ⟨rb, 0, none⟩ = some (.pointer (some ⟨g, 0, none⟩)) := World.news_of_block h.box 0 _ rfl
theorem RdS.keep (h : RdS w0 rb g b off W) (hb : Below W.heap.size W W') : RdS w0 rb g b off W' :=
  ⟨(hb.block _ h.lt).trans h.box, h.rdr.keep hb, h.below.trans (hb.mono h.below.size), h.pos⟩
theorem RdS.drew (h : RdS w0 rb g b off W) : RdS w0 rb g b off W.drew := h.keep (Below.refl _ _).drew
theorem RdS.n (h : RdS w0 rb g b off W) (hb : b.length = 256) (k : Nat) (ki : Int) (hk : ki = (k : Int)) (h1 : 1 ≤ k) (h8 : k ≤ 8) (ho : off + k ≤ 24) :
    Calls Try.prog 80 #[.pointer (some ⟨g, 0, none⟩), .int .i64 ki] W fun e W' => e = .returned (.int .u64 (numAt b (off : Int) k : Nat)) ∧ RdS w0 rb g b (off + k) W' ∧ W.grownBy W' (some g) := by
  subst hk
  have hl : ((b.take 24).drop off).length = 24 - off := by rw [List.length_drop, List.length_take, hb]; omega
  refine (n_any g _ false (k : Int) W h.rdr (by omega) (by omega)).mono ?_
  rintro e W' ⟨x, rfl, hx, hg⟩
  have hn : Rdr W' g ((b.take 24).drop (off + k)) false ∧ x = numAt b (off : Int) k := by
    rcases hx with ⟨_, _, _, rfl, hr⟩ | ⟨hn, _⟩
    · rw [Int.toNat_natCast] at hr ⊢
      rw [List.drop_drop] at hr
      exact ⟨hr, by rw [numAt_drop, numAt_takes _ _ _ _ ho]⟩
    · exact absurd ⟨by omega, by omega, by rw [hl]; omega⟩ hn
  obtain ⟨hr, rfl⟩ := hn
  have hp := h.pos
  refine ⟨rfl, ⟨(hg.block rb h.lt (by intro e; injection e with e; omega)).trans h.box, hr, h.below.trans ⟨hg.os, hg.tape, hg.output, hg.size, fun q hq => hg.block q (Nat.lt_of_lt_of_le hq h.below.size) (by intro e; injection e with e; omega)⟩, hp⟩, hg⟩
/-- The closure that reads a small number. -/
theorem RdS.n1 (h : RdS w0 rb g b off W) (hb : b.length = 256) (k : Nat) (ki : Int) (hk : ki = (k : Int)) (h1 : 1 ≤ k) (h8 : k ≤ 2) (ho : off + k ≤ 24) :
    Calls Try.prog 79 #[.int .i64 ki, .pointer (some ⟨rb, 0, none⟩)] W fun e W' => e = .returned (.int .i64 (numAt b (off : Int) k : Nat)) ∧ RdS w0 rb g b (off + k) W' ∧ W.grownBy W' (some g) := by
  have F := hide (h.n hb k ki hk h1 (by omega) ho)
  have c0 := h.cell
  have hlt : numAt b (off : Int) k < 65536 := Nat.lt_of_lt_of_le (numAt_lt b _ k) (Nat.pow_le_pow_right (n := 256) (by decide) h8)
  generalize numAt b (off : Int) k = x at *
  have e1 : IntKind.i64.wrap (x : Int) = (x : Int) := IntWalk.i64_in _ (by omega)
  clear h hb hk h1 h8 ho hlt
  go_enter Try.func79, Try.ntmps79
  go_wp2_with fail
  (with_reducible refine F.out.mono ?_)
  rintro e w1 ⟨rfl, hS, hg⟩
  have H1 := hide hS
  have H2 := hide hg
  clear hS hg F
  go_wp2
  go_ret
  exact ⟨rfl, H1.out, H2.out⟩
end
theorem carried_any (A : Option Addr) (c B : Nat) (b : List UInt8) (h : Hd) (w : World) (hl : Lies w B A (bys b)) (hb : b.length = 256) (hc : 256 ≤ c) (h0 : 0 ≤ h.len) (h1 : h.len ≤ 228) (hB : B ≤ w.heap.size) :
    Calls Try.prog 64 #[.slice A 256 c, h.val] w fun e w' => e = .returned (.string (str ((b.drop 24).take h.len.toNat))) ∧ Below w.heap.size w w' := by
  have hx1 : BoxH h w.heap.size (w.alloc (.cells h.cells.toArray 42)) := BoxH.new h w
  have hb1 := (Below.refl w.heap.size w).alloc (Nat.le_refl _) (.cells h.cells.toArray 42)
  rcases h with ⟨kd, ix, ct, bt, op, lp, ln⟩
  dsimp only at *
  obtain ⟨n, rfl⟩ := Int.eq_ofNat_of_zero_le h0
  have hl2 := ((hl.below (hb1.mono hB)).drop 24 c (by rw [bys_len]; omega)).take n
  rw [if_neg (show ¬ c = 24 by omega), ← bys_drop, ← bys_take, show (fun x : Addr => x.add 24) = fun x => ⟨x.block, x.off + 24, none⟩ from funext fun x => add_offP x 23] at hl2
  rw [Int.toNat_natCast]
  have hst := strU8 (n := n) (c - 24) hl2 (by rw [List.length_take, List.length_drop, hb]; omega)
  obtain ⟨m, hm⟩ : ∃ m, m = 24 + n := ⟨_, rfl⟩
  have e1 : wrap64 (24 + (n : Int)) = (m : Int) := by unfold wrap64; omega
  have e2 : IntKind.i64.wrap (24 + (n : Int)) = (m : Int) := by rw [show 24 + (n : Int) = (m : Int) by omega]; exact IntWalk.i64_in _ (by omega)
  have i1 : (24 : Int) ≤ (m : Int) := by omega
  have i2 : (m : Int) ≤ (c : Int) := by omega
  have hne : ¬ c = 24 := by omega
  have c6 := hx1.c 6 _ rfl
  dsimp only at c6
  have es : m - 24 = n := by omega
  have HB := hide hb1
  clear hx1 hb1 hl hl2 hb hc h0 h1 hm
  unfold Hd.val at *
  unfold Hd.cells at *
  dsimp only at *
  go_enter Try.func64, Try.ntmps64
  go_wp2
  go_ret
  exact ⟨rfl, HB.out⟩
end
end Go.Proofs.Ytahipfmokbiklaa
