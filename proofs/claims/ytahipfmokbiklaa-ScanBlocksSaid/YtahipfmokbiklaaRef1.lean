/-
  Numbers as bytes, the highest first, as plain mathematics: nothing of any program.
  CONTRACTS of package be, first part: clamp, onto and the function that it makes.
  CONTRACTS of the statements' own Bytes, Number (wagtailref01).
-/
import Derived.Below
import Derived.Laws.BitsAllLaws
import Derived.Test.YtahipfmokbiklaaBits
namespace Go.Proofs.Ytahipfmokbiklaa
section
/-- The lowest k bytes of n, the highest first. -/
def beB : Nat → Nat → List UInt8
  | 0, _ => []
  | k + 1, n => UInt8.ofNat (n / 256 ^ k) :: beB k n

theorem beB_len (k n : Nat) : (beB k n).length = k := by
  induction k with
  | zero => rfl
  | succ k ih => simp [beB, ih]

theorem beB_get (n : Nat) : ∀ (k j : Nat), j < k → (beB k n)[j]? = some (UInt8.ofNat (n / 256 ^ (k - 1 - j)))
  | 0, j, h => by omega
  | k + 1, 0, _ => by simp [beB]
  | k + 1, j + 1, h => by
    have := beB_get n k j (by omega)
    simp only [beB, List.getElem?_cons_succ, this]
    congr 4
    omega

theorem beB_take_succ (n k j : Nat) (h : j < k) : (beB k n).take (j + 1) = (beB k n).take j ++ [UInt8.ofNat (n / 256 ^ (k - 1 - j))] := by
  rw [List.take_add_one, beB_get n k j h]; rfl

/-- The byte at a place; what is not there counts as 0. -/
def byteAt (l : List UInt8) (z : Int) : Nat := if 0 ≤ z then (l.getD z.toNat 0).toNat else 0
theorem byteAt_lt (l : List UInt8) (z : Int) : byteAt l z < 256 := by
  unfold byteAt; split
  · exact UInt8.toNat_lt _
  · omega
/-- The number of w bytes from a place on, the highest first. -/
def numAt (l : List UInt8) (at_ : Int) : Nat → Nat
  | 0 => 0
  | w + 1 => numAt l at_ w * 256 + byteAt l (at_ + w)
theorem numAt_lt (l : List UInt8) (z : Int) : ∀ w, numAt l z w < 256 ^ w
  | 0 => by simp [numAt]
  | w + 1 => by
    have h1 := numAt_lt l z w
    have h2 := byteAt_lt l (z + w)
    rw [numAt, Nat.pow_succ]; omega
theorem byteAt_nat (l : List UInt8) (i : Nat) : byteAt l (i : Int) = (l.getD i 0).toNat := by simp [byteAt]
/-- Bytes that lie one behind the other, read back. -/
theorem numAt_beB (l m : List UInt8) (n : Nat) : ∀ (k w : Nat), w ≤ k → numAt (l ++ beB k n ++ m) (l.length : Int) w = n / 256 ^ (k - w) % 256 ^ w
  | k, 0, _ => by simp [numAt, Nat.mod_one]
  | k, w + 1, h => by
    rw [numAt, numAt_beB l m n k w (by omega)]
    have e : byteAt (l ++ beB k n ++ m) ((l.length : Int) + (w : Int)) = n / 256 ^ (k - (w + 1)) % 256 := by
      rw [show ((l.length : Int) + (w : Int)) = ((l.length + w : Nat) : Int) by omega, byteAt_nat]
      have : (l ++ beB k n ++ m)[l.length + w]? = some (UInt8.ofNat (n / 256 ^ (k - 1 - w))) := by
        rw [List.append_assoc, List.getElem?_append_right (by omega), List.getElem?_append_left (by rw [beB_len]; omega)]
        rw [show l.length + w - l.length = w by omega]
        exact beB_get n k w (by omega)
      rw [List.getD_eq_getElem?_getD, this, show k - 1 - w = k - (w + 1) by omega]
      simp
    rw [e]
    have e2 : k - w = (k - (w + 1)) + 1 := by omega
    rw [e2, Nat.pow_succ, ← Nat.div_div_eq_div_mul, Nat.pow_succ]
    generalize n / 256 ^ (k - (w + 1)) = x
    rw [Nat.mul_comm (256 ^ w) 256, Nat.mod_mul]
    omega

theorem numAt_out (l : List UInt8) (z : Int) (h : z ≤ -8 ∨ (l.length : Int) ≤ z) : ∀ w, w ≤ 8 → numAt l z w = 0
  | 0, _ => rfl
  | w + 1, hw => by
    rw [numAt, numAt_out l z h w (by omega)]
    unfold byteAt
    split
    · have : l.length ≤ (z + w).toNat := by omega
      simp [List.getD, List.getElem?_eq_none this]
    · rfl
theorem numAt_lt56 (l : List UInt8) (z : Int) (w : Nat) (h : w < 8) : numAt l z w < 72057594037927936 :=
  Nat.lt_of_lt_of_le (numAt_lt l z w) (Nat.pow_le_pow_right (n := 256) (by decide) (show w ≤ 7 by omega))
theorem u64_wrap_small (x : Nat) (h : x < 18446744073709551616) : IntKind.u64.wrap (x : Int) = (x : Int) := by
  simp only [IntKind.wrap, IntKind.bits, IntKind.signed]; simp; omega
/-- One byte more: no number of at most seven bytes leaves the kind. -/
theorem u64_more (d b : Nat) (hd : d < 72057594037927936) (hb : b < 256) : IntKind.u64.wrap (IntKind.u64.wrap ((d : Int) * 256) + (b : Int)) = ((d * 256 + b : Nat) : Int) := by
  rw [show (d : Int) * 256 = ((d * 256 : Nat) : Int) by omega, u64_wrap_small _ (by omega), show ((d * 256 : Nat) : Int) + (b : Int) = ((d * 256 + b : Nat) : Int) by omega, u64_wrap_small _ (by omega)]
theorem u64_more0 (d : Nat) (hd : d < 72057594037927936) : IntKind.u64.wrap ((d : Int) * 256) = ((d * 256 : Nat) : Int) := by
  rw [show (d : Int) * 256 = ((d * 256 : Nat) : Int) by omega, u64_wrap_small _ (by omega)]
theorem u64_join (d b : Nat) (hd : d < 72057594037927936) (hb : b < 256) : bits .or .u64 (IntKind.u64.wrap ((d : Int) * 256)) (b : Int) = ((d * 256 + b : Nat) : Int) := by
  rw [u64_more0 d hd, u64_or_nat _ _ (by omega) (by omega), nat_join 8 (d * 256) b (by omega) (by omega)]
theorem byteAt_in (l : List UInt8) (z : Int) (h : 0 ≤ z) : byteAt l z = (l.getD z.toNat 0).toNat := if_pos h
theorem byteAt_out (l : List UInt8) (z : Int) (h : z < 0 ∨ (l.length : Int) ≤ z) : byteAt l z = 0 := by
  unfold byteAt
  split
  · rw [List.getD_eq_getElem?_getD, List.getElem?_eq_none (by omega)]; rfl
  · rfl
theorem u8_wrap_nat (x : Nat) : IntKind.u8.wrap (x : Int) = ((UInt8.ofNat x).toNat : Int) := by
  simp [IntKind.wrap, IntKind.bits, IntKind.signed]
theorem two_pow_eight (s : Nat) : (2 : Int) ^ (8 * (s : Int)).toNat = ((256 ^ s : Nat) : Int) := by
  have e : (8 * (s : Int)).toNat = 8 * s := by omega
  rw [e, Int.pow_mul, Int.natCast_pow]; rfl
theorem u8_of_shr (n : Int) (h : 0 ≤ n) (s : Nat) : IntKind.u8.wrap (n / 2 ^ (8 * (s : Int)).toNat) = ((UInt8.ofNat (n.toNat / 256 ^ s)).toNat : Int) := by
  obtain ⟨N, rfl⟩ := Int.eq_ofNat_of_zero_le h
  rw [two_pow_eight, ← u8_wrap_nat, Int.natCast_ediv]; rfl
end
section
open Go.RowKit

/-- clamp. -/
theorem clamp_any (a : Int) (w : World) : Calls Try.prog 86 #[.int .i64 a] w fun e w' => e = .returned (.int .i64 (min (max a 0) 8)) ∧ w = w' := by
  rcases (by omega : a < 0 ∨ 0 ≤ a ∧ a ≤ 8 ∨ 8 < a) with h | h | h
  all_goals
    go_enter Try.func86, Try.ntmps86
    go_wp2
    all_goals (go_ret; refine ⟨?_, rfl⟩; simp; omega)

theorem onto_any (A : Option Addr) (n c : Nat) (w : World) : Calls Try.prog 85 #[.slice A n c] w fun e w' => e = .returned (.func (.func 94) #[] #[.pointer (some ⟨w.heap.size, 0, none⟩)]) ∧ w.alloc (.cells #[.slice A n c] 65) = w' := by
  go_enter Try.func85, Try.ntmps85
  go_wp2
  go_ret
  exact ⟨rfl, rfl⟩

set_option maxHeartbeats 400000 in
theorem lay_any (g base m : Nat) (v : Value) (xs : List Value) (a n : Int) (w : World) (h0 : 0 ≤ a) (h8 : a ≤ 8) (hn0 : 0 ≤ n)
    (hg : w.heap[g]? = some (.cells #[v] 65 (0, 0))) (hown : w.ownsRow base 5 1 v m xs) (hgb : base ≤ g) (hb : base ≤ w.heap.size) (hm : m ≤ 140737488355000) :
    Calls Try.prog 94 #[.int .i64 a, .int .u64 n, .pointer (some ⟨g, 0, none⟩)] w fun e w' => ∃ v', e = .returned v' ∧ w'.heap[g]? = some (.cells #[v'] 65 (0, 0)) ∧
      w'.ownsRow base 5 1 v' (m + a.toNat) (xs ++ bys (beB a.toNat n.toNat)) ∧ Below base w w' := by
  obtain ⟨i0, hi, hz0, hz1, hz2⟩ := info_parts u8info
  obtain ⟨k, rfl⟩ := Int.eq_ofNat_of_zero_le h0
  go_enter Try.func94, Try.ntmps94
  go_wp2
  go_loopw [6] (fun i wr => ∃ r : Nat, r ≤ k ∧ i = .int .i64 ((r : Int) - 1) ∧ ∃ u, wr.heap[g]? = some (.cells #[u] 65 (0, 0)) ∧
      wr.ownsRow base 5 1 u (m + (k - r)) (xs ++ bys ((beB k n.toNat).take (k - r))) ∧ Below base w wr) (fun i _ => (intOf i + 1).toNat)
  case atStart => exact ⟨k, Nat.le_refl _, rfl, v, hg, by simpa [bys] using hown, Below.refl _ _⟩
  case round =>
    obtain ⟨r, hr, rfl, u, hgu, hou, hbl⟩ := hrel
    have hc := cell_of_one hgu
    have hf := free_of_one hgu
    by_cases hr0 : r = 0
    · subst hr0
      go_wp2
      go_ret
      exact ⟨u, rfl, hgu, by rw [List.take_of_length_le (by simp [beB_len])] at hou; simpa using hou, hbl⟩
    · obtain ⟨s, rfl⟩ : ∃ s, r = s + 1 := ⟨r - 1, by omega⟩
      have e1 : ((s + 1 : Nat) : Int) - 1 = (s : Int) := by omega
      rw [e1]
      clear e1 hr0
      have Hou := hide hou
      have Hgu := hide hgu
      clear hou hgu
      have hsz : base ≤ wr.heap.size := Nat.le_trans hb hbl.size
      have hgl := lt_of_block Hgu.out
      have e8 : IntKind.i64.wrap (8 * (s : Int)) = 8 * (s : Int) := IntWalk.i64_in _ (by omega)
      have p8 : 0 ≤ 8 * (s : Int) := by omega
      go_wp2
      go_region_law (refine step_append_lies _ rfl (.tmp 13) (.tmp 19) 65 rfl base 5 i0 (.int .u8 0) 1 1 Try.underlying65 hi hz0 hz1 hz2 rfl (by decide) u (m + (k - (s + 1))) _ (by simp [Act.eval]) (Hou.out.alloc _) ⟨wr.heap.size, 0, none⟩ 1 1 _ (by simp [Act.eval]) (by rfl) (World.news_of_block (t := 5) (fr := (0, 0)) (heap_alloc_new _ _)) (by simp [Value.oneCell']) (by decide) (by unfold maxLen; omega) (by omega) (by simp; omega) _ rfl ?_; intro g1 c1 w1 hown1 hg1 hat1 hlt1; have Hg1 := hide ((hg1.block g (by simp; omega) (Ne.symm (own_ne Hou.out Hgu.out (by decide)))).trans ((Below.heap_alloc _ _ _ hgl).trans Hgu.out)); have hc1 := cell_of_one Hg1.out; have hf1 := free_of_one Hg1.out; have Ho1 := hide hown1; have Hb1 := hide hg1; clear hat1 hown1 hg1)
      all_goals
        go_wp2
        refine ⟨⟨s, by omega, rfl, _, one_setCell Hg1.out, ?_, ?_⟩, by simp [intOf]⟩
        · have hne := own_ne Ho1.out Hg1.out (by decide)
          have h2 := ownsRow_setCell_other Ho1.out (a := ⟨g, 0, none⟩) hne (.slice (some ⟨g1, 0, none⟩) (m + (k - (s + 1)) + 1) c1)
          have e2 : k - s = k - (s + 1) + 1 := by omega
          rw [u8_of_shr n hn0 s] at h2
          rw [e2, beB_take_succ _ _ _ (by omega), bys_app, ← List.append_assoc, show k - 1 - (k - (s + 1)) = s by omega]
          exact h2
        · exact (((hbl.alloc hsz _).drew).grown Hb1.out (by simp; omega) (fun j hj => (Hou.out.lt j hj).1)).setCell hgb _
end
section
open Go.RowKit
set_option maxRecDepth 8000

set_option maxHeartbeats 400000 in
theorem r1bytes_any (a x : Int) (w : World) (hx0 : 0 ≤ x) (hx1 : x < 18446744073709551616) :
    Calls Try.prog 57 #[.int .i64 a, .int .u64 x] w fun e w' => ∃ A' c', e = .returned (.slice A' (min a 8).toNat c') ∧
      w'.ownsRow w.heap.size 5 1 (.slice A' (min a 8).toNat c') (min a 8).toNat (bys (beB (min a 8).toNat x.toNat)) ∧ Below w.heap.size w w' := by
  obtain ⟨k, hk⟩ : ∃ k, k = (min a 8).toNat := ⟨_, rfl⟩
  rw [← hk]
  have Hk := hide hk
  clear hk
  go_enter Try.func57, Try.ntmps57
  go_wp2
  go_loopw [1, 5, 6] (fun n o i wr => ∃ j d : Nat, j ≤ k ∧ i = .int .i64 (j : Int) ∧ n = .int .u64 (d : Int) ∧ d = x.toNat / 256 ^ j ∧ ∃ A c, o = .slice A j c ∧
      wr.ownsRow w.heap.size 5 1 (.slice A j c) j (bys (beB j x.toNat)) ∧ Below w.heap.size w wr) (fun _ _ i _ => (8 - intOf i).toNat)
  case atStart => exact ⟨0, x.toNat, Nat.zero_le _, rfl, by go_num, by simp, none, 0, rfl, World.ownsRow_nil _ _ _ _, Below.refl _ _⟩
  case round =>
    obtain ⟨j, d, hj, rfl, rfl, hd, A, c, rfl, ho, hb⟩ := hrel
    have Ho := hide ho
    have Hd := hide hd
    clear ho hd
    have hk8 : k ≤ 8 := by have := Hk.out; omega
    by_cases hlt : j < k
    · have h1 : (j : Int) < a := by have := Hk.out; omega
      have h2 : (j : Int) < 8 := by omega
      have hsz := hb.size
      have hd0 : 0 ≤ (d : Int) := by omega
      go_wp2_with (at_builtin; refine wpl_app _ rfl u8elems (.tmp 19) (.tmp 20) rfl w.heap.size (.slice (some ⟨wr.heap.size, 0, none⟩) 1 1) 1 _ rfl (World.ownsRow_lit wr _ 1 hsz (by decide) rfl) wr.heap.size A j c _ rfl (by rw [bys_len, beB_len]; omega) ((Lies.of_own Ho.out).alloc (Nat.le_refl _) _) (bys_one _) (by unfold maxLen; omega) (by omega) (by simp; omega) ?_; intro A1 c1 w1 hown1 hg1 hat1; have Ho1 := hide hown1; have Hb1 := hide hg1; clear hown1 hg1 hat1)
      have hdx : d < 18446744073709551616 := by rw [Hd.out]; exact Nat.lt_of_le_of_lt (Nat.div_le_self _ _) (by omega)
      have hb1 : Below w.heap.size w w1 := (hb.alloc hsz _).grown Hb1.out (by simp; omega) (fun g hg => by simp [Value.ownBlock] at hg; omega)
      have e2 : (d : Int) % 256 = ((UInt8.ofNat d).toNat : Int) := by rw [← u8_wrap_nat]; simp [IntKind.wrap, IntKind.bits, IntKind.signed]
      refine ⟨⟨j + 1, d / 256, by omega, by go_num, ?_, by rw [Hd.out, Nat.div_div_eq_div_mul, Nat.pow_succ], A1, c1, by rw [Nat.add_comm], ?_, hb1⟩, by simp [intOf]; omega⟩
      · simp [IntKind.wrap, IntKind.bits, IntKind.signed]; omega
      · have h3 := Ho1.out
        rw [e2, Nat.add_comm 1 j] at h3
        rw [beB, ← Hd.out]
        exact h3
    · have hjk : j = k := by omega
      subst hjk
      by_cases ha : (j : Int) < a
      · have h8 : ¬ (j : Int) < 8 := by have := Hk.out; omega
        go_wp2
        go_ret
        exact ⟨A, c, rfl, Ho.out, hb⟩
      · go_wp2
        go_ret
        exact ⟨A, c, rfl, Ho.out, hb⟩

theorem bytes_nat (k : Nat) (x : Int) (w : World) (hk : k ≤ 8) (hx0 : 0 ≤ x) (hx1 : x < 18446744073709551616) :
    Calls Try.prog 57 #[.int .i64 (k : Int), .int .u64 x] w fun e w' => ∃ A' c', e = .returned (.slice A' k c') ∧ w'.ownsRow w.heap.size 5 1 (.slice A' k c') k (bys (beB k x.toNat)) ∧ Below w.heap.size w w' := by
  have := r1bytes_any k x w hx0 hx1
  rwa [show (min (k : Int) 8).toNat = k by omega] at this

/-- Number: of bytes that lie somewhere; it looks from a place within, or at the end. -/
theorem number_any (A : Option Addr) (n c B : Nat) (l : List UInt8) (p a : Int) (w : World) (h : Lies w B A (bys l)) (hn : n = l.length) (hbig : n ≤ 140737488350000) (hp0 : -9223372036854775808 ≤ p) (hp1 : p ≤ 9223372036854775807) :
    Calls Try.prog 38 #[.slice A n c, .int .i64 p, .int .i64 a] w fun e w' => e = .returned (.int .u64 ((if 0 ≤ p ∧ p ≤ n then numAt l p (min a 8).toNat else 0 : Nat) : Int)) ∧ w = w' := by
  obtain ⟨k, hk⟩ : ∃ k, k = (min a 8).toNat := ⟨_, rfl⟩
  rw [← hk]
  have Hk := hide hk
  have Hn := hide hn
  have Hl := hide h
  clear hk hn h
  by_cases hin : 0 ≤ p ∧ p ≤ n
  · rw [if_pos hin]
    obtain ⟨q, rfl⟩ := Int.eq_ofNat_of_zero_le hin.1
    have hq : q ≤ n := by omega
    go_enter Try.func38, Try.ntmps38
    go_wp2
    go_loop [7, 8] (fun s i => ∃ j d : Nat, j ≤ k ∧ i = .int .i64 (j : Int) ∧ s = .int .u64 (d : Int) ∧ d = numAt l q j) (fun _ i => (8 - intOf i).toNat)
    case atStart => exact ⟨0, 0, Nat.zero_le _, rfl, rfl, rfl⟩
    case round =>
      obtain ⟨j, d, hj, rfl, rfl, hd⟩ := hrel
      have Hd := hide hd
      clear hd
      have hk8 : k ≤ 8 := by have := Hk.out; omega
      by_cases hlt : j < k
      · have h1 : (j : Int) < a := by have := Hk.out; omega
        have h2 : (j : Int) < 8 := by omega
        have hd56 : Hid (d < 72057594037927936) := by have := numAt_lt56 l q j (by omega); rw [← Hd.out] at this; exact this
        by_cases hb : q + j < n
        · obtain ⟨ad, rfl, _, hc⟩ := Hl.out.byte (k := q + j) (by have := Hn.out; omega)
          have hlt' : (q : Int) + (j : Int) < n := by omega
          have hbt := byteAt_lt l ((q : Int) + (j : Int))
          have e1 : byteAt l ((q : Int) + (j : Int)) = (l.getD (q + j) 0).toNat := by rw [show (q : Int) + (j : Int) = ((q + j : Nat) : Int) by omega, byteAt_nat]
          rw [e1] at hbt
          have He := hide e1
          clear e1
          generalize hbv : (l.getD (q + j) 0).toNat = bv at *
          clear hbv
          go_wp2
          refine ⟨⟨j + 1, d * 256 + bv, by omega, by go_num, ?_, by rw [numAt, ← Hd.out, He.out]⟩, by simp [intOf]; omega⟩
          rw [u64_more _ _ hd56.out hbt]
        · have hlt' : ¬ (q : Int) + (j : Int) < n := by omega
          have e1 : byteAt l ((q : Int) + (j : Int)) = 0 := by
            rw [show (q : Int) + (j : Int) = ((q + j : Nat) : Int) by omega, byteAt_nat, List.getD_eq_getElem?_getD, List.getElem?_eq_none (by have := Hn.out; omega)]; rfl
          have He := hide e1
          clear e1
          go_wp2
          refine ⟨⟨j + 1, d * 256, by omega, by go_num, ?_, by rw [numAt, ← Hd.out, He.out, Nat.add_zero]⟩, by simp [intOf]; omega⟩
          rw [u64_more0 _ hd56.out]
      · have hjk : j = k := by omega
        subst hjk
        by_cases ha : (j : Int) < a
        · have h8 : ¬ (j : Int) < 8 := by have := Hk.out; omega
          go_wp2
          go_ret
          exact ⟨by rw [← Hd.out]; rfl, rfl⟩
        · go_wp2
          go_ret
          exact ⟨by rw [← Hd.out]; rfl, rfl⟩
  · rw [if_neg hin]
    have hin' : ¬ (0 ≤ p ∧ p ≤ (n : Int)) := hin
    go_enter Try.func38, Try.ntmps38
    go_wp2
    go_loop [7, 8] (fun s i => ∃ j : Nat, j ≤ k ∧ i = .int .i64 (j : Int) ∧ s = .int .u64 0) (fun _ i => (8 - intOf i).toNat)
    case atStart => exact ⟨0, Nat.zero_le _, rfl, rfl⟩
    case round =>
      obtain ⟨j, hj, rfl, rfl⟩ := hrel
      have hk8 : k ≤ 8 := by have := Hk.out; omega
      by_cases hlt : j < k
      · have h1 : (j : Int) < a := by have := Hk.out; omega
        have h2 : (j : Int) < 8 := by omega
        by_cases hp : 0 ≤ p
        all_goals
          first
          | have hp2 : ¬ p ≤ (n : Int) := by omega
          | skip
          go_wp2
          refine ⟨⟨j + 1, by omega, by go_num, rfl⟩, by simp [intOf]; omega⟩
      · have hjk : j = k := by omega
        subst hjk
        by_cases ha : (j : Int) < a
        · have h8 : ¬ (j : Int) < 8 := by have := Hk.out; omega
          go_wp2
          go_ret
          exact ⟨rfl, rfl⟩
        · go_wp2
          go_ret
          exact ⟨rfl, rfl⟩
end
end Go.Proofs.Ytahipfmokbiklaa
