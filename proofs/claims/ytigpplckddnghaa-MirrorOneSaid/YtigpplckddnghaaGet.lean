/-
  LAYER 14: Program, Erase and Read of the device, by one answer. (Cut out of Rd11 and Ds.)
  CONTRACT of bytes.Equal.
  Numbers as bytes, the highest first, as plain mathematics: nothing of any program.
  CONTRACTS of package be, first part: clamp, onto and the function that it makes.
  CONTRACTS of package be, second part: Get.
-/
import Derived.Test.YtigpplckddnghaaDev6
import Derived.Test.YtigpplckddnghaaDev7
import Derived.Test.YtigpplckddnghaaClone
import Derived.Below
import Derived.Laws.BitsAllLaws
namespace Go.Proofs.Ytigpplckddnghaa
section
open Go.RowKit
open Go.Sort

section
variable {w : World} {B0 B : Nat} {D : Dv} {k kb kp km : Nat}
theorem dprog_any (h : DevAt w B0 B D k kb kp km) (hB : B ≤ w.heap.size) (hops : D.ops < 1000000) (x y : Int) (A : Option Addr) (c : Nat) (b : List UInt8) (hl : LiesT w w.heap.size A b) (hb : b.length = 256) :
    Calls Try.prog 26 #[.pointer (some ⟨k, 0, none⟩), .agg #[.int .i64 x, .int .i64 y], .slice A 256 c] w fun e w' => e = .returned (.int .i64 (D.progR x y b).1) ∧ DevAt w' B0 B (D.progR x y b).2 k kb kp km ∧ Tch [k, kb, kp] w w' := by
  have low : ∀ {f : Int}, Calls Try.prog 26 #[.pointer (some ⟨k, 0, none⟩), .agg #[.int .i64 x, .int .i64 y], .slice A 256 c] w (fun e w' => e = .returned (.int .i64 f) ∧ Below w.heap.size w w') →
      Calls Try.prog 26 #[.pointer (some ⟨k, 0, none⟩), .agg #[.int .i64 x, .int .i64 y], .slice A 256 c] w fun e w' => e = .returned (.int .i64 f) ∧ DevAt w' B0 B D k kb kp km ∧ Tch [k, kb, kp] w w' :=
    fun hc => hc.mono fun e w' ⟨he, hb⟩ => ⟨he, h.below (hb.mono hB), Tch.of_below hb⟩
  unfold Dv.progR
  by_cases hd : D.dn = true
  · rw [if_pos hd]; exact low (prog_down h hB x y A 256 c hd)
  rw [if_neg hd]
  have hd2 : D.dn = false := by simpa using hd
  by_cases hh : D.g.Has x y
  · rw [if_neg (not_not_intro hh)]
    obtain ⟨i, j, rfl, rfl, hi, hj⟩ := Gm.Has.nats ⟨h.sides.2.2.2.2.1, h.sides.2.2.2.2.2⟩ hh
    rw [Int.toNat_natCast]
    by_cases hm : D.bad i = true
    · rw [if_pos hm]; exact low (prog_marked h hB i j A c hd2 hi hj hm)
    rw [if_neg hm]
    have hm2 : D.bad i = false := by simpa using hm
    by_cases ho : j = D.nx i
    · subst ho
      rw [if_neg (not_not_intro rfl)]
      exact prog_ok h hB i A c b hd2 hi hj hm2 hops hl hb
    · rw [if_pos (by omega)]; exact low (prog_order h hB i j A c hd2 hi hj hm2 ho)
  · rw [if_pos hh]; exact low (prog_out h hB x y A 256 c hd2 hh)
theorem dera_any (h : DevAt w B0 B D k kb kp km) (hB : B ≤ w.heap.size) (hops : D.ops < 1000000) (x : Int) :
    Calls Try.prog 25 #[.pointer (some ⟨k, 0, none⟩), .int .i64 x] w fun e w' => e = .returned (.int .i64 (D.eraR x).1) ∧ DevAt w' B0 B (D.eraR x).2 k kb kp km ∧ Tch [k, kb, kp] w w' := by
  have low : ∀ {f : Int}, Calls Try.prog 25 #[.pointer (some ⟨k, 0, none⟩), .int .i64 x] w (fun e w' => e = .returned (.int .i64 f) ∧ Below w.heap.size w w') →
      Calls Try.prog 25 #[.pointer (some ⟨k, 0, none⟩), .int .i64 x] w fun e w' => e = .returned (.int .i64 f) ∧ DevAt w' B0 B D k kb kp km ∧ Tch [k, kb, kp] w w' :=
    fun hc => hc.mono fun e w' ⟨he, hb⟩ => ⟨he, h.below (hb.mono hB), Tch.of_below hb⟩
  unfold Dv.eraR
  by_cases hd : D.dn = true
  · rw [if_pos hd]; exact low (era_down h hB x hd)
  rw [if_neg hd]
  have hd2 : D.dn = false := by simpa using hd
  by_cases hh : 0 ≤ x ∧ x < (D.nb : Int)
  · rw [if_neg (not_not_intro hh)]
    obtain ⟨i, rfl⟩ := Int.eq_ofNat_of_zero_le hh.1
    have hi : i < D.nb := by omega
    rw [Int.toNat_natCast]
    by_cases hm : D.bad i = true
    · rw [if_pos hm]; exact low (era_marked h hB i hd2 hi hm)
    rw [if_neg hm]
    exact era_ok h hB i hd2 hi (by simpa using hm) hops
  · rw [if_pos hh]; exact low (era_out h hB x hd2 hh)
end
section
variable {w : World} {B0 B : Nat} {D : Dv} {k kb kp km : Nat}
end
end
section
open Go.RowKit
set_option maxRecDepth 8000

theorem str_toList (l : List UInt8) : (str l).toList = l := by rw [ByteArray.toList_eq]; rfl

theorem equal_any (A A2 : Option Addr) (n c n2 c2 B B2 : Nat) (l m : List UInt8) (w : World) (h : Lies w B A (bys l)) (hn : n = l.length) (h2 : Lies w B2 A2 (bys m)) (hn2 : n2 = m.length) :
    Calls Try.prog 64 #[.slice A n c, .slice A2 n2 c2] w fun e w' => e = .returned (.bool (decide (l = m))) ∧ w = w' := by
  have hs1 : (convert 46 9 (.slice A n c)).run Try.prog w = .ok (.string (str l)) w := strU8 c h hn
  have hs2 : (convert 46 9 (.slice A2 n2 c2)).run Try.prog w = .ok (.string (str m)) w := strU8 c2 h2 hn2
  have hcmp : ((str l).toList == (str m).toList) = decide (l = m) := by
    rw [str_toList, str_toList]
    by_cases he : l = m
    · rw [decide_eq_true he, he]; exact beq_self_eq_true _
    · rw [decide_eq_false he]; exact beq_eq_false_iff_ne.2 he
  clear h h2 hn hn2
  generalize decide (l = m) = b at *
  generalize str l = s at *
  generalize str m = t at *
  go_enter Try.func64, Try.ntmps64
  go_wp2
  go_ret
  exact ⟨by first | rfl | exact ret_bool hcmp, rfl⟩
end
section
/-- The lowest k bytes of n, the highest first. -/
def beB : Nat → Nat → List UInt8
  | 0, _ => []
  | k + 1, n => UInt8.ofNat (n / 256 ^ k) :: beB k n

theorem beB_len (k n : Nat) : (beB k n).length = k := by
  induction k with
  | zero => rfl
  | succ k ih => simp [beB, ih]

theorem beB_get (n : Nat) : ∀ (k j : Nat), j < k → (beB k n)[j]? = some (UInt8.ofNat (n / 256 ^ (k - 1 - j)))
  | 0, j, h => by omega
  | k + 1, 0, _ => by simp [beB]
  | k + 1, j + 1, h => by
    have := beB_get n k j (by omega)
    simp only [beB, List.getElem?_cons_succ, this]
    congr 4
    omega

theorem beB_take_succ (n k j : Nat) (h : j < k) : (beB k n).take (j + 1) = (beB k n).take j ++ [UInt8.ofNat (n / 256 ^ (k - 1 - j))] := by
  rw [List.take_add_one, beB_get n k j h]; rfl

/-- The byte at a place; what is not there counts as 0. -/
def byteAt (l : List UInt8) (z : Int) : Nat := if 0 ≤ z then (l.getD z.toNat 0).toNat else 0
theorem byteAt_lt (l : List UInt8) (z : Int) : byteAt l z < 256 := by
  unfold byteAt; split
  · exact UInt8.toNat_lt _
  · omega
/-- The number of w bytes from a place on, the highest first. -/
def numAt (l : List UInt8) (at_ : Int) : Nat → Nat
  | 0 => 0
  | w + 1 => numAt l at_ w * 256 + byteAt l (at_ + w)
theorem numAt_lt (l : List UInt8) (z : Int) : ∀ w, numAt l z w < 256 ^ w
  | 0 => by simp [numAt]
  | w + 1 => by
    have h1 := numAt_lt l z w
    have h2 := byteAt_lt l (z + w)
    rw [numAt, Nat.pow_succ]; omega
theorem byteAt_nat (l : List UInt8) (i : Nat) : byteAt l (i : Int) = (l.getD i 0).toNat := by simp [byteAt]
/-- Bytes that lie one behind the other, read back. -/
theorem numAt_beB (l m : List UInt8) (n : Nat) : ∀ (k w : Nat), w ≤ k → numAt (l ++ beB k n ++ m) (l.length : Int) w = n / 256 ^ (k - w) % 256 ^ w
  | k, 0, _ => by simp [numAt, Nat.mod_one]
  | k, w + 1, h => by
    rw [numAt, numAt_beB l m n k w (by omega)]
    have e : byteAt (l ++ beB k n ++ m) ((l.length : Int) + (w : Int)) = n / 256 ^ (k - (w + 1)) % 256 := by
      rw [show ((l.length : Int) + (w : Int)) = ((l.length + w : Nat) : Int) by omega, byteAt_nat]
      have : (l ++ beB k n ++ m)[l.length + w]? = some (UInt8.ofNat (n / 256 ^ (k - 1 - w))) := by
        rw [List.append_assoc, List.getElem?_append_right (by omega), List.getElem?_append_left (by rw [beB_len]; omega)]
        rw [show l.length + w - l.length = w by omega]
        exact beB_get n k w (by omega)
      rw [List.getD_eq_getElem?_getD, this, show k - 1 - w = k - (w + 1) by omega]
      simp
    rw [e]
    have e2 : k - w = (k - (w + 1)) + 1 := by omega
    rw [e2, Nat.pow_succ, ← Nat.div_div_eq_div_mul, Nat.pow_succ]
    generalize n / 256 ^ (k - (w + 1)) = x
    rw [Nat.mul_comm (256 ^ w) 256, Nat.mod_mul]
    omega

theorem numAt_back (l : List UInt8) (n k : Nat) : numAt (l ++ beB k n) (l.length : Int) k = n % 256 ^ k := by
  have := numAt_beB l [] n k k (Nat.le_refl _)
  rwa [List.append_nil, Nat.sub_self, Nat.pow_zero, Nat.div_one] at this
theorem numAt_out (l : List UInt8) (z : Int) (h : z ≤ -8 ∨ (l.length : Int) ≤ z) : ∀ w, w ≤ 8 → numAt l z w = 0
  | 0, _ => rfl
  | w + 1, hw => by
    rw [numAt, numAt_out l z h w (by omega)]
    unfold byteAt
    split
    · have : l.length ≤ (z + w).toNat := by omega
      simp [List.getD, List.getElem?_eq_none this]
    · rfl
theorem numAt_lt56 (l : List UInt8) (z : Int) (w : Nat) (h : w < 8) : numAt l z w < 72057594037927936 :=
  Nat.lt_of_lt_of_le (numAt_lt l z w) (Nat.pow_le_pow_right (n := 256) (by decide) (show w ≤ 7 by omega))
theorem u64_wrap_small (x : Nat) (h : x < 18446744073709551616) : IntKind.u64.wrap (x : Int) = (x : Int) := by
  simp only [IntKind.wrap, IntKind.bits, IntKind.signed]; simp; omega
theorem u64_more0 (d : Nat) (hd : d < 72057594037927936) : IntKind.u64.wrap ((d : Int) * 256) = ((d * 256 : Nat) : Int) := by
  rw [show (d : Int) * 256 = ((d * 256 : Nat) : Int) by omega, u64_wrap_small _ (by omega)]
theorem u64_join (d b : Nat) (hd : d < 72057594037927936) (hb : b < 256) : bits .or .u64 (IntKind.u64.wrap ((d : Int) * 256)) (b : Int) = ((d * 256 + b : Nat) : Int) := by
  rw [u64_more0 d hd, u64_or_nat _ _ (by omega) (by omega), nat_join 8 (d * 256) b (by omega) (by omega)]
theorem byteAt_in (l : List UInt8) (z : Int) (h : 0 ≤ z) : byteAt l z = (l.getD z.toNat 0).toNat := if_pos h
theorem byteAt_out (l : List UInt8) (z : Int) (h : z < 0 ∨ (l.length : Int) ≤ z) : byteAt l z = 0 := by
  unfold byteAt
  split
  · rw [List.getD_eq_getElem?_getD, List.getElem?_eq_none (by omega)]; rfl
  · rfl
theorem u8_wrap_nat (x : Nat) : IntKind.u8.wrap (x : Int) = ((UInt8.ofNat x).toNat : Int) := by
  simp [IntKind.wrap, IntKind.bits, IntKind.signed]
theorem two_pow_eight (s : Nat) : (2 : Int) ^ (8 * (s : Int)).toNat = ((256 ^ s : Nat) : Int) := by
  have e : (8 * (s : Int)).toNat = 8 * s := by omega
  rw [e, Int.pow_mul, Int.natCast_pow]; rfl
theorem u8_of_shr (n : Int) (h : 0 ≤ n) (s : Nat) : IntKind.u8.wrap (n / 2 ^ (8 * (s : Int)).toNat) = ((UInt8.ofNat (n.toNat / 256 ^ s)).toNat : Int) := by
  obtain ⟨N, rfl⟩ := Int.eq_ofNat_of_zero_le h
  rw [two_pow_eight, ← u8_wrap_nat, Int.natCast_ediv]; rfl
end
section
open Go.RowKit

/-- clamp. -/
theorem clamp_any (a : Int) (w : World) : Calls Try.prog 78 #[.int .i64 a] w fun e w' => e = .returned (.int .i64 (min (max a 0) 8)) ∧ w = w' := by
  rcases (by omega : a < 0 ∨ 0 ≤ a ∧ a ≤ 8 ∨ 8 < a) with h | h | h
  all_goals
    go_enter Try.func78, Try.ntmps78
    go_wp2
    all_goals (go_ret; refine ⟨?_, rfl⟩; simp; omega)

theorem onto_any (A : Option Addr) (n c : Nat) (w : World) : Calls Try.prog 67 #[.slice A n c] w fun e w' => e = .returned (.func (.func 77) #[] #[.pointer (some ⟨w.heap.size, 0, none⟩)]) ∧ w.alloc (.cells #[.slice A n c] 46) = w' := by
  go_enter Try.func67, Try.ntmps67
  go_wp2
  go_ret
  exact ⟨rfl, rfl⟩

set_option maxHeartbeats 400000 in
theorem lay_any (g base m : Nat) (v : Value) (xs : List Value) (a n : Int) (w : World) (h0 : 0 ≤ a) (h8 : a ≤ 8) (hn0 : 0 ≤ n)
    (hg : w.heap[g]? = some (.cells #[v] 46 (0, 0))) (hown : w.ownsRow base 5 1 v m xs) (hgb : base ≤ g) (hb : base ≤ w.heap.size) (hm : m ≤ 140737488355000) :
    Calls Try.prog 77 #[.int .i64 a, .int .u64 n, .pointer (some ⟨g, 0, none⟩)] w fun e w' => ∃ v', e = .returned v' ∧ w'.heap[g]? = some (.cells #[v'] 46 (0, 0)) ∧
      w'.ownsRow base 5 1 v' (m + a.toNat) (xs ++ bys (beB a.toNat n.toNat)) ∧ Below base w w' := by
  obtain ⟨i0, hi, hz0, hz1, hz2⟩ := info_parts u8info
  obtain ⟨k, rfl⟩ := Int.eq_ofNat_of_zero_le h0
  go_enter Try.func77, Try.ntmps77
  go_wp2
  go_loopw [6] (fun i wr => ∃ r : Nat, r ≤ k ∧ i = .int .i64 ((r : Int) - 1) ∧ ∃ u, wr.heap[g]? = some (.cells #[u] 46 (0, 0)) ∧
      wr.ownsRow base 5 1 u (m + (k - r)) (xs ++ bys ((beB k n.toNat).take (k - r))) ∧ Below base w wr) (fun i _ => (intOf i + 1).toNat)
  case atStart => exact ⟨k, Nat.le_refl _, rfl, v, hg, by simpa [bys] using hown, Below.refl _ _⟩
  case round =>
    obtain ⟨r, hr, rfl, u, hgu, hou, hbl⟩ := hrel
    have hc := cell_of_one hgu
    have hf := free_of_one hgu
    by_cases hr0 : r = 0
    · subst hr0
      go_wp2
      go_ret
      exact ⟨u, rfl, hgu, by rw [List.take_of_length_le (by simp [beB_len])] at hou; simpa using hou, hbl⟩
    · obtain ⟨s, rfl⟩ : ∃ s, r = s + 1 := ⟨r - 1, by omega⟩
      have e1 : ((s + 1 : Nat) : Int) - 1 = (s : Int) := by omega
      rw [e1]
      clear e1 hr0
      have Hou := hide hou
      have Hgu := hide hgu
      clear hou hgu
      have hsz : base ≤ wr.heap.size := Nat.le_trans hb hbl.size
      have hgl := lt_of_block Hgu.out
      have e8 : IntKind.i64.wrap (8 * (s : Int)) = 8 * (s : Int) := IntWalk.i64_in _ (by omega)
      have p8 : 0 ≤ 8 * (s : Int) := by omega
      go_wp2
      go_region_law (refine step_append_lies _ rfl (.tmp 13) (.tmp 19) 46 rfl base 5 i0 (.int .u8 0) 1 1 Try.underlying46 hi hz0 hz1 hz2 rfl (by decide) u (m + (k - (s + 1))) _ (by simp [Act.eval]) (Hou.out.alloc _) ⟨wr.heap.size, 0, none⟩ 1 1 _ (by simp [Act.eval]) (by rfl) (World.news_of_block (t := 5) (fr := (0, 0)) (heap_alloc_new _ _)) (by simp [Value.oneCell']) (by decide) (by unfold maxLen; omega) (by omega) (by simp; omega) _ rfl ?_; intro g1 c1 w1 hown1 hg1 hat1 hlt1; have Hg1 := hide ((hg1.block g (by simp; omega) (Ne.symm (own_ne Hou.out Hgu.out (by decide)))).trans ((Below.heap_alloc _ _ _ hgl).trans Hgu.out)); have hc1 := cell_of_one Hg1.out; have hf1 := free_of_one Hg1.out; have Ho1 := hide hown1; have Hb1 := hide hg1; clear hat1 hown1 hg1)
      all_goals
        go_wp2
        refine ⟨⟨s, by omega, rfl, _, one_setCell Hg1.out, ?_, ?_⟩, by simp [intOf]⟩
        · have hne := own_ne Ho1.out Hg1.out (by decide)
          have h2 := ownsRow_setCell_other Ho1.out (a := ⟨g, 0, none⟩) hne (.slice (some ⟨g1, 0, none⟩) (m + (k - (s + 1)) + 1) c1)
          have e2 : k - s = k - (s + 1) + 1 := by omega
          rw [u8_of_shr n hn0 s] at h2
          rw [e2, beB_take_succ _ _ _ (by omega), bys_app, ← List.append_assoc, show k - 1 - (k - (s + 1)) = s by omega]
          exact h2
        · exact (((hbl.alloc hsz _).drew).grown Hb1.out (by simp; omega) (fun j hj => (Hou.out.lt j hj).1)).setCell hgb _
end
section
open Go.RowKit
set_option maxRecDepth 8000

/-- Get: of bytes that lie somewhere, from whatever place. -/
theorem get_any (A : Option Addr) (n c B : Nat) (l : List UInt8) (p a : Int) (w : World) (h : Lies w B A (bys l)) (hn : n = l.length) (hbig : n ≤ 140737488350000) (hp0 : -9223372036854775808 ≤ p) (hp1 : p ≤ 9223372036854775807) :
    Calls Try.prog 88 #[.slice A n c, .int .i64 p, .int .i64 a] w fun e w' => e = .returned (.int .u64 (numAt l p (min (max a 0) 8).toNat : Int)) ∧ w = w' := by
  obtain ⟨k, hk⟩ : ∃ k : Nat, (k : Int) = min (max a 0) 8 := ⟨(min (max a 0) 8).toNat, by omega⟩
  have hk8 : k ≤ 8 := by omega
  rw [← hk, Int.toNat_natCast]
  have Hk := hide hk
  have Hn := hide hn
  have Hl := hide h
  clear hk hn h
  by_cases hin : p ≤ -8 ∨ (n : Int) ≤ p
  · have e0 : numAt l p k = 0 := numAt_out l p (by have := Hn.out; omega) _ hk8
    rw [e0]
    clear e0
    by_cases h8 : p ≤ -8
    all_goals
      first
      | have h9 : (n : Int) ≤ p := by omega
      | skip
      go_enter Try.func88, Try.ntmps88
      go_wp2
      go_ret
      exact ⟨rfl, rfl⟩
  · have h8 : ¬ p ≤ -8 := by omega
    have h9 : ¬ (n : Int) ≤ p := by omega
    clear hin
    go_enter Try.func88, Try.ntmps88
    go_wp2_with fail
    refine (clamp_any a _).mono ?_
    rintro e w2 ⟨he, rfl⟩
    rw [← Hk.out] at he
    subst he
    go_wp2
    go_loop [7, 20] (fun s i => ∃ j d : Nat, j ≤ k ∧ i = .int .i64 (j : Int) ∧ s = .int .u64 (d : Int) ∧ d = numAt l p j) (fun _ i => (8 - intOf i).toNat)
    case atStart => exact ⟨0, 0, Nat.zero_le _, rfl, rfl, rfl⟩
    case round =>
      obtain ⟨j, d, hj, rfl, rfl, hd⟩ := hrel
      have Hd := hide hd
      clear hd
      by_cases hlt : j < k
      · have hd56 : Hid (d < 72057594037927936) := by have := numAt_lt56 l p j (by omega); rw [← Hd.out] at this; exact this
        by_cases hpos : 0 ≤ p + (j : Int)
        · by_cases hb : p + (j : Int) < n
          · obtain ⟨ad, rfl, _, hc⟩ := Hl.out.byte (k := (p + (j : Int)).toNat) (by have := Hn.out; omega)
            have hbt := byteAt_lt l (p + (j : Int))
            have e1 := byteAt_in l (p + (j : Int)) hpos
            rw [e1] at hbt
            have He := hide e1
            clear e1
            generalize hbv : (l.getD (p + (j : Int)).toNat 0).toNat = bv at *
            clear hbv
            go_wp2
            refine ⟨⟨j + 1, d * 256 + bv, by omega, by go_num, ?_, by rw [numAt, ← Hd.out, He.out]⟩, by simp [intOf]; omega⟩
            rw [u64_join _ _ hd56.out hbt]
          · have He := hide (byteAt_out l (p + (j : Int)) (.inr (by have := Hn.out; omega)))
            go_wp2
            refine ⟨⟨j + 1, d * 256, by omega, by go_num, ?_, by rw [numAt, ← Hd.out, He.out, Nat.add_zero]⟩, by simp [intOf]; omega⟩
            rw [u64_more0 _ hd56.out]
        · have He := hide (byteAt_out l (p + (j : Int)) (.inl (by omega)))
          go_wp2
          refine ⟨⟨j + 1, d * 256, by omega, by go_num, ?_, by rw [numAt, ← Hd.out, He.out, Nat.add_zero]⟩, by simp [intOf]; omega⟩
          rw [u64_more0 _ hd56.out]
      · have hjk : j = k := by omega
        subst hjk
        go_wp2
        go_ret
        exact ⟨by rw [← Hd.out]; rfl, rfl⟩
end
end Go.Proofs.Ytigpplckddnghaa
