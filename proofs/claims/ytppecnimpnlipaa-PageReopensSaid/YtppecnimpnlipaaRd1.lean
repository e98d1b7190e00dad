/-
  THE REFERENCE OF LAYER 14: what is programmed and erased, byte by byte.
-/
import Derived.Test.YtppecnimpnlipaaDev
import Derived.Test.YtppecnimpnlipaaBytes
namespace Go.Proofs.Ytppecnimpnlipaa
open Go.RowKit

theorem i64wR {n : Int} (h : -9223372036854775808 ≤ n ∧ n ≤ 9223372036854775807) : wrap64 n = n := by unfold wrap64; omega

theorem sub_and : ∀ o : Fin 256, ∀ x : Fin 256, o.val - (o.val &&& x.val) = o.val &&& (255 - x.val) := by decide +kernel
theorem part_byte (o b m : UInt8) : o.toNat - ((o.toNat &&& m.toNat) &&& (255 - b.toNat)) = (mixB o (o &&& b) m).toNat := by
  have h1 := sub_and ⟨o.toNat, o.toNat_lt⟩ ⟨m.toNat &&& (255 - b.toNat), Nat.lt_of_le_of_lt Nat.and_le_left m.toNat_lt⟩
  simp only at h1
  rw [Nat.and_assoc, h1, mixB_toNat, UInt8.toNat_and]
  have hx : m.toNat &&& (255 - b.toNat) < 256 := Nat.lt_of_le_of_lt Nat.and_le_left m.toNat_lt
  have nt : ∀ y : Nat, y < 256 → ∀ k, k < 8 → (255 - y).testBit k = !y.testBit k := by
    intro y hy k hk
    have := Nat.testBit_two_pow_sub_succ (show y < 2 ^ 8 from hy) k
    rw [show 2 ^ 8 - (y + 1) = 255 - y by omega] at this
    rw [this]; simp [hk]
  apply Nat.eq_of_testBit_eq
  intro k
  by_cases hk : k < 8
  · rw [Nat.testBit_and, nt _ hx k hk, Nat.testBit_and, nt _ b.toNat_lt k hk, Nat.testBit_or, Nat.testBit_and, nt _ m.toNat_lt k hk, Nat.testBit_and, Nat.testBit_and]
    cases o.toNat.testBit k <;> cases m.toNat.testBit k <;> cases b.toNat.testBit k <;> rfl
  · have ho : o.toNat.testBit k = false := Nat.testBit_lt_two_pow (Nat.lt_of_lt_of_le o.toNat_lt (Nat.pow_le_pow_right (by omega) (show 8 ≤ k by omega)))
    rw [Nat.testBit_and, Nat.testBit_or, Nat.testBit_and, Nat.testBit_and, Nat.testBit_and, ho]
    rfl
theorem wipe_byte (o m : UInt8) : o.toNat ||| m.toNat = (mixB o 255 m).toNat := by
  apply Nat.eq_of_testBit_eq
  intro k
  by_cases hk : k < 8
  · rw [mixB_test _ _ _ _ hk, Nat.testBit_or]
    have : (255 : UInt8).toNat.testBit k = true := by rw [← bitN_test, show (255 : UInt8).toNat = 255 from rfl, bits_255 k hk]; rfl
    rw [this]
    cases o.toNat.testBit k <;> cases m.toNat.testBit k <;> rfl
  · have h : ∀ z : UInt8, z.toNat.testBit k = false := fun z => Nat.testBit_lt_two_pow (Nat.lt_of_lt_of_le z.toNat_lt (Nat.pow_le_pow_right (by omega) (show 8 ≤ k by omega)))
    rw [Nat.testBit_or, h, h, h]
    rfl
/-- The numbers of a byte that is programmed. -/
theorem part_nums (o b m : UInt8) : ∃ p q r : Nat, bits .and .u8 (o.toNat : Int) (m.toNat : Int) = (p : Int) ∧ IntKind.u8.wrap (255 - (b.toNat : Int)) = (q : Int) ∧ bits .and .u8 (p : Int) (q : Int) = (r : Int) ∧ IntKind.u8.wrap ((o.toNat : Int) - (r : Int)) = ((mixB o (o &&& b) m).toNat : Int) := by
  have ho := o.toNat_lt
  have hb := b.toNat_lt
  have hm := m.toNat_lt
  have hp : o.toNat &&& m.toNat < 256 := Nat.lt_of_le_of_lt Nat.and_le_left ho
  have hr : (o.toNat &&& m.toNat) &&& (255 - b.toNat) ≤ o.toNat := Nat.le_trans Nat.and_le_left Nat.and_le_left
  refine ⟨o.toNat &&& m.toNat, 255 - b.toNat, (o.toNat &&& m.toNat) &&& (255 - b.toNat), u8_and_nat _ _ ho hm, ?_, u8_and_nat _ _ hp (by omega), ?_⟩
  · rw [IntKind.wrap_u8']; omega
  · rw [← part_byte, IntKind.wrap_u8']; omega
theorem wipe_nums (o m : UInt8) : bits .or .u8 (o.toNat : Int) (m.toNat : Int) = ((mixB o 255 m).toNat : Int) := by
  rw [u8_or_nat _ _ o.toNat_lt m.toNat_lt, wipe_byte]

/-- A mask's byte, told by two cases. -/
theorem maskB_pos {m : List UInt8} (h : 0 < m.length) (p : Nat) : maskB m p = m.getD (p % m.length) 0 := by unfold maskB; rw [if_neg (by omega)]
theorem maskB_nil (p : Nat) : maskB [] p = 0 := rfl
/-- Of a mask's bytes no more than 256 are looked at. -/
theorem maskB_take (m : List UInt8) (p : Nat) (hp : p < 256) : maskB (m.take 256) p = maskB m p := by
  by_cases h : m.length ≤ 256
  · rw [List.take_of_length_le h]
  · unfold maskB
    rw [List.length_take, if_neg (by omega), if_neg (by omega), show min 256 m.length = 256 by omega, Nat.mod_eq_of_lt hp, Nat.mod_eq_of_lt (show p < m.length by omega)]
    simp [List.getD, List.getElem?_take, hp]
theorem progL_take (old b m : List UInt8) (h : old.length = 256) : progL old b (m.take 256) = progL old b m := by
  unfold progL
  refine List.map_congr_left fun p hp => ?_
  have := List.mem_range.1 hp
  unfold progB
  rw [maskB_take m p (by omega)]
theorem erasL_take (old m : List UInt8) (h : old.length = 256) : erasL old (m.take 256) = erasL old m := by
  unfold erasL
  refine List.map_congr_left fun p hp => ?_
  have := List.mem_range.1 hp
  unfold erasB
  rw [maskB_take m p (by omega)]

set_option maxRecDepth 4000 in
set_option maxHeartbeats 800000 in
theorem wipe_any (A1 A3 : Option Addr) (n1 c1 n3 c3 B : Nat) (o m : List UInt8) (w : World) (h1 : Lies w B A1 (bys o)) (e1 : n1 = o.length) (h3 : Lies w B A3 (bys m)) (e3 : n3 = m.length) (hB : B ≤ w.heap.size) (hbig : n1 ≤ 1000000) (hbig3 : n3 ≤ 1000000) :
    Calls Try.prog 34 #[.slice A1 n1 c1, .slice A3 n3 c3] w fun e w' => ∃ A' c', e = .returned (.slice A' n1 c') ∧
      w'.ownsRow w.heap.size 5 1 (.slice A' n1 c') n1 (bys (erasL o m)) ∧ Below w.heap.size w w' := by
  have H1 := hide h1
  have E1 := hide e1
  have H3 := hide h3
  have E3 := hide e3
  clear h1 e1 h3 e3
  go_enter Try.func34, Try.ntmps34
  go_wp2
  go_loopw [5, 6] (fun out i wr => ∃ j : Nat, j ≤ n1 ∧ i = .int .i64 (j : Int) ∧ ∃ A c, out = .slice A j c ∧
      wr.ownsRow w.heap.size 5 1 (.slice A j c) j (bys ((List.range j).map (erasB o m))) ∧ Below w.heap.size w wr) (fun _ i _ => n1 - (intOf i).toNat)
  case atStart => exact ⟨0, Nat.zero_le _, rfl, none, 0, rfl, World.ownsRow_nil _ _ _ _, Below.refl _ _⟩
  case round =>
    obtain ⟨j, hj, rfl, A0, c0, rfl, ho, hb⟩ := hrel
    have Ho := hide ho
    have Hb := hide hb
    clear ho
    have hsz := hb.size
    by_cases hlt : j < n1
    · have hlt' : (j : Int) < (n1 : Int) := by omega
      have e1 : wrap64 ((j : Int) + 1) = ((j + 1 : Nat) : Int) := by rw [i64wR (by omega)]; rfl
      obtain ⟨a, rfl, _, hca⟩ := (H1.out.below (hb.mono hB)).byte (k := j) (by rw [← E1.out]; exact hlt)
      have hx : erasB o m j = mixB (o.getD j 0) 255 (maskB m j) := rfl
      have hw := wipe_nums (o.getD j 0) (maskB m j)
      rw [← hx] at hw
      generalize o.getD j 0 = ob at *
      by_cases h0 : n3 = 0
      · subst h0
        have hm0 : maskB m j = 0 := by rw [List.eq_nil_of_length_eq_zero E3.out.symm]; rfl
        rw [hm0] at hw
        generalize hz : (erasB o m j).toNat = z at hw
        generalize ob.toNat = oi at *
        have Hz := hide hz
        have hw' : bits .or .u8 (oi : Int) 0 = (z : Int) := hw
        clear hb hz hx hm0 hw
        go_wp2_with (at_builtin; refine wpl_app _ rfl u8elems (.tmp 24) (.tmp 31) rfl w.heap.size (.slice A0 j c0) j _ rfl (Ho.out.alloc _) (wr.heap.size + 1) (some ⟨wr.heap.size, 0, none⟩) 1 1 _ rfl (by rfl) (Lies.new wr _ _ _ _ (by omega)) (by simp [Value.oneCell']) (by unfold maxLen; omega) (by omega) (by simp; omega) ?_; intro A4 c4 w1 hown1 hg1 hat1; have Ho1 := hide hown1; have Hb1 := hide hg1; clear hown1 hg1 hat1)
        have hb1 : Below w.heap.size w w1 := (Hb.out.alloc hsz _).grown Hb1.out (by simp; omega) (fun g hg => (Ho.out.lt g hg).1)
        refine ⟨⟨j + 1, by omega, by go_num, A4, c4, rfl, ?_, hb1⟩, by simp [intOf]; omega⟩
        have h3 := Ho1.out
        rw [bys_snoc, Hz.out]
        exact h3
      · have hpos : (0 : Int) < (n3 : Int) := by omega
        have hne : ((n3 : Int) == 0) = false := by rw [beq_eq_false_iff_ne]; omega
        obtain ⟨k, hk, hk8⟩ : ∃ k, k = j % n3 ∧ k < n3 := ⟨_, rfl, Nat.mod_lt _ (by omega)⟩
        have e2 : (j : Int) % (n3 : Int) = (k : Int) := by rw [hk]; simp
        obtain ⟨a3, rfl, _, hcm⟩ := (H3.out.below (hb.mono hB)).byte (k := k) (by rw [← E3.out]; exact hk8)
        have hmk : maskB m j = m.getD k 0 := by rw [maskB_pos (by rw [← E3.out]; omega), hk, E3.out]
        rw [hmk] at hw
        generalize m.getD k 0 = mb at *
        have hkk : (k : Int) < (n3 : Int) := by omega
        generalize hz : (erasB o m j).toNat = z at hw
        generalize ob.toNat = oi at *
        generalize mb.toNat = mi at *
        have Hz := hide hz
        clear hb hz hx hmk hk h0
        go_wp2_with (at_builtin; refine wpl_app _ rfl u8elems (.tmp 24) (.tmp 31) rfl w.heap.size (.slice A0 j c0) j _ rfl (Ho.out.alloc _) (wr.heap.size + 1) (some ⟨wr.heap.size, 0, none⟩) 1 1 _ rfl (by rfl) (Lies.new wr _ _ _ _ (by omega)) (by simp [Value.oneCell']) (by unfold maxLen; omega) (by omega) (by simp; omega) ?_; intro A4 c4 w1 hown1 hg1 hat1; have Ho1 := hide hown1; have Hb1 := hide hg1; clear hown1 hg1 hat1)
        have hb1 : Below w.heap.size w w1 := (Hb.out.alloc hsz _).grown Hb1.out (by simp; omega) (fun g hg => (Ho.out.lt g hg).1)
        refine ⟨⟨j + 1, by omega, by go_num, A4, c4, rfl, ?_, hb1⟩, by simp [intOf]; omega⟩
        have h3 := Ho1.out
        rw [bys_snoc, Hz.out]
        exact h3
    · obtain rfl : j = n1 := by omega
      go_wp2
      go_ret
      exact ⟨A0, c0, rfl, by unfold erasL; rw [← E1.out]; exact Ho.out, Hb.out⟩
end Go.Proofs.Ytppecnimpnlipaa
