/-
  CONTRACTS of package be, second part: Get.
  PROMISES of a region that draws (Flow), for calls that make bytes.
  CONTRACTS of package be: Put.
  PAGES AS BYTES, plain mathematics: heads, the bytes of a page, what is read of them; whatever covers a page, and is another one, is none.
-/
import Derived.Test.YtahipfmokbiklaaRef1
import Derived.Test.YtahipfmokbiklaaFlow
import Derived.Test.YtahipfmokbiklaaBits
namespace Go.Proofs.Ytahipfmokbiklaa
section
open Go.RowKit
set_option maxRecDepth 8000

/-- Get: of bytes that lie somewhere, from whatever place. -/
theorem get_any (A : Option Addr) (n c B : Nat) (l : List UInt8) (p a : Int) (w : World) (h : Lies w B A (bys l)) (hn : n = l.length) (hbig : n ≤ 140737488350000) (hp0 : -9223372036854775808 ≤ p) (hp1 : p ≤ 9223372036854775807) :
    Calls Try.prog 88 #[.slice A n c, .int .i64 p, .int .i64 a] w fun e w' => e = .returned (.int .u64 (numAt l p (min (max a 0) 8).toNat : Int)) ∧ w = w' := by
  obtain ⟨k, hk⟩ : ∃ k : Nat, (k : Int) = min (max a 0) 8 := ⟨(min (max a 0) 8).toNat, by omega⟩
  have hk8 : k ≤ 8 := by omega
  rw [← hk, Int.toNat_natCast]
  have Hk := hide hk
  have Hn := hide hn
  have Hl := hide h
  clear hk hn h
  by_cases hin : p ≤ -8 ∨ (n : Int) ≤ p
  · have e0 : numAt l p k = 0 := numAt_out l p (by have := Hn.out; omega) _ hk8
    rw [e0]
    clear e0
    by_cases h8 : p ≤ -8
    all_goals
      first
      | have h9 : (n : Int) ≤ p := by omega
      | skip
      go_enter Try.func88, Try.ntmps88
      go_wp2
      go_ret
      exact ⟨rfl, rfl⟩
  · have h8 : ¬ p ≤ -8 := by omega
    have h9 : ¬ (n : Int) ≤ p := by omega
    clear hin
    go_enter Try.func88, Try.ntmps88
    go_wp2_with fail
    refine (clamp_any a _).mono ?_
    rintro e w2 ⟨he, rfl⟩
    rw [← Hk.out] at he
    subst he
    go_wp2
    go_loop [7, 20] (fun s i => ∃ j d : Nat, j ≤ k ∧ i = .int .i64 (j : Int) ∧ s = .int .u64 (d : Int) ∧ d = numAt l p j) (fun _ i => (8 - intOf i).toNat)
    case atStart => exact ⟨0, 0, Nat.zero_le _, rfl, rfl, rfl⟩
    case round =>
      obtain ⟨j, d, hj, rfl, rfl, hd⟩ := hrel
      have Hd := hide hd
      clear hd
      by_cases hlt : j < k
      · have hd56 : Hid (d < 72057594037927936) := by have := numAt_lt56 l p j (by omega); rw [← Hd.out] at this; exact this
        by_cases hpos : 0 ≤ p + (j : Int)
        · by_cases hb : p + (j : Int) < n
          · obtain ⟨ad, rfl, _, hc⟩ := Hl.out.byte (k := (p + (j : Int)).toNat) (by have := Hn.out; omega)
            have hbt := byteAt_lt l (p + (j : Int))
            have e1 := byteAt_in l (p + (j : Int)) hpos
            rw [e1] at hbt
            have He := hide e1
            clear e1
            generalize hbv : (l.getD (p + (j : Int)).toNat 0).toNat = bv at *
            clear hbv
            go_wp2
            refine ⟨⟨j + 1, d * 256 + bv, by omega, by go_num, ?_, by rw [numAt, ← Hd.out, He.out]⟩, by simp [intOf]; omega⟩
            rw [u64_join _ _ hd56.out hbt]
          · have He := hide (byteAt_out l (p + (j : Int)) (.inr (by have := Hn.out; omega)))
            go_wp2
            refine ⟨⟨j + 1, d * 256, by omega, by go_num, ?_, by rw [numAt, ← Hd.out, He.out, Nat.add_zero]⟩, by simp [intOf]; omega⟩
            rw [u64_more0 _ hd56.out]
        · have He := hide (byteAt_out l (p + (j : Int)) (.inl (by omega)))
          go_wp2
          refine ⟨⟨j + 1, d * 256, by omega, by go_num, ?_, by rw [numAt, ← Hd.out, He.out, Nat.add_zero]⟩, by simp [intOf]; omega⟩
          rw [u64_more0 _ hd56.out]
      · have hjk : j = k := by omega
        subst hjk
        go_wp2
        go_ret
        exact ⟨by rw [← Hd.out]; rfl, rfl⟩
end
section
open Go.RowKit

/-- A slice of k bytes that turns into a string. -/
def SliceStr (k : Nat) (l : List UInt8) : Value → World → Prop := fun v w => ∃ A c, v = .slice A k c ∧ (convert 65 9 v).run Try.prog w = .ok (.string (str l)) w
/-- A call that makes bytes. -/
def Makes (f : FuncId) (args : Array Value) (W : World) (k : Nat) (l : List UInt8) : Prop :=
  Calls Try.prog f args W fun e w' => ∃ v, e = .returned v ∧ Below W.heap.size W w' ∧ Keeps (SliceStr k l) v w'
theorem Makes.of {f : FuncId} {args : Array Value} {W : World} {k : Nat} {l : List UInt8} (hk : k = l.length)
    (h : Calls Try.prog f args W fun e w' => ∃ A' c', e = .returned (.slice A' k c') ∧ w'.ownsRow W.heap.size 5 1 (.slice A' k c') k (bys l) ∧ Below W.heap.size W w') : Makes f args W k l :=
  h.mono fun _ _ ⟨A', c', he, ho, hb'⟩ => ⟨_, he, hb', fun _ hW => ⟨A', c', rfl, strU8 c' ((Lies.of_own ho).below hW) hk⟩⟩
end
section
open Go.RowKit
set_option maxRecDepth 8000

/-- Put: b, and behind it the lowest w bytes. -/
theorem put_any (A : Option Addr) (n c B : Nat) (l : List UInt8) (a x : Int) (w : World) (h : Lies w B A (bys l)) (hn : n = l.length) (hbig : n ≤ 140737488350000) (hx0 : 0 ≤ x) :
    Calls Try.prog 74 #[.slice A n c, .int .i64 a, .int .u64 x] w fun e w' => ∃ v', e = .returned v' ∧
      w'.ownsRow w.heap.size 5 1 v' (n + (min (max a 0) 8).toNat) (bys (l ++ beB (min (max a 0) 8).toNat x.toNat)) ∧ Below w.heap.size w w' := by
  have Hn := hide hn
  clear hn
  have hk0 : 0 ≤ min (max a 0) 8 := by omega
  have hk8 : min (max a 0) 8 ≤ 8 := by omega
  go_enter Try.func74, Try.ntmps74
  go_wp2_with fail
  refine (clone_any A n c B (bys l) _ h (by rw [bys_len]; exact Hn.out) (bys_one l) (by omega)).mono ?_
  rintro e w1 ⟨v1, rfl, hown1, hb1⟩
  obtain ⟨A1, c1, rfl, _⟩ := own_form hown1
  have Hown1 := hide hown1
  clear hown1
  go_wp2_with fail
  refine (onto_any A1 n c1 _).mono ?_
  rintro e w2 ⟨rfl, rfl⟩
  go_wp2_with fail
  refine (clamp_any a _).mono ?_
  rintro e w2 ⟨rfl, rfl⟩
  go_wp2_with fail
  refine (lay_any w1.heap.size w.heap.size n (.slice A1 n c1) (bys l) _ x _ hk0 hk8 hx0 (heap_alloc_new _ _) (Hown1.out.alloc _) hb1.size (by have := hb1.size; simp; omega) (by omega)).mono ?_
  rintro e w3 ⟨v3, rfl, _, hown3, hb3⟩
  go_wp2
  go_ret
  refine ⟨v3, rfl, by rw [bys_app]; exact hown3, (hb1.alloc hb1.size _).trans hb3⟩
end
section
/-- A head. -/
structure Hd where
  kind : Int
  index : Int
  count : Int
  batch : Nat
  opn : Nat
  lpn : Int
  len : Int
deriving DecidableEq
def Hd.May (h : Hd) : Prop := 1 ≤ h.kind ∧ h.kind ≤ 5 ∧ 1 ≤ h.count ∧ h.count ≤ 16 ∧ 0 ≤ h.index ∧ h.index < h.count ∧ h.batch < 2147483648 ∧ h.opn < 2147483648 ∧ 0 ≤ h.lpn ∧ h.lpn ≤ 65535 ∧ 0 ≤ h.len ∧ h.len ≤ 228
instance (h : Hd) : Decidable h.May := by unfold Hd.May; infer_instance

/-- The first 24 bytes of a page. -/
def hdB (h : Hd) : List UInt8 := beB 1 h.kind.toNat ++ beB 1 h.index.toNat ++ beB 1 h.count.toNat ++ beB 1 0 ++ beB 8 h.batch ++ beB 8 h.opn ++ beB 2 h.lpn.toNat ++ beB 2 h.len.toNat
theorem hdB_len (h : Hd) : (hdB h).length = 24 := by simp [hdB, beB_len]
def bodyB (h : Hd) (d : List UInt8) : List UInt8 := hdB h ++ d ++ List.replicate (228 - d.length) 255
theorem bodyB_len (h : Hd) (d : List UInt8) (hd : d.length ≤ 228) : (bodyB h d).length = 252 := by
  simp only [bodyB, List.length_append, hdB_len, List.length_replicate]; omega
/-- Bytes, and behind them how many of their bits are 0. -/
def sealB (l : List UInt8) : List UInt8 := l ++ beB 4 (zc l (8 * l.length))
theorem sealB_len (l : List UInt8) : (sealB l).length = l.length + 4 := by simp [sealB, beB_len]
def pageB (h : Hd) (d : List UInt8) : List UInt8 := sealB (bodyB h d)
theorem pageB_len (h : Hd) (d : List UInt8) (hd : d.length ≤ 228) : (pageB h d).length = 256 := by
  rw [pageB, sealB_len, bodyB_len h d hd]

/-- The head that stands in bytes, whether it may be or not. -/
def headOf (b : List UInt8) : Hd := ⟨(numAt b 0 1 : Nat), (numAt b 1 1 : Nat), (numAt b 2 1 : Nat), numAt b 4 8, numAt b 12 8, (numAt b 20 2 : Nat), (numAt b 22 2 : Nat)⟩
def dataOf (b : List UInt8) : List UInt8 := (b.drop 24).take (headOf b).len.toNat
/-- Are bytes a page's? -/
def rightB (b : List UInt8) : Bool := decide (b.length = 256 ∧ (headOf b).May ∧ pageB (headOf b) (dataOf b) = b)
/-- The class of bytes. -/
def classN (b : List UInt8) : Nat := if b = List.replicate 256 255 then 0 else if rightB b = true then 1 else 2

theorem numAt_mid (a m : List UInt8) (n k : Nat) (p : Int) (hp : p = (a.length : Int)) (hn : n < 256 ^ k) : numAt (a ++ (beB k n ++ m)) p k = n := by
  rw [hp, ← List.append_assoc, numAt_beB a m n k k (Nat.le_refl _), Nat.sub_self, Nat.pow_zero, Nat.div_one, Nat.mod_eq_of_lt hn]
theorem head_back (h : Hd) (m : List UInt8) (hm : h.May) : headOf (hdB h ++ m) = h := by
  obtain ⟨h1, h2, h3, h4, h5, h6, h7, h8, h9, h10, h11, h12⟩ := hm
  rcases h with ⟨kd, ix, ct, bt, op, lp, ln⟩
  simp only at *
  have n0 := numAt_mid [] (beB 1 ix.toNat ++ (beB 1 ct.toNat ++ (beB 1 0 ++ (beB 8 bt ++ (beB 8 op ++ (beB 2 lp.toNat ++ (beB 2 ln.toNat ++ m))))))) kd.toNat 1 0 rfl (by omega)
  have n1 := numAt_mid (beB 1 kd.toNat) (beB 1 ct.toNat ++ (beB 1 0 ++ (beB 8 bt ++ (beB 8 op ++ (beB 2 lp.toNat ++ (beB 2 ln.toNat ++ m)))))) ix.toNat 1 1 (by simp [beB_len]) (by omega)
  have n2 := numAt_mid (beB 1 kd.toNat ++ beB 1 ix.toNat) (beB 1 0 ++ (beB 8 bt ++ (beB 8 op ++ (beB 2 lp.toNat ++ (beB 2 ln.toNat ++ m))))) ct.toNat 1 2 (by simp [beB_len]) (by omega)
  have n4 := numAt_mid (beB 1 kd.toNat ++ beB 1 ix.toNat ++ beB 1 ct.toNat ++ beB 1 0) (beB 8 op ++ (beB 2 lp.toNat ++ (beB 2 ln.toNat ++ m))) bt 8 4 (by simp [beB_len]) (by omega)
  have n12 := numAt_mid (beB 1 kd.toNat ++ beB 1 ix.toNat ++ beB 1 ct.toNat ++ beB 1 0 ++ beB 8 bt) (beB 2 lp.toNat ++ (beB 2 ln.toNat ++ m)) op 8 12 (by simp [beB_len]) (by omega)
  have n20 := numAt_mid (beB 1 kd.toNat ++ beB 1 ix.toNat ++ beB 1 ct.toNat ++ beB 1 0 ++ beB 8 bt ++ beB 8 op) (beB 2 ln.toNat ++ m) lp.toNat 2 20 (by simp [beB_len]) (by omega)
  have n22 := numAt_mid (beB 1 kd.toNat ++ beB 1 ix.toNat ++ beB 1 ct.toNat ++ beB 1 0 ++ beB 8 bt ++ beB 8 op ++ beB 2 lp.toNat) m ln.toNat 2 22 (by simp [beB_len]) (by omega)
  simp only [List.nil_append, List.append_assoc] at n0 n1 n2 n4 n12 n20 n22
  simp only [headOf, hdB, List.append_assoc, n0, n1, n2, n4, n12, n20, n22]
  congr 1 <;> omega
theorem page_back (h : Hd) (d : List UInt8) (hm : h.May) (hd : d.length = h.len.toNat) : headOf (pageB h d) = h ∧ dataOf (pageB h d) = d := by
  have e : pageB h d = hdB h ++ (d ++ (List.replicate (228 - d.length) 255 ++ beB 4 (zc (bodyB h d) (8 * (bodyB h d).length)))) := by
    simp only [pageB, sealB]
    conv => lhs; unfold bodyB
    simp only [List.append_assoc]
    rfl
  have e1 : headOf (pageB h d) = h := by rw [e]; exact head_back h _ hm
  refine ⟨e1, ?_⟩
  unfold dataOf
  rw [e1, e, List.drop_append_of_le_length (by rw [hdB_len]; omega), List.drop_of_length_le (by rw [hdB_len]; omega), List.nil_append, ← hd, List.take_left]
theorem page_right (h : Hd) (d : List UInt8) (hm : h.May) (hd : d.length = h.len.toNat) : rightB (pageB h d) = true := by
  obtain ⟨e1, e2⟩ := page_back h d hm hd
  unfold rightB
  rw [decide_eq_true_eq, e1, e2]
  exact ⟨pageB_len h d (by have := hm.2.2.2.2.2.2.2.2.2.2; omega), hm, rfl⟩
theorem numAt_one (b : List UInt8) : numAt b 0 1 = (b.getD 0 0).toNat := by
  simp [numAt, byteAt]
theorem right_not_blank (b : List UInt8) (h : rightB b = true) : b ≠ List.replicate 256 255 := by
  rintro rfl
  unfold rightB at h
  rw [decide_eq_true_eq] at h
  have h2 := h.2.1.2.1
  have e : (headOf (List.replicate 256 255)).kind = 255 := by
    show ((numAt (List.replicate 256 255) 0 1 : Nat) : Int) = 255
    rw [numAt_one]
    rfl
  rw [e] at h2
  omega
theorem class_page (h : Hd) (d : List UInt8) (hm : h.May) (hd : d.length = h.len.toNat) : classN (pageB h d) = 1 := by
  have hr := page_right h d hm hd
  unfold classN
  rw [if_neg (right_not_blank _ hr), if_pos hr]
theorem class_one (b : List UInt8) : classN b = 1 ↔ rightB b = true := by
  unfold classN
  constructor
  · intro h
    split at h
    · cases h
    · split at h
      · assumption
      · cases h
  · intro h
    rw [if_neg (right_not_blank b h), if_pos h]
theorem class_le (b : List UInt8) : classN b ≤ 2 := by
  unfold classN
  split
  · exact Nat.zero_le _
  · split
    · exact Nat.le_succ _
    · exact Nat.le_refl _

theorem blank_iff (b : List UInt8) (hb : b.length = 256) : (zc b (8 * b.length) == 0) = decide (b = List.replicate 256 255) := by
  rw [Bool.eq_iff_iff, beq_iff_eq, decide_eq_true_eq, zc_blank]
  constructor
  · intro h
    refine List.ext_getElem (by rw [hb, List.length_replicate]) (fun j h1 h2 => ?_)
    have := h j h1
    rw [List.getD_eq_getElem?_getD, List.getElem?_eq_getElem h1] at this
    rw [List.getElem_replicate]
    exact this
  · rintro rfl j hj
    rw [List.length_replicate] at hj
    rw [List.getD_eq_getElem?_getD, List.getElem?_replicate, if_pos hj]
    rfl
end
end Go.Proofs.Ytahipfmokbiklaa
