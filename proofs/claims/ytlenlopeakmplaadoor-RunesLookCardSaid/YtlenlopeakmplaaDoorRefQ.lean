/-
  THE REFERENCE's Split AND Texts, walked: what is between ends; two rows of texts that are the same.
-/
import Derived.Test.YtlenlopeakmplaaDoorRefP
namespace Go.Proofs.YtlenlopeakmplaaDoor
open Go.RowKit

theorem st_inj {a b : List UInt8} (h : st a = st b) : a = b := by rw [← st_list a, ← st_list b, h]
theorem st_empty (p : List UInt8) : (st p).toList.isEmpty = true ↔ p = [] := by rw [ByteArray.toList_eq, st_list]; exact List.isEmpty_iff
theorem st_ne {p : List UInt8} (h : p ≠ []) : ¬ st p = ({ data := #[] } : ByteArray) := fun hh => h (st_inj (b := []) hh)

set_option maxRecDepth 100000 in
set_option maxHeartbeats 2000000 in
theorem ref_split (s : ByteArray) (a b : UInt8) (few : Bool) (w : World) (hs : s.size ≤ 1000000) : Calls Tryd.prog 16 #[.string s, .int .u8 a.toNat, .int .u8 b.toNat, .bool few] w fun e w' => ∃ A' c', e = .returned (.slice A' (spl a b few [] s.data.toList).length c') ∧
      w'.ownsRow w.heap.size 9 1 (.slice A' (spl a b few [] s.data.toList).length c') (spl a b few [] s.data.toList).length (strs (spl a b few [] s.data.toList)) ∧ Below w.heap.size w w' := by
  have Hx := hide (s_bt s)
  have Hpart := hide (st_part s)
  have Hlen := hide (show s.data.toList.length = s.size by rw [Array.length_toList]; rfl)
  obtain ⟨l, hl⟩ : ∃ l, l = s.data.toList := ⟨_, rfl⟩
  rw [← hl] at Hx Hpart Hlen ⊢
  clear hl
  obtain ⟨R, hR⟩ : ∃ R, R = spl a b few [] l := ⟨_, rfl⟩
  rw [← hR]
  have HR := hide hR
  clear hR
  have HA := hide (show ∀ c : UInt8, c = a ↔ c.toNat = a.toNat from fun c => UInt8.toNat_inj.symm)
  have HB := hide (show ∀ c : UInt8, c = b ↔ c.toNat = b.toNat from fun c => UInt8.toNat_inj.symm)
  obtain ⟨av, hav⟩ : ∃ av, av = a.toNat := ⟨_, rfl⟩
  obtain ⟨bv, hbv⟩ : ∃ bv, bv = b.toNat := ⟨_, rfl⟩
  rw [← hav] at HA ⊢
  rw [← hbv] at HB ⊢
  clear hav hbv
  go_enter Tryd.func16, Tryd.ntmps16
  go_wp2
  go_loopw [9, 10, 11] (fun o q i wr => ∃ (j : Nat) (acc : List (List UInt8)) (n : Nat) (p : List UInt8) (P : ByteArray), j ≤ s.size ∧ i = .int .i64 (j : Int) ∧ q = .string P ∧ (∃ A c, o = .slice A n c ∧
      wr.ownsRow w.heap.size 9 1 (.slice A n c) n (strs acc)) ∧ Hid (n = acc.length ∧ acc ++ spl a b few p (l.drop j) = R ∧ P = st p ∧ p.length ≤ j ∧ n ≤ j) ∧ Below w.heap.size w wr) (fun _ _ i _ => s.size - (intOf i).toNat)
  case atStart => exact ⟨0, [], 0, [], _, Nat.zero_le _, rfl, rfl, ⟨none, 0, rfl, World.ownsRow_nil _ _ _ _⟩, hide ⟨rfl, by rw [HR.out]; simp, rfl, Nat.le_refl _, Nat.le_refl _⟩, Below.refl _ _⟩
  case round =>
    obtain ⟨j, acc, n, p, P, hj, rfl, rfl, ⟨A, c, rfl, ho⟩, Hacc, hb⟩ := hrel
    have Ho := hide ho
    clear ho
    have hsz := hb.size
    have hn : n ≤ 1000000 := by have := Hacc.out.2.2.2.2; omega
    have hP : P.size ≤ 1000000 := by rw [Hacc.out.2.2.1, st_size]; have := Hacc.out.2.2.2.1; omega
    have hcat : ¬ 9223372036854775807 < P.size + (s.extract j (j + 1)).size := by
      rw [Hpart.out, st_size, List.length_take]; omega
    by_cases hlt : j < s.size
    · have h1 : (j : Int) < (s.size : Int) := by omega
      have h1b : (j : Int) + 1 ≤ (s.size : Int) := by omega
      have hxj := Hx.out j hlt
      obtain ⟨y, hy⟩ : ∃ y, y = l.getD j 0 := ⟨_, rfl⟩
      have Hd := hide (show l.drop j = y :: l.drop (j + 1) by
        rw [hy, List.getD_eq_getElem?_getD, List.getElem?_eq_getElem (by rw [Hlen.out]; exact hlt)]
        exact List.drop_eq_getElem_cons _)
      obtain ⟨x, hx⟩ : ∃ x, x = y.toNat := ⟨_, rfl⟩
      rw [show bt l j = x by unfold bt; rw [hx, hy]] at hxj
      have Hya := hide (HA.out y)
      have Hyb := hide (HB.out y)
      rw [← hx] at Hya Hyb
      clear hx hy
      have Hplain : x ≠ av → x ≠ bv → spl a b few p (l.drop j) = spl a b few (p ++ [y]) (l.drop (j + 1)) := by
        intro g1 g2
        rw [Hd.out]
        conv => lhs; unfold spl
        rw [if_pos ⟨fun h => g1 (Hya.out.1 h), fun h => g2 (Hyb.out.1 h)⟩]
      have Hend : (x = av ∨ x = bv) → spl a b few p (l.drop j) = (if p ≠ [] ∨ few = false then [p] else []) ++ spl a b few [] (l.drop (j + 1)) := by
        intro g
        rw [Hd.out]
        conv => lhs; unfold spl
        rw [if_neg fun h => g.elim (fun g => h.1 (Hya.out.2 g)) fun g => h.2 (Hyb.out.2 g)]
      have HP := hide Hplain
      have HE := hide Hend
      clear Hplain Hend
      have HQ := hide (show P ++ s.extract j (j + 1) = st (p ++ [y]) by
        rw [Hpart.out, Hacc.out.2.2.1, st_app, Hd.out]; rfl)
      by_cases g1 : x = av
      · have g1' : ((x : Int) != (av : Int)) = false := by simpa using congrArg (fun n : Nat => (n : Int)) g1
        have HEe := hide (HE.out (by omega))
        by_cases hp : p = []
        · have hPe : P.toList.isEmpty = true := by rw [Hacc.out.2.2.1]; exact (st_empty p).2 hp
          cases few with
          | true =>
            go_wp2
            refine ⟨⟨j + 1, acc, n, [], _, by omega, by go_num, rfl, ⟨A, c, rfl, Ho.out⟩, hide ⟨Hacc.out.1, ?_, rfl, by simp, by have := Hacc.out.2.2.2.2; omega⟩, hb⟩, by simp [intOf]; omega⟩
            have h3 := Hacc.out.2.1
            rw [HEe.out, if_neg (by rw [hp]; simp)] at h3
            simpa using h3
          | false =>
            go_wp2_with (at_builtin; refine wpl_app _ rfl strelems (.tmp 43) (.tmp 45) rfl w.heap.size (.slice A n c) n _ rfl (Ho.out.alloc _) (wr.heap.size + 1) (some ⟨wr.heap.size, 0, none⟩) 1 1 _ rfl (by rfl) (Lies.new wr _ _ _ _ (by omega)) (by simp [Value.oneCell']) (by unfold maxLen; omega) (by omega) (by simp; omega) ?_; intro A1 c1 w1 hown1 hg1 hat1; have Ho1 := hide hown1; have Hb1 := hide hg1; clear hown1 hg1 hat1)
            have hb1 : Below w.heap.size w w1 := (hb.alloc hsz _).grown Hb1.out (by simp; omega) (fun g hg => (Ho.out.lt g hg).1)
            refine ⟨⟨j + 1, acc ++ [p], n + 1, [], _, by omega, by go_num, rfl, ⟨A1, c1, rfl, ?_⟩, hide ⟨by rw [List.length_append, Hacc.out.1]; rfl, ?_, rfl, by simp, by have := Hacc.out.2.2.2.2; omega⟩, hb1⟩, by simp [intOf]; omega⟩
            · have h3 := Ho1.out
              rw [Hacc.out.2.2.1] at h3
              rw [strs_app]
              exact h3
            · have h3 := Hacc.out.2.1
              rw [HEe.out, if_pos (.inr rfl)] at h3
              rw [← h3]; simp
        · have hPe : P.toList.isEmpty = false := by rw [Hacc.out.2.2.1]; exact Bool.eq_false_iff.2 fun h => hp ((st_empty p).1 h)
          go_wp2_with (at_builtin; refine wpl_app _ rfl strelems (.tmp 43) (.tmp 45) rfl w.heap.size (.slice A n c) n _ rfl (Ho.out.alloc _) (wr.heap.size + 1) (some ⟨wr.heap.size, 0, none⟩) 1 1 _ rfl (by rfl) (Lies.new wr _ _ _ _ (by omega)) (by simp [Value.oneCell']) (by unfold maxLen; omega) (by omega) (by simp; omega) ?_; intro A1 c1 w1 hown1 hg1 hat1; have Ho1 := hide hown1; have Hb1 := hide hg1; clear hown1 hg1 hat1)
          have hb1 : Below w.heap.size w w1 := (hb.alloc hsz _).grown Hb1.out (by simp; omega) (fun g hg => (Ho.out.lt g hg).1)
          refine ⟨⟨j + 1, acc ++ [p], n + 1, [], _, by omega, by go_num, rfl, ⟨A1, c1, rfl, ?_⟩, hide ⟨by rw [List.length_append, Hacc.out.1]; rfl, ?_, rfl, by simp, by have := Hacc.out.2.2.2.2; omega⟩, hb1⟩, by simp [intOf]; omega⟩
          · have h3 := Ho1.out
            rw [Hacc.out.2.2.1] at h3
            rw [strs_app]
            exact h3
          · have h3 := Hacc.out.2.1
            rw [HEe.out, if_pos (.inl hp)] at h3
            rw [← h3]; simp
      · have g1' : ((x : Int) != (av : Int)) = true := by simpa using fun h : (x : Int) = av => g1 (by omega)
        by_cases g2 : x = bv
        · have g2' : ((x : Int) != (bv : Int)) = false := by simpa using congrArg (fun n : Nat => (n : Int)) g2
          have HEe := hide (HE.out (by omega))
          by_cases hp : p = []
          · have hPe : P.toList.isEmpty = true := by rw [Hacc.out.2.2.1]; exact (st_empty p).2 hp
            cases few with
            | true =>
              go_wp2
              refine ⟨⟨j + 1, acc, n, [], _, by omega, by go_num, rfl, ⟨A, c, rfl, Ho.out⟩, hide ⟨Hacc.out.1, ?_, rfl, by simp, by have := Hacc.out.2.2.2.2; omega⟩, hb⟩, by simp [intOf]; omega⟩
              have h3 := Hacc.out.2.1
              rw [HEe.out, if_neg (by rw [hp]; simp)] at h3
              simpa using h3
            | false =>
              go_wp2_with (at_builtin; refine wpl_app _ rfl strelems (.tmp 43) (.tmp 45) rfl w.heap.size (.slice A n c) n _ rfl (Ho.out.alloc _) (wr.heap.size + 1) (some ⟨wr.heap.size, 0, none⟩) 1 1 _ rfl (by rfl) (Lies.new wr _ _ _ _ (by omega)) (by simp [Value.oneCell']) (by unfold maxLen; omega) (by omega) (by simp; omega) ?_; intro A1 c1 w1 hown1 hg1 hat1; have Ho1 := hide hown1; have Hb1 := hide hg1; clear hown1 hg1 hat1)
              have hb1 : Below w.heap.size w w1 := (hb.alloc hsz _).grown Hb1.out (by simp; omega) (fun g hg => (Ho.out.lt g hg).1)
              refine ⟨⟨j + 1, acc ++ [p], n + 1, [], _, by omega, by go_num, rfl, ⟨A1, c1, rfl, ?_⟩, hide ⟨by rw [List.length_append, Hacc.out.1]; rfl, ?_, rfl, by simp, by have := Hacc.out.2.2.2.2; omega⟩, hb1⟩, by simp [intOf]; omega⟩
              · have h3 := Ho1.out
                rw [Hacc.out.2.2.1] at h3
                rw [strs_app]
                exact h3
              · have h3 := Hacc.out.2.1
                rw [HEe.out, if_pos (.inr rfl)] at h3
                rw [← h3]; simp
          · have hPe : P.toList.isEmpty = false := by rw [Hacc.out.2.2.1]; exact Bool.eq_false_iff.2 fun h => hp ((st_empty p).1 h)
            go_wp2_with (at_builtin; refine wpl_app _ rfl strelems (.tmp 43) (.tmp 45) rfl w.heap.size (.slice A n c) n _ rfl (Ho.out.alloc _) (wr.heap.size + 1) (some ⟨wr.heap.size, 0, none⟩) 1 1 _ rfl (by rfl) (Lies.new wr _ _ _ _ (by omega)) (by simp [Value.oneCell']) (by unfold maxLen; omega) (by omega) (by simp; omega) ?_; intro A1 c1 w1 hown1 hg1 hat1; have Ho1 := hide hown1; have Hb1 := hide hg1; clear hown1 hg1 hat1)
            have hb1 : Below w.heap.size w w1 := (hb.alloc hsz _).grown Hb1.out (by simp; omega) (fun g hg => (Ho.out.lt g hg).1)
            refine ⟨⟨j + 1, acc ++ [p], n + 1, [], _, by omega, by go_num, rfl, ⟨A1, c1, rfl, ?_⟩, hide ⟨by rw [List.length_append, Hacc.out.1]; rfl, ?_, rfl, by simp, by have := Hacc.out.2.2.2.2; omega⟩, hb1⟩, by simp [intOf]; omega⟩
            · have h3 := Ho1.out
              rw [Hacc.out.2.2.1] at h3
              rw [strs_app]
              exact h3
            · have h3 := Hacc.out.2.1
              rw [HEe.out, if_pos (.inl hp)] at h3
              rw [← h3]; simp
        · have g2' : ((x : Int) != (bv : Int)) = true := by simpa using fun h : (x : Int) = bv => g2 (by omega)
          have HPp := hide (HP.out g1 g2)
          go_wp2
          refine ⟨⟨j + 1, acc, n, p ++ [y], _, by omega, by go_num, rfl, ⟨A, c, rfl, Ho.out⟩, hide ⟨Hacc.out.1, ?_, HQ.out, by have := Hacc.out.2.2.2.1; simp; omega, by have := Hacc.out.2.2.2.2; omega⟩, hb⟩, by simp [intOf]; omega⟩
          have h3 := Hacc.out.2.1
          rw [HPp.out] at h3
          exact h3
    · obtain rfl : j = s.size := by omega
      have hfin : acc ++ (if p ≠ [] then [p] else []) = R := by
        have h3 := Hacc.out.2.1
        rw [List.drop_eq_nil_of_le (by rw [Hlen.out]; exact Nat.le_refl _)] at h3
        unfold spl at h3
        exact h3
      have Hfin := hide hfin
      clear hfin
      by_cases hp : p = []
      · have hPe : P.toList.isEmpty = true := by rw [Hacc.out.2.2.1]; exact (st_empty p).2 hp
        have h4 := Hfin.out
        rw [if_neg (by simpa using hp), List.append_nil] at h4
        subst h4
        go_wp2
        go_ret
        have hn := Hacc.out.1
        subst hn
        exact ⟨A, c, rfl, Ho.out, hb⟩
      · have hPe : P.toList.isEmpty = false := by rw [Hacc.out.2.2.1]; exact Bool.eq_false_iff.2 fun h => hp ((st_empty p).1 h)
        have h4 := Hfin.out
        rw [if_pos hp] at h4
        go_wp2_with (at_builtin; refine wpl_app _ rfl strelems (.tmp 49) (.tmp 51) rfl w.heap.size (.slice A n c) n _ rfl (Ho.out.alloc _) (wr.heap.size + 1) (some ⟨wr.heap.size, 0, none⟩) 1 1 _ rfl (by rfl) (Lies.new wr _ _ _ _ (by omega)) (by simp [Value.oneCell']) (by unfold maxLen; omega) (by omega) (by simp; omega) ?_; intro A1 c1 w1 hown1 hg1 hat1; have Ho1 := hide hown1; have Hb1 := hide hg1; clear hown1 hg1 hat1)
        go_wp2
        go_ret
        have hb1 : Below w.heap.size w w1 := (hb.alloc hsz _).grown Hb1.out (by simp; omega) (fun g hg => (Ho.out.lt g hg).1)
        have h3 := Ho1.out
        rw [Hacc.out.2.2.1] at h3
        have h5 : n + 1 = R.length := by rw [← h4, List.length_append, Hacc.out.1]; rfl
        rw [← h5]
        refine ⟨A1, c1, rfl, ?_, hb1⟩
        rw [← h4, strs_app]
        exact h3

end Go.Proofs.YtlenlopeakmplaaDoor
