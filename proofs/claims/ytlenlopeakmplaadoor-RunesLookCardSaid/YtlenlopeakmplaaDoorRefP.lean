/-
  THE REFERENCE's Parts, walked: a text's runes, as texts. And rows of texts.
-/
import Derived.Test.YtlenlopeakmplaaDoorRefV
namespace Go.Proofs.YtlenlopeakmplaaDoor
open Go.RowKit

/-- Texts as cells. -/
def strs (ls : List (List UInt8)) : List Value := ls.map fun l => .string (st l)
theorem strs_len (ls : List (List UInt8)) : (strs ls).length = ls.length := by simp [strs]
theorem strs_app (a b : List (List UInt8)) : strs (a ++ b) = strs a ++ strs b := by simp [strs]
theorem strs_one (ls : List (List UInt8)) : ∀ u ∈ strs ls, u.oneCell' = true := by
  intro u hu; obtain ⟨x, _, rfl⟩ := List.mem_map.1 hu; rfl
theorem strs_at (ls : List (List UInt8)) (k : Nat) (h : k < ls.length) : (strs ls)[k]'(by rw [strs_len]; exact h) = .string (st (ls[k]'h)) := by simp [strs]

theorem strinfo : (Tryd.prog.info? 9).map (fun i => (i.zero, i.size, i.bytes)) = some (some (.string ⟨#[]⟩), 1, 16) := by kernel_rfl
theorem strelems : Elems Tryd.prog 23 9 1 16 := by
  obtain ⟨i0, hi, hz0, hz1, hz2⟩ := info_parts strinfo
  exact ⟨Tryd.underlying23, ⟨i0, _, hi, hz0, hz1, hz2, rfl⟩, by decide⟩

theorem st_ext (s : ByteArray) (i j : Nat) : s.extract i j = st ((s.data.toList.take j).drop i) := by
  have h : (s.extract i j).data = (st ((s.data.toList.take j).drop i)).data := by
    rw [ByteArray.data_extract]
    apply Array.toList_inj.1
    rw [Array.toList_extract]
    simp [st, List.drop_take]
  cases hx : s.extract i j; rw [hx] at h; cases hy : st ((s.data.toList.take j).drop i); rw [hy] at h; simp at h; rw [h]
theorem st_from (s : ByteArray) (i : Nat) : s.extract i s.size = st (s.data.toList.drop i) := by
  rw [st_ext, List.take_of_length_le (by rw [Array.length_toList]; exact Nat.le_refl _)]
theorem st_part (s : ByteArray) (i n : Nat) : s.extract i (i + n) = st ((s.data.toList.drop i).take n) := by
  rw [st_ext, List.drop_take, Nat.add_sub_cancel_left]

set_option maxRecDepth 100000 in
set_option maxHeartbeats 1000000 in
theorem ref_parts (s : ByteArray) (w : World) (hs : s.size ≤ 1000000) : Calls Tryd.prog 8 #[.string s] w fun e w' => ∃ A' c', e = .returned (.slice A' (runes s.data.toList).length c') ∧
      w'.ownsRow w.heap.size 9 1 (.slice A' (runes s.data.toList).length c') (runes s.data.toList).length (strs (runes s.data.toList)) ∧ Below w.heap.size w w' := by
  have hsize := ref_size
  have Hfrom := hide (st_from s)
  have Hpart := hide (st_part s)
  have Hlen := hide (show s.data.toList.length = s.size by rw [Array.length_toList]; rfl)
  obtain ⟨l, hl⟩ : ∃ l, l = s.data.toList := ⟨_, rfl⟩
  rw [← hl] at Hfrom Hpart Hlen ⊢
  clear hl
  have Hsize := hide hsize
  clear hsize
  obtain ⟨R, hR⟩ : ∃ R, R = runes l := ⟨_, rfl⟩
  have HRl := hide (show R.length ≤ s.size by rw [hR, ← Hlen.out]; exact runes_length l)
  rw [← hR]
  have HR := hide hR
  clear hR
  go_enter Tryd.func8, Tryd.ntmps8
  go_wp2
  go_loopw [3, 4] (fun o i wr => ∃ (j : Nat) (acc : List (List UInt8)) (n : Nat), j ≤ s.size ∧ i = .int .i64 (j : Int) ∧ (∃ A c, o = .slice A n c ∧
      wr.ownsRow w.heap.size 9 1 (.slice A n c) n (strs acc)) ∧ Hid (n = acc.length ∧ acc ++ runes (l.drop j) = R) ∧ Below w.heap.size w wr) (fun _ i _ => s.size - (intOf i).toNat)
  case atStart => exact ⟨0, [], 0, Nat.zero_le _, rfl, ⟨none, 0, rfl, World.ownsRow_nil _ _ _ _⟩, hide ⟨rfl, by rw [HR.out]; simp⟩, Below.refl _ _⟩
  case round =>
    obtain ⟨j, acc, n, hj, rfl, ⟨A, c, rfl, ho⟩, Hacc, hb⟩ := hrel
    have Ho := hide ho
    clear ho
    have hsz := hb.size
    by_cases hlt : j < s.size
    · have h1 : (j : Int) < (s.size : Int) := by omega
      have hne : l.drop j ≠ [] := fun h => by have := congrArg List.length h; rw [List.length_drop, Hlen.out] at this; simp at this; omega
      have Hc := hide (runes_cons hne)
      have hwl := wd_len hne
      rw [List.length_drop, Hlen.out] at hwl
      have hwp := wd_pos (l.drop j)
      have hcall := Hsize.out (s.extract j s.size) wr (by rw [Hfrom.out, st_size, List.length_drop, Hlen.out]; omega) (by rw [Hfrom.out, st_size, List.length_drop, Hlen.out]; omega)
      rw [show (s.extract j s.size).data.toList = l.drop j by rw [Hfrom.out, st_list]] at hcall
      have Hp := hide (Hpart.out j)
      obtain ⟨z, hz⟩ : ∃ z, z = sz (l.drop j) := ⟨_, rfl⟩
      rw [← hz] at hcall
      have hn : n ≤ 1000000 := by
        have := congrArg List.length Hacc.out.2
        rw [List.length_append] at this
        have := Hacc.out.1
        have := HRl.out
        omega
      obtain ⟨m, hm⟩ : ∃ m, m = wd (l.drop j) := ⟨_, rfl⟩
      have Hm := hide hm
      rw [← hm] at hwl hwp
      by_cases hz0 : z = 0
      · have hm1 : m = 1 := by rw [hm]; unfold wd; rw [← hz, if_pos hz0]
        subst hz0
        subst hm1
        clear hz hm
        have h2 : (j : Int) + 1 ≤ (s.size : Int) := by omega
        go_wp2_with fail
        (with_reducible refine hcall.mono ?_)
        rintro e w' ⟨rfl, rfl⟩
        clear hcall
        go_wp2_with (at_builtin; refine wpl_app _ rfl strelems (.tmp 16) (.tmp 23) rfl w.heap.size (.slice A n c) n _ rfl (Ho.out.alloc _) (w'.heap.size + 1) (some ⟨w'.heap.size, 0, none⟩) 1 1 _ rfl (by rfl) (Lies.new w' _ _ _ _ (by omega)) (by simp [Value.oneCell']) (by unfold maxLen; omega) (by omega) (by simp; omega) ?_; intro A1 c1 w1 hown1 hg1 hat1; have Ho1 := hide hown1; have Hb1 := hide hg1; clear hown1 hg1 hat1)
        have hb1 : Below w.heap.size w w1 := (hb.alloc hsz _).grown Hb1.out (by simp; omega) (fun g hg => (Ho.out.lt g hg).1)
        refine ⟨⟨j + 1, acc ++ [(l.drop j).take 1], n + 1, by omega, by go_num, ⟨A1, c1, rfl, ?_⟩, hide ⟨?_, ?_⟩, hb1⟩, by simp [intOf]; omega⟩
        · have h3 := Ho1.out
          rw [Hp.out 1] at h3
          rw [strs_app]
          exact h3
        · rw [List.length_append, Hacc.out.1]; rfl
        · have h3 := Hacc.out.2
          rw [Hc.out, ← Hm.out, List.drop_drop] at h3
          rw [← h3]; simp
      · have hm1 : m = z := by rw [hm]; unfold wd; rw [← hz, if_neg hz0]
        subst hm1
        clear hz hm
        have h2 : (j : Int) + (m : Int) ≤ (s.size : Int) := by omega
        have h3 : ¬ (m : Int) = 0 := by omega
        go_wp2_with fail
        (with_reducible refine hcall.mono ?_)
        rintro e w' ⟨rfl, rfl⟩
        clear hcall
        go_wp2_with (at_builtin; refine wpl_app _ rfl strelems (.tmp 16) (.tmp 23) rfl w.heap.size (.slice A n c) n _ rfl (Ho.out.alloc _) (w'.heap.size + 1) (some ⟨w'.heap.size, 0, none⟩) 1 1 _ rfl (by rfl) (Lies.new w' _ _ _ _ (by omega)) (by simp [Value.oneCell']) (by unfold maxLen; omega) (by omega) (by simp; omega) ?_; intro A1 c1 w1 hown1 hg1 hat1; have Ho1 := hide hown1; have Hb1 := hide hg1; clear hown1 hg1 hat1)
        have hb1 : Below w.heap.size w w1 := (hb.alloc hsz _).grown Hb1.out (by simp; omega) (fun g hg => (Ho.out.lt g hg).1)
        refine ⟨⟨j + m, acc ++ [(l.drop j).take m], n + 1, by omega, by go_num, ⟨A1, c1, rfl, ?_⟩, hide ⟨?_, ?_⟩, hb1⟩, by simp [intOf]; omega⟩
        · have h3 := Ho1.out
          rw [Hp.out m] at h3
          rw [strs_app]
          exact h3
        · rw [List.length_append, Hacc.out.1]; rfl
        · have h3 := Hacc.out.2
          rw [Hc.out, ← Hm.out, List.drop_drop] at h3
          rw [← h3]; simp
    · obtain rfl : j = s.size := by omega
      have hfin : acc = R := by
        have h3 := Hacc.out.2
        rw [List.drop_eq_nil_of_le (by rw [Hlen.out]; exact Nat.le_refl _), runes_nil, List.append_nil] at h3
        exact h3
      subst hfin
      go_wp2
      go_ret
      have hn := Hacc.out.1
      subst hn
      exact ⟨A, c, rfl, Ho.out, hb⟩

end Go.Proofs.YtlenlopeakmplaaDoor
