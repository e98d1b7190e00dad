/-
  CONTRACT of package nand: first, walked.
-/
import Derived.Test.YtahipfmokbiklaaPlan
namespace Go.Proofs.Ytahipfmokbiklaa
open Go.RowKit

theorem infoFlt : (Try.prog.info? 67).map (·.size) = some 3 := by kernel_rfl
theorem slice_high (A : Option Addr) (n c k : Nat) (hk : k ≤ c) (w : World) : (Instr.slice 65 (.slice A n c) none (some (.int .i64 (k : Int))) none).run Try.prog w = .ok (.slice A k c) w := by
  have h0 : A.map (·.add 0) = A := by cases A <;> simp [Addr.add]
  obtain ⟨i0, hi, _, hz1, _⟩ := info_parts u8info
  simp [Instr.slice, run_underlying Try.underlying65, Instr.sliceBounds, Instr.sliceBound, asIntOf, hk, sizeOf, typeInfo, hi, Result.andThen]
  simp [h0]

/-- A store into a map whose run is known. -/
theorem wp_mapUpdate_run {P : Program} {o : Oper} {a : Act} {w w' : World} {K : Act → World → Prop} {Q : Exit → Act → World → Prop} (t : TypeId) (m x v : Operand) (hop : o.op = .mapUpdate t m x v) {mv kv vv : Value} (hm : a.eval m = mv) (hx : a.eval x = kv) (hv : a.eval v = vv)
    (hr : (Instr.mapUpdate t mv kv vv).run P w = .ok () w') (h : K (a.put o.dst undef) w') : o.wp P a w K Q := by
  unfold Oper.wp
  simp [execOp, hop, hm, hx, hv, hr, Result.andThen]
  exact h

set_option maxRecDepth 4000 in
set_option maxHeartbeats 2000000 in
theorem first_any (A : Option Addr) (n c B : Nat) (l : List Flt) (w : World) (hl : Lies w B A (l.flatMap Flt.cells)) (hn : n = l.length) (hn2 : n ≤ 1000) (hok : ∀ f ∈ l, f.Ok w B) (hB : B ≤ w.heap.size) :
    Calls Try.prog 43 #[.slice A n c] w fun e w' => ∃ km, e = .returned (.map (some km)) ∧ FaultsAt w' w'.heap.size km (firstF l) ∧ w.heap.size ≤ km ∧ Below w.heap.size w w' := by
  have Hl := hide hl
  have Hn := hide hn
  have Hok := hide hok
  have HB := hide hB
  have hmm := @run_makeMap Try.prog
  have H0 := hide (Filled.start w)
  have Hb0 := hide ((Below.refl w.heap.size w).alloc (Nat.le_refl _) (.map #[] 0))
  clear hl hn hok hB
  go_enter Try.func43, Try.ntmps43
  go_wp2
  clear hmm
  go_loopw [11] (fun i wr => ∃ j : Nat, j ≤ n ∧ i = .int .i64 (j : Int) ∧ Below w.heap.size w wr ∧ Hid (Filled wr w.heap.size j (l.take j))) (fun i _ => n - (intOf i).toNat)
  case atStart => exact ⟨0, Nat.zero_le _, rfl, Hb0.out, H0⟩
  case round =>
    obtain ⟨j, hj, rfl, hb, hF⟩ := hrel
    have Hb := hide hb
    by_cases hlt : j < n
    · have hjl : j < l.length := by rw [← Hn.out]; exact hlt
      have hlt' : (j : Int) < (n : Int) := by omega
      obtain ⟨a, rfl, hab, hca⟩ := (Hl.out.below (hb.mono HB.out)).elem Flt.cells_len hjl (by decide)
      have Hok1 := hide ((Hok.out _ (List.getElem_mem hjl)).below (hb.mono HB.out))
      have Ht := hide (show l.take (j + 1) = l.take j ++ [l[j]] from by rw [List.take_append_getElem])
      have e1 : wrap64 ((j : Int) + 1) = ((j + 1 : Nat) : Int) := by rw [i64w (by omega)]; rfl
      generalize l[j] = f at *
      generalize l.take j = t at *
      rcases f with ⟨at_, kd, fA, fn, fc, fm⟩
      have Hca : Hid (∀ i v, [Value.int .i64 at_, .int .i64 kd, .slice fA fn fc][i]? = some v → wr.cell? ((a.add (j * 3)).add i) = some v) := hide hca
      have hbf := (Below.refl wr.heap.size wr).alloc (Nat.le_refl _) (.cells #[.int .i64 at_, .int .i64 kd, .slice fA fn fc] 67)
      have Hbf := hide hbf
      clear hca hjl hlt
      by_cases hat : at_ < 0
      · have Hoff := hide (firstF_off (t := t) (f := ⟨at_, kd, fA, fn, fc, fm⟩) (decide_eq_false (fun h => by have : 0 ≤ at_ := h.1; omega)))
        clear hb hbf
        go_wp2_with (with_reducible refine wpl_load_addr rfl 67 (.tmp 13) rfl (a.add (j * 3)) _ Hca.out rfl _ Try.underlying67 rfl 3 infoFlt rfl ?_)
        go_roundw
        case rel => exact ⟨j + 1, by omega, rfl, Hb.out.trans (Hbf.out.mono Hb.out.size), hide (by rw [Ht.out]; exact (hF.out.below Hbf.out).same Hoff.out (by omega))⟩
        case measure => simp [intOf]; omega
      · by_cases hk : kd = 1 ∨ kd = 2
        · have Hon := hide (show (Flt.mk at_ kd fA fn fc fm).on = true from decide_eq_true ⟨by show 0 ≤ at_; omega, hk⟩)
          obtain ⟨z, A1, m1, c1, hlk⟩ := hF.out.look at_ Hok1.out.key
          have lk1 := hlk _ (Below.heap_alloc wr (.cells #[.int .i64 at_, .int .i64 kd, .slice fA fn fc] 67) _ hF.out.lt)
          have hbf2 := hbf.alloc (by simp) (.cells #[.int .i64 z, .slice A1 m1 c1] 122)
          have Hbf2 := hide hbf2
          cases hhad : hasF t at_ with
          | true =>
            rw [hhad] at lk1
            have Hoff := hide (firstF_had (t := t) (f := ⟨at_, kd, fA, fn, fc, fm⟩) hhad)
            clear hlk hb hbf hbf2 hhad
            rcases hk with rfl | rfl
            all_goals
              go_wp2_with (with_reducible refine wpl_load_addr rfl 67 (.tmp 13) rfl (a.add (j * 3)) _ Hca.out rfl _ Try.underlying67 rfl 3 infoFlt rfl ?_)
              go_roundw
              case rel => exact ⟨j + 1, by omega, rfl, Hb.out.trans (Hbf2.out.mono Hb.out.size), hide (by rw [Ht.out]; exact (hF.out.below Hbf2.out).same Hoff.out (by omega))⟩
              case measure => simp [intOf]; omega
          | false =>
            rw [hhad] at lk1
            have Hnew := hide hhad
            have hlt2 := hF.out.lt
            clear hlk hb hbf hbf2 hhad
            have c0 : ((wr.alloc (.cells #[.int .i64 at_, .int .i64 kd, .slice fA fn fc] 67)).alloc (.cells #[.int .i64 z, .slice A1 m1 c1] 122)).cell? ⟨wr.heap.size, 0, none⟩ = some (.int .i64 at_) := by simp
            have c1' : ((wr.alloc (.cells #[.int .i64 at_, .int .i64 kd, .slice fA fn fc] 67)).alloc (.cells #[.int .i64 z, .slice A1 m1 c1] 122)).cell? ⟨wr.heap.size, 1, none⟩ = some (.int .i64 kd) := by simp
            have c2 : ((wr.alloc (.cells #[.int .i64 at_, .int .i64 kd, .slice fA fn fc] 67)).alloc (.cells #[.int .i64 z, .slice A1 m1 c1] 122)).cell? ⟨wr.heap.size, 2, none⟩ = some (.slice fA fn fc) := by simp
            have hs8 : wr.heap.size < ((wr.alloc (.cells #[.int .i64 at_, .int .i64 kd, .slice fA fn fc] 67)).alloc (.cells #[.int .i64 z, .slice A1 m1 c1] 122)).heap.size := by simp; omega
            have C0 := hide c0
            have C1 := hide c1'
            have C2 := hide c2
            have HS8 := hide hs8
            clear c0 c1' c2 hs8
            by_cases hk1 : kd = 1
            all_goals
              first
              | have k1 : (kd != 1) = false := by rw [hk1]; rfl
              | (have k1 : (kd != 1) = true := bne_iff_ne.2 hk1
                 have k2 : (kd != 2) = false := by rw [hk.resolve_left hk1]; rfl)
              clear hk hk1
              go_upto_region 8 with (with_reducible refine wpl_load_addr rfl 67 (.tmp 13) rfl (a.add (j * 3)) _ Hca.out rfl _ Try.underlying67 rfl 3 infoFlt rfl ?_)
              clear lk1
              have HL8 := hide (show Lies _ B fA (bys (fm.take 256)) from by rw [bys_take]; exact (Hok1.out.lies.below (Hbf2.out.mono (Nat.le_trans HB.out Hb.out.size))).take 256)
              have HB8 := hide (Nat.le_trans (Nat.le_trans HB.out Hb.out.size) Hbf2.out.size)
              have HLen := hide (show fn = fm.length from Hok1.out.len)
              generalize (wr.alloc (.cells #[.int .i64 at_, .int .i64 kd, .slice fA fn fc] 67)).alloc (.cells #[.int .i64 z, .slice A1 m1 c1] 122) = w8 at *
              refine Flo3.wp_region_last (by kernel_rfl) (fun d => match d with | 37 => is (.map (some w.heap.size)) | 38 => is (.pointer (some ⟨wr.heap.size, 0, none⟩)) | 39 => is (.int .i64 at_) | 40 => is (.pointer (some ⟨wr.heap.size, 1, none⟩)) | 41 => is (.int .i64 kd) | 42 => is (.pointer (some ⟨wr.heap.size, 2, none⟩)) | 43 => is (.slice fA fn fc) | 44 => is (.pointer (some ⟨wr.heap.size, 2, none⟩)) | 45 => is (.slice fA fn fc) | 46 => is (.int .i64 (fn : Int)) | 47 => is (.int .i64 ((min fn 256 : Nat) : Int)) | 48 => is (.slice fA (min fn 256) fc) | 49 => fun v W => ∃ A' c', v = .slice A' (min fn 256) c' ∧ LiesT W W.heap.size A' (fm.take 256) | 50 => fun v W => ∃ A' c', v = .agg #[.int .i64 kd, .slice A' (min fn 256) c'] ∧ LiesT W W.heap.size A' (fm.take 256) | _ => fun _ _ => True) (by kernel_rfl) (by kernel_rfl) ⟨?_, ?_, ?_, ?_, ?_, ?_, ?_, ?_, ?_, ?_, ?_, ?_, ?_, ?_, trivial⟩ ?_
              · intro a' w' hb' h'
                have e3 := sb h' 3 (by kernel_rfl) (by kernel_rfl) rfl
                exact .val (want0 rfl) rfl (by simp [Act.eval, e3, go_sem]) (Keeps.is rfl)
              · intro a' w' hb' h'
                have e5 := sb h' 5 (by kernel_rfl) (by kernel_rfl) rfl
                exact .val (want0 rfl) rfl (by simp [Act.eval, e5, go_sem]) (Keeps.is rfl)
              · intro a' w' hb' h'
                have cc := (hb'.cell (p := ⟨wr.heap.size, 0, none⟩) HS8.out).trans C0.out
                have e38 := (sw h' 38 (by kernel_rfl) (by kernel_rfl)).eq
                exact .val (want0 rfl) rfl (by simp [Act.eval, e38, cc, go_sem]) (Keeps.is rfl)
              · intro a' w' hb' h'
                have e5 := sb h' 5 (by kernel_rfl) (by kernel_rfl) rfl
                exact .val (want0 rfl) rfl (by simp [Act.eval, e5, go_sem]) (Keeps.is rfl)
              · intro a' w' hb' h'
                have cc := (hb'.cell (p := ⟨wr.heap.size, 1, none⟩) HS8.out).trans C1.out
                have e40 := (sw h' 40 (by kernel_rfl) (by kernel_rfl)).eq
                exact .val (want0 rfl) rfl (by simp [Act.eval, e40, cc, go_sem]) (Keeps.is rfl)
              · intro a' w' hb' h'
                have e5 := sb h' 5 (by kernel_rfl) (by kernel_rfl) rfl
                exact .val (want0 rfl) rfl (by simp [Act.eval, e5, go_sem]) (Keeps.is rfl)
              · intro a' w' hb' h'
                have cc := (hb'.cell (p := ⟨wr.heap.size, 2, none⟩) HS8.out).trans C2.out
                have e42 := (sw h' 42 (by kernel_rfl) (by kernel_rfl)).eq
                exact .val (want0 rfl) rfl (by simp [Act.eval, e42, cc, go_sem]) (Keeps.is rfl)
              · intro a' w' hb' h'
                have e5 := sb h' 5 (by kernel_rfl) (by kernel_rfl) rfl
                exact .val (want0 rfl) rfl (by simp [Act.eval, e5, go_sem]) (Keeps.is rfl)
              · intro a' w' hb' h'
                have cc := (hb'.cell (p := ⟨wr.heap.size, 2, none⟩) HS8.out).trans C2.out
                have e44 := (sw h' 44 (by kernel_rfl) (by kernel_rfl)).eq
                exact .val (want0 rfl) rfl (by simp [Act.eval, e44, cc, go_sem]) (Keeps.is rfl)
              · intro a' w' hb' h'
                have e45 := (sw h' 45 (by kernel_rfl) (by kernel_rfl)).eq
                exact .val (want0 rfl) rfl (by simp [Act.eval, e45, go_sem]) (Keeps.is rfl)
              · intro a' w' hb' h'
                have e46 := (sw h' 46 (by kernel_rfl) (by kernel_rfl)).eq
                exact .val (want0 rfl) rfl (by simp [Act.eval, e46, go_sem]; split <;> omega) (Keeps.is rfl)
              · intro a' w' hb' h'
                have e43 := (sw h' 43 (by kernel_rfl) (by kernel_rfl)).eq
                have e47 := (sw h' 47 (by kernel_rfl) (by kernel_rfl)).eq
                have hsl := slice_high fA fn fc (min fn 256) (by have : fn ≤ fc := Hok1.out.cap; omega) w'
                exact .val (want0 rfl) rfl (by simp [Act.eval, e43, e47, hsl, go_sem]) (Keeps.is rfl)
              · intro a' w' hb' h'
                have e48 := (sw h' 48 (by kernel_rfl) (by kernel_rfl)).eq
                refine .called (d := 49) (want0 rfl) rfl (by simp [Act.eval, e48, go_sem]) ((clone_any fA (min fn 256) fc B (bys (fm.take 256)) w' (HL8.out.below (hb'.mono HB8.out)) (by rw [bys_len, List.length_take, ← HLen.out]; omega) (bys_one _) (by omega)).mono ?_)
                rintro e w9 ⟨v', rfl, ho, hb9⟩
                obtain ⟨A', c', rfl, _⟩ := own_form ho
                exact ⟨_, rfl, hb9, fun W hW => ⟨A', c', rfl, ((LiesT.of_own ho).kept fun b hq _ => hW.block b hq).up hW.size⟩⟩
              · intro a' w' hb' h'
                obtain ⟨A', c', e49, hl49⟩ := (sw h' 49 (by kernel_rfl) (by kernel_rfl)).now
                have e41 := (sw h' 41 (by kernel_rfl) (by kernel_rfl)).eq
                have e41' : a'.tmps[41]?.getD undef = .int .i64 kd := by simpa using e41
                have e49' : a'.tmps[49]?.getD undef = .slice A' (min fn 256) c' := by simpa using e49
                exact .val (d := 50) (want0 rfl) rfl (by simp [Act.eval, e41', e49', go_sem]) (fun W hW => ⟨A', c', rfl, (hl49.kept fun b hq _ => hW.block b hq).up hW.size⟩)
              · intro o a' w' ho hA
                obtain rfl := Option.some.inj ho.symm
                rw [if_pos (want0 rfl)]
                have e37 := (hA.done 0 _ 37 (by decide) rfl rfl).eq
                have e38 := (hA.done 1 _ 38 (by decide) rfl rfl).eq
                have e39 := (hA.done 2 _ 39 (by decide) rfl rfl).eq
                have e40 := (hA.done 3 _ 40 (by decide) rfl rfl).eq
                have e41 := (hA.done 4 _ 41 (by decide) rfl rfl).eq
                have e42 := (hA.done 5 _ 42 (by decide) rfl rfl).eq
                have e43 := (hA.done 6 _ 43 (by decide) rfl rfl).eq
                have e44 := (hA.done 7 _ 44 (by decide) rfl rfl).eq
                have e45 := (hA.done 8 _ 45 (by decide) rfl rfl).eq
                have e46 := (hA.done 9 _ 46 (by decide) rfl rfl).eq
                have e47 := (hA.done 10 _ 47 (by decide) rfl rfl).eq
                have e48 := (hA.done 11 _ 48 (by decide) rfl rfl).eq
                obtain ⟨A', c', e50, hl50⟩ := (hA.done 13 _ 50 (by decide) rfl rfl).now
                obtain ⟨w9, hr, hF9, hg9⟩ := ((hF.out.below Hbf2.out).below hA.below).store (by unfold maxLen; omega) ⟨at_, kd, fA, fn, fc, fm⟩ Hok1.out.key Hnew.out Hon.out A' (min fn 256) c' (by show min fn 256 = (fm.take 256).length; rw [List.length_take, ← HLen.out]; omega) hl50
                refine wp_mapUpdate_run 92 (.tmp 37) (.tmp 39) (.tmp 50) rfl e37 e39 e50 hr ?_
                obtain ⟨v49, e49⟩ : ∃ v, a'.tmps.getD 49 undef = v := ⟨_, rfl⟩
                have hfr := Flo2.frame_eq [(37, .map (some w.heap.size)), (38, .pointer (some ⟨wr.heap.size, 0, none⟩)), (39, .int .i64 at_), (40, .pointer (some ⟨wr.heap.size, 1, none⟩)), (41, .int .i64 kd), (42, .pointer (some ⟨wr.heap.size, 2, none⟩)), (43, .slice fA fn fc), (44, .pointer (some ⟨wr.heap.size, 2, none⟩)), (45, .slice fA fn fc), (46, .int .i64 (fn : Int)), (47, .int .i64 ((min fn 256 : Nat) : Int)), (48, .slice fA (min fn 256) fc), (49, v49), (50, .agg #[.int .i64 kd, .slice A' (min fn 256) c'])] a'.tmps _ hA.size (by
                  intro x hx
                  simp only [List.mem_cons, List.not_mem_nil, or_false] at hx
                  rcases hx with h | h | h | h | h | h | h | h | h | h | h | h | h | h <;> subst h
                  · exact e37
                  · exact e38
                  · exact e39
                  · exact e40
                  · exact e41
                  · exact e42
                  · exact e43
                  · exact e44
                  · exact e45
                  · exact e46
                  · exact e47
                  · exact e48
                  · exact e49
                  · exact e50) (fun t ht => hA.kept t (Flo3.writes_not _ _ (by kernel_rfl) ht))
                have ha := Flo3.act_ext hfr hA.defers
                change Exit.inBlock 1 (Exit.then _ _) .normal a' w9
                have Hb9 := hide (show Below w.heap.size w w9 from (Hb.out.trans ((Hbf2.out.trans (hA.below.mono Hbf2.out.size)).mono Hb.out.size)).grown hg9 (by have := Hb.out.size; have := Hbf2.out.size; have := hA.below.size; omega) (fun q hq => by injection hq with hq; omega))
                have HF9 := hide hF9
                clear hfr hA e37 e38 e39 e40 e41 e42 e43 e44 e45 e46 e47 e48 e49 e50 hl50 hr hF9 hg9 ho C0 C1 C2
                subst ha
                simp only [Flo2.puts, List.foldl_cons, List.foldl_nil, List.setIfInBounds_toArray, List.set, Exit.inBlock, Exit.then]
                go_wp2
                go_roundw
                case rel => exact ⟨j + 1, by omega, rfl, Hb9.out, by rw [Ht.out]; exact HF9⟩
                case measure => simp [intOf]; omega
        · have hk1 : (kd != 1) = true := bne_iff_ne.2 (fun h => hk (.inl h))
          have hk2 : (kd != 2) = true := bne_iff_ne.2 (fun h => hk (.inr h))
          have Hoff := hide (firstF_off (t := t) (f := ⟨at_, kd, fA, fn, fc, fm⟩) (decide_eq_false (fun h => hk h.2)))
          clear hb hbf hk
          go_wp2_with (with_reducible refine wpl_load_addr rfl 67 (.tmp 13) rfl (a.add (j * 3)) _ Hca.out rfl _ Try.underlying67 rfl 3 infoFlt rfl ?_)
          go_roundw
          case rel => exact ⟨j + 1, by omega, rfl, Hb.out.trans (Hbf.out.mono Hb.out.size), hide (by rw [Ht.out]; exact (hF.out.below Hbf.out).same Hoff.out (by omega))⟩
          case measure => simp [intOf]; omega
    · obtain rfl : j = n := by omega
      go_wp2
      go_ret
      refine ⟨_, rfl, ?_, Nat.le_refl _, Hb.out⟩
      have := hF.out.done
      rwa [List.take_of_length_le (Nat.le_of_eq Hn.out.symm)] at this
end Go.Proofs.Ytahipfmokbiklaa
