/-
  THE LAW FragJoins, walked.
-/
import Derived.Test.YtlbgcbekjjkokaaJM3
import Derived.Test.YtlbgcbekjjkokaaLight
import Derived.Lib.QuietBelow
namespace Go.Proofs.Ytlbgcbekjjkokaa
open Go.RowKit Go.Sort

/-- A bundle as it may come in. -/
structure Bn.Raw (w : World) (B : Nat) (b : Bn) : Prop where
  lies : Lies w B b.A (b.bs.flatMap Bk.cells)
  len : b.n = b.bs.length
  cap : b.n ≤ b.c
  big : b.c ≤ maxLen
  fl : b.p.fl < 18446744073709551616
  off : b.p.off < 18446744073709551616
  tot : b.p.tot < 18446744073709551616
theorem Bn.Raw.ok {w : World} {B : Nat} {b : Bn} (h : b.Raw w B) (hl : b.light = true) : b.Ok w B := by
  unfold Bn.light at hl
  rw [Bool.and_eq_true, decide_eq_true_iff] at hl
  obtain ⟨⟨h1, h2, h3, h4, h5⟩, _⟩ := hl
  exact ⟨h.lies, h.len, h.cap, by omega, h.big, h.fl, h.off, h.tot, by omega, by omega, by omega, by omega⟩
theorem zBn_val : zBn.val = .agg #[.int .u64 0, .int .i64 0, .int .i64 0, .string ⟨#[]⟩, .int .u64 0, .int .u64 0, .int .i64 0, .string ⟨#[]⟩, .int .u64 0, .int .u64 0, .int .i64 0, .string ⟨#[]⟩, .int .u64 0, .int .u64 0, .int .u64 0, .int .u64 0, .int .u64 0, .int .u64 0, .int .u64 0, .slice none 0 0, .int .u64 0, .int .u64 0, .int .u64 0, .int .i64 0, .string ⟨#[]⟩] := rfl
theorem eql26 (a b : Nat) (w : World) : (binOp .eql 26 (.agg #[.int .u64 (a : Int), .int .u64 (b : Int)]) (.agg #[.int .u64 (a : Int), .int .u64 (b : Int)])).run Try.prog w = .ok (.bool true) w := by
  rw [run_eql_struct, show (10000 : Nat) = 9998 + 2 from rfl]
  have hS : Try.prog.underlying 26 = some (.struct (Try.prog.fieldsOf 26)) := by kernel_rfl
  have hp : Try.prog.stoodInHeld 26 = false := by kernel_rfl
  have key : (Op.equalIn (9998 + 2) 26 (.agg #[.int .u64 (a : Int), .int .u64 (b : Int)]) (.agg #[.int .u64 (a : Int), .int .u64 (b : Int)])).run Try.prog w = .ok (((a : Int) == (a : Int)) && (((b : Int) == (b : Int)) && true)) w := by
    rw [run_equalIn_agg w (9998 + 1) 26 _ _ hS hp]
    simp only [Program.fieldsOf, Try.underlying26]
    clear hS
    exact eqF_and (by decide) (by go_simp) (by go_simp) (eqI 9998 a a w)
      (eqF_and (by decide) (by go_simp) (by go_simp) (eqI 9998 b b w) eqF_nil)
  rw [key]
  simp
theorem join_all (A : Option Addr) (n c B : Nat) (l : List Bn) (w : World) (h : Lies w B A (l.flatMap Bn.cells)) (hok : ∀ b ∈ l, b.Ok w B) (hn : n = l.length) (hB : B ≤ w.heap.size) (hbig : n ≤ 1000000) :
    Calls Try.prog 12 #[.slice A n c] w (JoinPost l w) := by
  cases l with
  | nil => subst hn; exact join_nil A c w
  | cons f r =>
    rcases h with h | ⟨a, rfl, h1, h2⟩
    · simp [Bn.cells] at h
    · exact join_any a n c B f r (f :: r) w rfl (.inr ⟨a, rfl, h1, h2⟩) hok hn hB hbig
theorem joins_all (A : Option Addr) (n c B : Nat) (l : List Bn) (w : World) (h : Lies w B A (l.flatMap Bn.cells)) (hok : ∀ b ∈ l, b.Ok w B) (hn : n = l.length) (hB : B ≤ w.heap.size) (hbig : n ≤ 1000000) :
    Calls Try.prog 13 #[.slice A n c] w (JoinsPost l w) := by
  cases l with
  | nil => subst hn; exact joins_nil A c w
  | cons f r =>
    rcases h with h | ⟨a, rfl, h1, h2⟩
    · simp [Bn.cells] at h
    · exact joins_any a n c B f r (f :: r) w rfl (.inr ⟨a, rfl, h1, h2⟩) hok hn hB hbig

set_option maxRecDepth 100000 in
set_option maxHeartbeats 4000000 in
theorem fragJoins_few (A : Option Addr) (n c B : Nat) (l : List Bn) (w : World) (h : Lies w B A (l.flatMap Bn.cells)) (hraw : ∀ b ∈ l, b.Raw w B) (hn : n = l.length) (hB : B ≤ w.heap.size) (hn12 : n ≤ 12) (N : Nat) (hN : (12 < N ∧ n = 12 ∧ 12 ≤ c) ∨ N = n) :
    Calls Try.prog 4 #[.slice A N c] w fun e w' => e = .returned (.bool true) ∧ Below w.heap.size w w' := by
  have Hl := hide h
  have Hraw := hide hraw
  have Hn := hide hn
  clear h hraw hn
  rcases hN with ⟨h12, rfl, hc12⟩ | rfl
  · have h12' : (12 : Int) < (N : Int) := by omega
    have hc12' : (12 : Int) ≤ (c : Int) := by omega
    go_enter Try.func4, Try.ntmps4
    go_wp2_with fail
    have hNb : 12 ≤ 12 := by omega
    go_loopw [3] (fun s3 wr => ∃ i : Nat, i ≤ 12 ∧ s3 = .int .i64 (i : Int) ∧ Below w.heap.size w wr ∧ Hid (∀ b ∈ l.take i, b.light = true)) (fun s3 wr => 12 - (intOf s3).toNat)
    case atStart => exact ⟨0, Nat.zero_le _, rfl, Below.refl _ _, hide (by simp)⟩
    case round =>
      obtain ⟨i, hi, rfl, hb, HL⟩ := hrel
      have Hb := hide hb
      have hzw := hb.size
      clear hb
      by_cases hlt : i < 12
      · have hlt' : (i : Int) < 12 := by omega
        have hkl : i < l.length := by rw [← Hn.out]; exact hlt
        obtain ⟨a, rfl, hab, hca⟩ := (Hl.out.below (Hb.out.mono hB)).elem (f := Bn.cells) (m := 25) Bn.cells_len hkl (by omega)
        have Hrb := hide (Hraw.out l[i] (List.getElem_mem hkl))
        have Htk := hide (show l.take (i + 1) = l.take i ++ [l[i]] from List.take_succ_eq_append_getElem hkl)
        have Hca := hide hca
        clear hca
        generalize l[i] = b at *
        have FL := hide (light_any b B wr (Hrb.out.lies.below (Hb.out.mono hB)) Hrb.out.len (by omega))
        go_wp2_with (with_reducible refine wpl_load_addr rfl 33 (.tmp 21) rfl (a.add (i * 25)) b.cells Hca.out rfl _ Try.underlying33 rfl 25 info33 (by with_unfolding_all rfl) ?_)
        refine FL.out.mono ?_
        rintro e w3 ⟨rfl, hb3⟩
        have Hb3 := hide (Hb.out.trans (hb3.mono hzw))
        have c18 : w3.cell? ⟨(a.add (i * 25)).block, (a.add (i * 25)).off + 18, none⟩ = some (.int .u64 (b.p.tot : Int)) := (hb3.cell (p := ⟨(a.add (i * 25)).block, (a.add (i * 25)).off + 18, none⟩) (by show (a.add (i * 25)).block < _; rw [Addr.add_block]; omega)).trans (Hca.out 18 _ rfl)
        clear hb3 FL Hca
        have FA := hide (awake12_any w3)
        cases hbl : b.light with
        | false =>
          go_wp2_with fail
          refine FA.out.mono ?_
          rintro e w4 ⟨rfl, hb4⟩
          have Hb4 := hide (Hb3.out.trans (hb4.mono Hb3.out.size))
          clear hb4
          go_wp2
          go_ret
          exact ⟨rfl, Hb4.out⟩
        | true =>
          have HL2 := hide (show ∀ d ∈ l.take (i + 1), d.light = true by
            rw [Htk.out]
            intro d hd
            rcases List.mem_append.1 hd with hd | hd
            · exact HL.out d hd
            · rw [List.mem_singleton] at hd; rw [hd]; exact hbl)
          clear hbl HL
          by_cases h300 : 300 < b.p.tot
          · have h300' : (300 : Int) < (b.p.tot : Int) := by omega
            by_cases h65 : b.p.tot ≤ 65536
            · have h65' : (b.p.tot : Int) ≤ 65536 := by omega
              go_wp2_with fail
              refine FA.out.mono ?_
              rintro e w4 ⟨rfl, hb4⟩
              have Hb4 := hide (Hb3.out.trans (hb4.mono Hb3.out.size))
              clear hb4
              go_wp2
              go_ret
              exact ⟨rfl, Hb4.out⟩
            · have h65' : ¬ (b.p.tot : Int) ≤ 65536 := by omega
              go_wp2
              go_roundw
              case rel => exact ⟨i + 1, by omega, by go_num, Hb3.out, HL2⟩
              case measure => simp [intOf]; omega
          · have h300' : ¬ (300 : Int) < (b.p.tot : Int) := by omega
            go_wp2
            go_roundw
            case rel => exact ⟨i + 1, by omega, by go_num, Hb3.out, HL2⟩
            case measure => simp [intOf]; omega
      · have hlt' : ¬ (i : Int) < 12 := by omega
        have Hok := hide (show ∀ b ∈ l, b.Ok w B from fun b hb => (Hraw.out b hb).ok (HL.out b (by rw [List.take_of_length_le (by rw [← Hn.out]; omega)]; exact hb)))
        clear HL
        generalize wr = w3 at *
        have FJ := hide (join_all A 12 c B l w3 (Hl.out.below (Hb.out.mono hB)) (fun b hb => (Hok.out b hb).below (Hb.out.mono hB)) Hn.out (by omega) (by omega))
        go_wp2_with fail
        refine FJ.out.mono ?_
        rintro e w4 ⟨X, er, rfl, hokX, hJ, hb4⟩
        have Hb4 := hide (Hb.out.trans (hb4.mono hzw))
        have hz4 := Hb4.out.size
        have HX := hide hokX
        have HJ := hide hJ
        have Hval := hide (show X.val = .agg X.cells.toArray from rfl)
        rw [Hval.out]
        obtain ⟨q4, hq4⟩ : ∃ q4, q4 = w4.heap.size := ⟨_, rfl⟩
        have Hq4 := hide hq4
        clear hb4 hokX hJ FJ hq4
        go_upto_region 9 with (with_reducible refine wpl_store_last w4 rfl 33 (.tmp 4) (.tmp 47) rfl 33 _ X.cells.toArray rfl rfl 25 info33 (cells_size X) (by with_unfolding_all rfl) (cells_one X) ?_; rw [← Hq4.out])
        try simp only [Act.put]
        generalize hw5 : World.alloc w4 _ = w5
        have hb5 : Below w4.heap.size w4 w5 := by rw [← hw5]; exact (Below.refl _ _).alloc (Nat.le_refl _) _
        have Hx5 := hide (show w5.heap[q4]? = some (.cells X.cells.toArray 33 (0, 0)) by rw [← hw5, Hq4.out]; exact heap_alloc_last w4 _)
        have Hb5 := hide (Hb4.out.trans (hb5.mono hz4))
        have HX5 := hide ((HX.out.below hb5).up hb5.size)
        have hq45 : q4 < w5.heap.size := (Array.getElem?_eq_some_iff.1 Hx5.out).1
        clear hw5 hb5 HX
        have FR := hide (joins_all A 12 c B l w5 (Hl.out.below (Hb5.out.mono hB)) (fun b hb => (Hok.out b hb).below (Hb5.out.mono hB)) Hn.out (Nat.le_trans hB Hb5.out.size) (by omega))
        go_wp2_with fail
        refine FR.out.mono ?_
        rintro e w6 ⟨d, f, rfl, hR, hb6⟩
        have Hag := hide (joins_agree HJ.out hR)
        have Hb6 := hide (Hb5.out.trans (hb6.mono Hb5.out.size))
        have Hx6 := hide ((hb6.block q4 hq45).trans Hx5.out)
        have HX6 := hide ((HX5.out.below hb6).up hb6.size)
        have hq46 : q4 < w6.heap.size := (Array.getElem?_eq_some_iff.1 Hx6.out).1
        clear hR hb6 FR HJ Hx5 HX5
        obtain rfl : er = f := Hag.out.err
        by_cases hf : er = 0
        · subst hf
          obtain ⟨hd, hfl, b0, r, hl0, e1, e2, e3⟩ := Hag.out.good rfl
          have hc0 := range_of_row Hx6.out
          obtain ⟨a, rfl, hca⟩ : ∃ a, A = some a ∧ ∀ j v, b0.cells[j]? = some v → w6.cell? (a.add j) = some v := by
            have h6 := Hl.out.below (Hb6.out.mono hB)
            rcases h6 with h | ⟨a, h1, h2, h3⟩
            · rw [hl0] at h; simp [Bn.cells] at h
            · exact ⟨a, h1, first_cells hl0 (.inr ⟨a, rfl, h2, h3⟩)⟩
          have hn0 : (0 : Int) < 12 := by have h1 := Hn.out; rw [hl0, List.length_cons] at h1; omega
          have k0 := fun d os => cell_regrown (show w6.cell? ⟨q4, 0, none⟩ = some (.int .u64 (X.p.fl : Int)) from hc0 0 _ rfl) d os
          have k6 := fun d os => cell_regrown (show w6.cell? ⟨q4, 6, none⟩ = some (.int .i64 X.p.src.sch) from hc0 6 _ rfl) d os
          have k7 := fun d os => cell_regrown (show w6.cell? ⟨q4, 7, none⟩ = some (.string X.p.src.name) from hc0 7 _ rfl) d os
          have k8 := fun d os => cell_regrown (show w6.cell? ⟨q4, 8, none⟩ = some (.int .u64 (X.p.src.node : Int)) from hc0 8 _ rfl) d os
          have k9 := fun d os => cell_regrown (show w6.cell? ⟨q4, 9, none⟩ = some (.int .u64 (X.p.src.svc : Int)) from hc0 9 _ rfl) d os
          have k14 := fun d os => cell_regrown (show w6.cell? ⟨q4, 14, none⟩ = some (.int .u64 (X.p.time : Int)) from hc0 14 _ rfl) d os
          have k15 := fun d os => cell_regrown (show w6.cell? ⟨q4, 15, none⟩ = some (.int .u64 (X.p.seq : Int)) from hc0 15 _ rfl) d os
          have k24 := fun d os => cell_regrown (show w6.cell? ⟨q4, 24, none⟩ = some (.string X.pay.data) from hc0 24 _ rfl) d os
          have j6 := fun d os => cell_regrown (show w6.cell? ⟨a.block, a.off + 6, none⟩ = some (.int .i64 X.p.src.sch) by rw [e1]; exact hca 6 _ rfl) d os
          have j7 := fun d os => cell_regrown (show w6.cell? ⟨a.block, a.off + 7, none⟩ = some (.string X.p.src.name) by rw [e1]; exact hca 7 _ rfl) d os
          have j8 := fun d os => cell_regrown (show w6.cell? ⟨a.block, a.off + 8, none⟩ = some (.int .u64 (X.p.src.node : Int)) by rw [e1]; exact hca 8 _ rfl) d os
          have j9 := fun d os => cell_regrown (show w6.cell? ⟨a.block, a.off + 9, none⟩ = some (.int .u64 (X.p.src.svc : Int)) by rw [e1]; exact hca 9 _ rfl) d os
          have j14 := fun d os => cell_regrown (show w6.cell? ⟨a.block, a.off + 14, none⟩ = some (.int .u64 (X.p.time : Int)) by rw [e2]; exact hca 14 _ rfl) d os
          have j15 := fun d os => cell_regrown (show w6.cell? ⟨a.block, a.off + 15, none⟩ = some (.int .u64 (X.p.seq : Int)) by rw [e3]; exact hca 15 _ rfl) d os
          have q24 := eq24r (a := X.p.src.sch) (a' := X.p.src.sch) (b := X.p.src.name) (b' := X.p.src.name) (c := (X.p.src.node : Int)) (c' := (X.p.src.node : Int)) (d := (X.p.src.svc : Int)) (d' := (X.p.src.svc : Int)) (r := true) (by simp)
          have q26 := fun W => eql26 X.p.time X.p.seq W
          have hstr : (X.pay.data.toList == d.toList) = true := by rw [hd]; exact beq_self_eq_true _
          have hfb : ((X.p.fl : Int) % 2 == 0) = true := beq_iff_eq.2 (by omega)
          clear hd hfl hl0 e1 e2 e3 hc0 hca Hag Hx6
          go_upto_region 12 with fail
          refine wp_region_quiet_below (by kernel_rfl) (by kernel_rfl) ?_
          repeat (go_big_quiet_step (exact Calls.regrown_of (awake12_any _)))
          refine wpQuiet_nil ?_
          intro _ hw'
          obtain ⟨⟨dq, osq⟩, hw''⟩ := hw'
          subst hw''
          go_wp2
          go_ret
          exact ⟨rfl, Hb6.out.trans ((below_regrown w6 dq osq).mono Hb6.out.size)⟩
        · have hX := Hag.out.bad hf
          have hfb : (er != 0) = true := bne_iff_ne.2 hf
          have hfb2 : (er == er) = true := beq_self_eq_true er
          have Hz := hide zBn_val
          clear Hag
          have FA := hide (awake12_any w6)
          go_wp2_with fail
          refine FA.out.mono ?_
          rintro e w7 ⟨rfl, hb7⟩
          have Hb7 := hide (Hb6.out.trans (hb7.mono Hb6.out.size))
          have R7 := hide (range_of_row ((hb7.block q4 hq46).trans Hx6.out))
          have FS := hide (rsame_any X zBn w7.heap.size w7 (by rw [hX]; exact .inl rfl) (.inl rfl) (by rw [hX]; rfl) rfl (Nat.le_refl _) (by rw [hX]; decide))
          rw [show X.sameN zBn = true by rw [hX]; exact sameN_self zBn none 0, Hz.out] at FS
          clear hb7 FA Hx6 hX
          go_wp2_with (with_reducible refine wpl_load_want ?_ 33 (.tmp 4) rfl q4 0 X.cells R7.out rfl _ Try.underlying33 rfl 25 info33 (Bn.cells_len _) ?_)
          refine FS.out.mono ?_
          rintro e w8 ⟨rfl, hb8⟩
          have Hb8 := hide (Hb7.out.trans (hb8.mono Hb7.out.size))
          clear hb8
          go_wp2
          go_ret
          exact ⟨rfl, Hb8.out⟩
  · have h12' : ¬ (12 : Int) < (N : Int) := by omega
    go_enter Try.func4, Try.ntmps4
    go_wp2_with fail
    have hNb : N ≤ 12 := by omega
    go_loopw [3] (fun s3 wr => ∃ i : Nat, i ≤ N ∧ s3 = .int .i64 (i : Int) ∧ Below w.heap.size w wr ∧ Hid (∀ b ∈ l.take i, b.light = true)) (fun s3 wr => N - (intOf s3).toNat)
    case atStart => exact ⟨0, Nat.zero_le _, rfl, Below.refl _ _, hide (by simp)⟩
    case round =>
      obtain ⟨i, hi, rfl, hb, HL⟩ := hrel
      have Hb := hide hb
      have hzw := hb.size
      clear hb
      by_cases hlt : i < N
      · have hlt' : (i : Int) < (N : Int) := by omega
        have hkl : i < l.length := by rw [← Hn.out]; exact hlt
        obtain ⟨a, rfl, hab, hca⟩ := (Hl.out.below (Hb.out.mono hB)).elem (f := Bn.cells) (m := 25) Bn.cells_len hkl (by omega)
        have Hrb := hide (Hraw.out l[i] (List.getElem_mem hkl))
        have Htk := hide (show l.take (i + 1) = l.take i ++ [l[i]] from List.take_succ_eq_append_getElem hkl)
        have Hca := hide hca
        clear hca
        generalize l[i] = b at *
        have FL := hide (light_any b B wr (Hrb.out.lies.below (Hb.out.mono hB)) Hrb.out.len (by omega))
        go_wp2_with (with_reducible refine wpl_load_addr rfl 33 (.tmp 21) rfl (a.add (i * 25)) b.cells Hca.out rfl _ Try.underlying33 rfl 25 info33 (by with_unfolding_all rfl) ?_)
        refine FL.out.mono ?_
        rintro e w3 ⟨rfl, hb3⟩
        have Hb3 := hide (Hb.out.trans (hb3.mono hzw))
        have c18 : w3.cell? ⟨(a.add (i * 25)).block, (a.add (i * 25)).off + 18, none⟩ = some (.int .u64 (b.p.tot : Int)) := (hb3.cell (p := ⟨(a.add (i * 25)).block, (a.add (i * 25)).off + 18, none⟩) (by show (a.add (i * 25)).block < _; rw [Addr.add_block]; omega)).trans (Hca.out 18 _ rfl)
        clear hb3 FL Hca
        have FA := hide (awake12_any w3)
        cases hbl : b.light with
        | false =>
          go_wp2_with fail
          refine FA.out.mono ?_
          rintro e w4 ⟨rfl, hb4⟩
          have Hb4 := hide (Hb3.out.trans (hb4.mono Hb3.out.size))
          clear hb4
          go_wp2
          go_ret
          exact ⟨rfl, Hb4.out⟩
        | true =>
          have HL2 := hide (show ∀ d ∈ l.take (i + 1), d.light = true by
            rw [Htk.out]
            intro d hd
            rcases List.mem_append.1 hd with hd | hd
            · exact HL.out d hd
            · rw [List.mem_singleton] at hd; rw [hd]; exact hbl)
          clear hbl HL
          by_cases h300 : 300 < b.p.tot
          · have h300' : (300 : Int) < (b.p.tot : Int) := by omega
            by_cases h65 : b.p.tot ≤ 65536
            · have h65' : (b.p.tot : Int) ≤ 65536 := by omega
              go_wp2_with fail
              refine FA.out.mono ?_
              rintro e w4 ⟨rfl, hb4⟩
              have Hb4 := hide (Hb3.out.trans (hb4.mono Hb3.out.size))
              clear hb4
              go_wp2
              go_ret
              exact ⟨rfl, Hb4.out⟩
            · have h65' : ¬ (b.p.tot : Int) ≤ 65536 := by omega
              go_wp2
              go_roundw
              case rel => exact ⟨i + 1, by omega, by go_num, Hb3.out, HL2⟩
              case measure => simp [intOf]; omega
          · have h300' : ¬ (300 : Int) < (b.p.tot : Int) := by omega
            go_wp2
            go_roundw
            case rel => exact ⟨i + 1, by omega, by go_num, Hb3.out, HL2⟩
            case measure => simp [intOf]; omega
      · have hlt' : ¬ (i : Int) < (N : Int) := by omega
        have Hok := hide (show ∀ b ∈ l, b.Ok w B from fun b hb => (Hraw.out b hb).ok (HL.out b (by rw [List.take_of_length_le (by rw [← Hn.out]; omega)]; exact hb)))
        clear HL
        generalize wr = w3 at *
        have FJ := hide (join_all A N c B l w3 (Hl.out.below (Hb.out.mono hB)) (fun b hb => (Hok.out b hb).below (Hb.out.mono hB)) Hn.out (by omega) (by omega))
        go_wp2_with fail
        refine FJ.out.mono ?_
        rintro e w4 ⟨X, er, rfl, hokX, hJ, hb4⟩
        have Hb4 := hide (Hb.out.trans (hb4.mono hzw))
        have hz4 := Hb4.out.size
        have HX := hide hokX
        have HJ := hide hJ
        have Hval := hide (show X.val = .agg X.cells.toArray from rfl)
        rw [Hval.out]
        obtain ⟨q4, hq4⟩ : ∃ q4, q4 = w4.heap.size := ⟨_, rfl⟩
        have Hq4 := hide hq4
        clear hb4 hokX hJ FJ hq4
        go_upto_region 9 with (with_reducible refine wpl_store_last w4 rfl 33 (.tmp 4) (.tmp 47) rfl 33 _ X.cells.toArray rfl rfl 25 info33 (cells_size X) (by with_unfolding_all rfl) (cells_one X) ?_; rw [← Hq4.out])
        try simp only [Act.put]
        generalize hw5 : World.alloc w4 _ = w5
        have hb5 : Below w4.heap.size w4 w5 := by rw [← hw5]; exact (Below.refl _ _).alloc (Nat.le_refl _) _
        have Hx5 := hide (show w5.heap[q4]? = some (.cells X.cells.toArray 33 (0, 0)) by rw [← hw5, Hq4.out]; exact heap_alloc_last w4 _)
        have Hb5 := hide (Hb4.out.trans (hb5.mono hz4))
        have HX5 := hide ((HX.out.below hb5).up hb5.size)
        have hq45 : q4 < w5.heap.size := (Array.getElem?_eq_some_iff.1 Hx5.out).1
        clear hw5 hb5 HX
        have FR := hide (joins_all A N c B l w5 (Hl.out.below (Hb5.out.mono hB)) (fun b hb => (Hok.out b hb).below (Hb5.out.mono hB)) Hn.out (Nat.le_trans hB Hb5.out.size) (by omega))
        go_wp2_with fail
        refine FR.out.mono ?_
        rintro e w6 ⟨d, f, rfl, hR, hb6⟩
        have Hag := hide (joins_agree HJ.out hR)
        have Hb6 := hide (Hb5.out.trans (hb6.mono Hb5.out.size))
        have Hx6 := hide ((hb6.block q4 hq45).trans Hx5.out)
        have HX6 := hide ((HX5.out.below hb6).up hb6.size)
        have hq46 : q4 < w6.heap.size := (Array.getElem?_eq_some_iff.1 Hx6.out).1
        clear hR hb6 FR HJ Hx5 HX5
        obtain rfl : er = f := Hag.out.err
        by_cases hf : er = 0
        · subst hf
          obtain ⟨hd, hfl, b0, r, hl0, e1, e2, e3⟩ := Hag.out.good rfl
          have hc0 := range_of_row Hx6.out
          obtain ⟨a, rfl, hca⟩ : ∃ a, A = some a ∧ ∀ j v, b0.cells[j]? = some v → w6.cell? (a.add j) = some v := by
            have h6 := Hl.out.below (Hb6.out.mono hB)
            rcases h6 with h | ⟨a, h1, h2, h3⟩
            · rw [hl0] at h; simp [Bn.cells] at h
            · exact ⟨a, h1, first_cells hl0 (.inr ⟨a, rfl, h2, h3⟩)⟩
          have hn0 : (0 : Int) < (N : Int) := by have h1 := Hn.out; rw [hl0, List.length_cons] at h1; omega
          have k0 := fun d os => cell_regrown (show w6.cell? ⟨q4, 0, none⟩ = some (.int .u64 (X.p.fl : Int)) from hc0 0 _ rfl) d os
          have k6 := fun d os => cell_regrown (show w6.cell? ⟨q4, 6, none⟩ = some (.int .i64 X.p.src.sch) from hc0 6 _ rfl) d os
          have k7 := fun d os => cell_regrown (show w6.cell? ⟨q4, 7, none⟩ = some (.string X.p.src.name) from hc0 7 _ rfl) d os
          have k8 := fun d os => cell_regrown (show w6.cell? ⟨q4, 8, none⟩ = some (.int .u64 (X.p.src.node : Int)) from hc0 8 _ rfl) d os
          have k9 := fun d os => cell_regrown (show w6.cell? ⟨q4, 9, none⟩ = some (.int .u64 (X.p.src.svc : Int)) from hc0 9 _ rfl) d os
          have k14 := fun d os => cell_regrown (show w6.cell? ⟨q4, 14, none⟩ = some (.int .u64 (X.p.time : Int)) from hc0 14 _ rfl) d os
          have k15 := fun d os => cell_regrown (show w6.cell? ⟨q4, 15, none⟩ = some (.int .u64 (X.p.seq : Int)) from hc0 15 _ rfl) d os
          have k24 := fun d os => cell_regrown (show w6.cell? ⟨q4, 24, none⟩ = some (.string X.pay.data) from hc0 24 _ rfl) d os
          have j6 := fun d os => cell_regrown (show w6.cell? ⟨a.block, a.off + 6, none⟩ = some (.int .i64 X.p.src.sch) by rw [e1]; exact hca 6 _ rfl) d os
          have j7 := fun d os => cell_regrown (show w6.cell? ⟨a.block, a.off + 7, none⟩ = some (.string X.p.src.name) by rw [e1]; exact hca 7 _ rfl) d os
          have j8 := fun d os => cell_regrown (show w6.cell? ⟨a.block, a.off + 8, none⟩ = some (.int .u64 (X.p.src.node : Int)) by rw [e1]; exact hca 8 _ rfl) d os
          have j9 := fun d os => cell_regrown (show w6.cell? ⟨a.block, a.off + 9, none⟩ = some (.int .u64 (X.p.src.svc : Int)) by rw [e1]; exact hca 9 _ rfl) d os
          have j14 := fun d os => cell_regrown (show w6.cell? ⟨a.block, a.off + 14, none⟩ = some (.int .u64 (X.p.time : Int)) by rw [e2]; exact hca 14 _ rfl) d os
          have j15 := fun d os => cell_regrown (show w6.cell? ⟨a.block, a.off + 15, none⟩ = some (.int .u64 (X.p.seq : Int)) by rw [e3]; exact hca 15 _ rfl) d os
          have q24 := eq24r (a := X.p.src.sch) (a' := X.p.src.sch) (b := X.p.src.name) (b' := X.p.src.name) (c := (X.p.src.node : Int)) (c' := (X.p.src.node : Int)) (d := (X.p.src.svc : Int)) (d' := (X.p.src.svc : Int)) (r := true) (by simp)
          have q26 := fun W => eql26 X.p.time X.p.seq W
          have hstr : (X.pay.data.toList == d.toList) = true := by rw [hd]; exact beq_self_eq_true _
          have hfb : ((X.p.fl : Int) % 2 == 0) = true := beq_iff_eq.2 (by omega)
          clear hd hfl hl0 e1 e2 e3 hc0 hca Hag Hx6
          go_upto_region 12 with fail
          refine wp_region_quiet_below (by kernel_rfl) (by kernel_rfl) ?_
          repeat (go_big_quiet_step (exact Calls.regrown_of (awake12_any _)))
          refine wpQuiet_nil ?_
          intro _ hw'
          obtain ⟨⟨dq, osq⟩, hw''⟩ := hw'
          subst hw''
          go_wp2
          go_ret
          exact ⟨rfl, Hb6.out.trans ((below_regrown w6 dq osq).mono Hb6.out.size)⟩
        · have hX := Hag.out.bad hf
          have hfb : (er != 0) = true := bne_iff_ne.2 hf
          have hfb2 : (er == er) = true := beq_self_eq_true er
          have Hz := hide zBn_val
          clear Hag
          have FA := hide (awake12_any w6)
          go_wp2_with fail
          refine FA.out.mono ?_
          rintro e w7 ⟨rfl, hb7⟩
          have Hb7 := hide (Hb6.out.trans (hb7.mono Hb6.out.size))
          have R7 := hide (range_of_row ((hb7.block q4 hq46).trans Hx6.out))
          have FS := hide (rsame_any X zBn w7.heap.size w7 (by rw [hX]; exact .inl rfl) (.inl rfl) (by rw [hX]; rfl) rfl (Nat.le_refl _) (by rw [hX]; decide))
          rw [show X.sameN zBn = true by rw [hX]; exact sameN_self zBn none 0, Hz.out] at FS
          clear hb7 FA Hx6 hX
          go_wp2_with (with_reducible refine wpl_load_want ?_ 33 (.tmp 4) rfl q4 0 X.cells R7.out rfl _ Try.underlying33 rfl 25 info33 (Bn.cells_len _) ?_)
          refine FS.out.mono ?_
          rintro e w8 ⟨rfl, hb8⟩
          have Hb8 := hide (Hb7.out.trans (hb8.mono Hb7.out.size))
          clear hb8
          go_wp2
          go_ret
          exact ⟨rfl, Hb8.out⟩

end Go.Proofs.Ytlbgcbekjjkokaa
