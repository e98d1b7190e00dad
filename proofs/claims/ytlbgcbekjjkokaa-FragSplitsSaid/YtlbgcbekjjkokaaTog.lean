/-
  CONTRACTS: frag.together.
-/
import Derived.Test.YtlbgcbekjjkokaaJnM
import Derived.Lib.BufferWrite
namespace Go.Proofs.Ytlbgcbekjjkokaa
open Go.RowKit

/-- A row of one's own that has no room is a block. -/
theorem own_block {w : World} {base g n : Nat} {e : TypeId} {xs : List Value} (h : w.ownsRow base e 1 (.slice (some ⟨g, 0, none⟩) n n) n xs) : w.heap[g]? = some (.cells xs.toArray e (0, 0)) := by
  rcases h.2 with ⟨hv, _⟩ | ⟨g', cap, cur, hv, _, hg, _, _, hs, ht⟩
  · cases hv
  · cases hv
    rw [hg, ← ht, Nat.mul_one, List.take_of_length_le (by simp; omega)]
theorem bys_zero (t : Nat) : (madeCells (Value.int .u8 0).cells (t * 1)).toList = bys (List.replicate t 0) := by
  rw [Nat.mul_one, show (Value.int .u8 0).cells = #[.int .u8 0] from rfl, toList_madeCells_one]
  simp [bys]
theorem str_list (l : List UInt8) : (str l).data.toList = l := by simp [str]
theorem str_of (s : ByteArray) : str s.data.toList = s := by apply ByteArray.ext; simp [str]
theorem str_ext (s : ByteArray) (i j : Nat) : s.extract i j = str ((s.data.toList.take j).drop i) := by
  apply ByteArray.ext
  rw [ByteArray.data_extract]
  apply Array.toList_inj.1
  rw [Array.toList_extract]
  simp [str, List.drop_take]
theorem str_beq (l m : List UInt8) : ((str l).toList == (str m).toList) = decide (l = m) := by
  rw [ByteArray.toList_eq, ByteArray.toList_eq, str_list, str_list]
  by_cases h : l = m
  · rw [decide_eq_true h, h]; exact beq_self_eq_true _
  · rw [decide_eq_false h]; exact beq_eq_false_iff_ne.2 h
theorem step_copyrun {P : Program} {w : World} {ops : Array Oper} {o : Oper} {a : Act} {K : Act → World → Prop} {Q : Exit → Act → World → Prop} {F : Prop} (hgd : o.guard = none) (d s : Operand) (t t' : TypeId)
    (ho : o.op = .call { callee := .builtin .copy, args := #[d, s], argTypes := #[t, t'] }) {v u v' : Value} {w' : World} (hr : (Builtin.copy_ #[t, t'] o.type #[v, u]).run P w = .ok v' w') (hd : a.eval d = v) (hs : a.eval s = u)
    (h : K (a.put o.dst v') w') : if Region.wanted o (yielded ops a.tmps) = true then Oper.wp P o a w K Q else F := by
  have hw : Region.wanted o (yielded ops a.tmps) = true := by simp [Region.wanted, hgd]
  rw [if_pos hw]
  unfold Oper.wp execOp
  simp only [ho, resolve, invoke, builtin, Sem.run_bind, Sem.run_pure, Result.andThen_ok, List.map_toArray, List.map_cons, List.map_nil, hd, hs, hr]
  exact h
/-- What together answers: two unlike bytes at one place, or all the data. -/
def TogPost (t : Nat) (l : List Bn) (w : World) (e : Ending) (w' : World) : Prop :=
  (e = .returned (.tuple #[.slice none 0 0, .bool false]) ∧ Clash l ∧ Below w.heap.size w w') ∨
  (∃ data, e = .returned (.tuple #[.slice (some ⟨w.heap.size, 0, none⟩) t t, .bool true]) ∧ data.length = t ∧ Lies w' w'.heap.size (some ⟨w.heap.size, 0, none⟩) (bys data) ∧ ¬ Clash l ∧ (∀ b ∈ l, ∀ x, b.has x = true → data[x]? = some (b.byte x)) ∧ Below w.heap.size w w')

set_option maxRecDepth 100000 in
set_option maxHeartbeats 4000000 in
theorem together_any (t : Nat) (a : Addr) (n c B : Nat) (l : List Bn) (w : World) (h : Lies w B (some a) (l.flatMap Bn.cells)) (hn : n = l.length) (hB : B ≤ w.heap.size) (hbig : n ≤ 1000000) (hn0 : 0 < n) (ht : t ≤ 65536)
    (h0 : ∀ b, l[0]? = some b → b.p.tot = t) (hel : ∀ b ∈ l, b.p.off < t ∧ b.p.off + b.bytes.length ≤ t) :
    Calls Try.prog 24 #[.slice (some a) n c] w (TogPost t l w) := by
  obtain ⟨i0, hi, hz0, hz1, hz2⟩ := info_parts u8info
  obtain ⟨w0, hmk, ho0, hg0⟩ := run_make_full (P := Try.prog) w w.heap.size 59 5 i0 (.int .u8 0) 1 Try.underlying59 hi hz0 hz1 .u64 .u64 t (by rw [hz2]; omega) (by unfold maxLen; omega) (Nat.le_refl _)
  have hn1 : 0 < l.length := by omega
  have hb0 : l[0].p.tot = t := h0 l[0] (List.getElem?_eq_getElem hn1)
  obtain ⟨a', ha', _, hca⟩ := h.elem (f := Bn.cells) (m := 25) Bn.cells_len hn1 (by omega)
  cases ha'
  have c18 : w.cell? ⟨a.block, a.off + 18, none⟩ = some (.int .u64 (t : Int)) := by rw [← hb0]; exact hca 18 _ rfl
  have hn0' : (0 : Int) < (n : Int) := by omega
  have Hl := hide h
  have Hn := hide hn
  have Hel := hide hel
  clear h hn hel hca
  go_enter Try.func24, Try.ntmps24
  go_wp2_with fail
  refine (rising_any a n c B l w0 (Hl.out.below ⟨hg0.os, hg0.tape, hg0.output, hg0.size, fun k hk => hg0.block k (by omega) (by simp)⟩) Hn.out (Nat.le_trans hB hg0.size) hbig hn0).mono ?_
  rintro e w1 ⟨σ, rfl, hR, hc1, hz1', hb1⟩
  have hGG : w.heap.size < w0.heap.size := (ho0.lt w.heap.size rfl).2
  have hbuf := own_block ho0
  rw [bys_zero] at hbuf
  have hσl : σ.length = l.length := by rw [hR.perm.length_eq, List.length_range]
  have hσlt : ∀ k (hk : k < σ.length), σ[k] < l.length := fun k hk => List.mem_range.1 (hR.perm.mem_iff.1 (List.getElem_mem hk))
  obtain ⟨s, hs⟩ : ∃ s : List Bn, s = σ.attach.map fun x => l[x.val]'(List.mem_range.1 (hR.perm.mem_iff.1 x.property)) := ⟨_, rfl⟩
  have hsl : s.length = l.length := by rw [hs]; simp [hσl]
  have hsk : ∀ k (hk : k < s.length) (h2 : k < σ.length) (h1 : σ[k] < l.length), s[k] = l[σ[k]] := by
    intro k hk h2 h1; subst hs; simp
  have HS := hide (hR.sorted hsl hsk)
  have Hσ := hide (show ∀ k, k < n → ∃ (h1 : k < σ.length) (h2 : k < s.length) (h3 : σ[k] < l.length), s[k] = l[σ[k]] ∧ w1.cell? ⟨w0.heap.size, k, none⟩ = some (.int .i64 (σ[k] : Int)) from fun k hk => ⟨by have := Hn.out; omega, by have := Hn.out; omega, hσlt k (by have := Hn.out; omega), hsk k _ _ _, hc1 k _⟩)
  have Hbw1 := hide (show Below w.heap.size w w1 from Below.trans ⟨hg0.os, hg0.tape, hg0.output, hg0.size, fun k hk => hg0.block k (by omega) (by simp)⟩ (hb1.mono hg0.size))
  have Hbuf := hide ((hb1.block w.heap.size hGG).trans hbuf)
  have Hsn := hide (hsl.trans Hn.out.symm)
  generalize w0.heap.size = G2 at *
  clear hR hc1 hb1 hsl hsk hσl hσlt hs hbuf ho0 hg0 hmk hz0 hz1 hz2 hi c18 hb0 h0 hn1 hn0'
  go_wp2_with fail
  go_loopw [5, 7, 8, 9, 10, 20] (fun s5 s7 s8 s9 s10 s20 wr => ∃ k : Nat, k ≤ n ∧ s20 = .int .i64 (k : Int) ∧ Below w.heap.size w wr ∧ G2 < wr.heap.size ∧ Hid (∀ k, k < n → wr.cell? ⟨G2, k, none⟩ = w1.cell? ⟨G2, k, none⟩) ∧ ∃ (data : List UInt8) (e : Nat), s5 = .int .i64 (e : Int) ∧ Hid (wr.heap[w.heap.size]? = some (.cells (bys data).toArray 5 (0, 0))) ∧ Hid (Tog t (s.take k) data e)) (fun s5 s7 s8 s9 s10 s20 wr => n - (intOf s20).toNat)
  case atStart => exact ⟨0, Nat.zero_le _, rfl, Hbw1.out, hz1', hide (fun k _ => rfl), _, 0, rfl, Hbuf, hide (Tog.nil t)⟩
  case round =>
    obtain ⟨k, hk, rfl, hb, hzr, HC, data, e, rfl, HD, HT⟩ := hrel
    have Hb := hide hb
    have hzw := hb.size
    clear hb
    by_cases hlt : k < n
    · have hlt' : (k : Int) < (n : Int) := by omega
      obtain ⟨h1, h2, hjl, hsj, hcw⟩ := Hσ.out k hlt
      have c8 := (HC.out k hlt).trans hcw
      have hjn : ((σ[k] : Nat) : Int) < (n : Int) := by have := Hn.out; omega
      have hjn2 : σ[k] < n := by omega
      obtain ⟨a', ha', hab, hca⟩ := (Hl.out.below (Hb.out.mono hB)).elem (f := Bn.cells) (m := 25) Bn.cells_len hjl (by omega)
      cases ha'
      have hfe := Hel.out l[σ[k]] (List.getElem_mem hjl)
      have hpre := HS.out.take k h2
      rw [hsj] at hpre
      have htk := hide (show s.take (k + 1) = s.take k ++ [l[σ[k]]] by rw [List.take_succ_eq_append_getElem h2, hsj])
      have hpre' := hide hpre
      have hmem := hide (show l[σ[k]] ∈ s by rw [← hsj]; exact List.getElem_mem h2)
      clear hcw hsj hpre h2
      generalize l[σ[k]] = b at *
      generalize σ[k] = j at *
      have c17 : wr.cell? ⟨(a.add (j * 25)).block, (a.add (j * 25)).off + 17, none⟩ = some (.int .u64 (b.p.off : Int)) := hca 17 _ rfl
      have c24 : wr.cell? ⟨(a.add (j * 25)).block, (a.add (j * 25)).off + 24, none⟩ = some (.string b.pay.data) := hca 24 _ rfl
      have hle := HT.out.le
      have hdl := HT.out.len
      have hdlen := hide hdl
      have hL := bytes_len b
      have hag : again e b ≤ b.bytes.length ∧ (again e b = b.bytes.length ∨ b.p.off + again e b = max e b.p.off) := by unfold again; omega
      have hmm : min (max (wrap64 ((e : Int) - (b.p.off : Int))) 0) (b.pay.data.size : Int) = (again e b : Int) := by rw [wr64 (by omega)]; unfold again; omega
      have Hdat := hide (str_bytes b)
      have HLn := hide (bytes_len b)
      generalize hDat : b.pay.data = dat at *
      generalize hOff : b.p.off = o at *
      clear hca
      go_upto_region 6 with fail
      go_quiet (fail)
      generalize hAg : again e b = g at *
      have hto : ¬ t = o := by omega
      have hog : (o : Int) + (g : Int) ≤ (t : Int) := by omega
      have hgd : (g : Int) ≤ (dat.size : Int) := by omega
      have hob : (o : Int) ≤ 65536 := by omega
      have htb : (t : Int) ≤ 65536 := by omega
      have HL : ∀ q W, W = wr.drewN q → Lies W W.heap.size (some ⟨w.heap.size, o, none⟩) (bys ((data.drop o).take g)) := fun q W hW => by
        subst hW
        refine .inr ⟨_, rfl, by show w.heap.size < wr.heap.size; omega, fun i u hu => ?_⟩
        have e1 : (⟨w.heap.size, o, none⟩ : Addr).add i = ⟨w.heap.size, o + i, none⟩ := by unfold Addr.add; split <;> simp_all
        rw [e1]
        show wr.cell? ⟨w.heap.size, o + i, none⟩ = some u
        rw [cell_of_row _ _ _ _ _ _ HD.out, ← hu, bys_take, bys_drop, List.getElem?_toArray]
        have hi : i < g := by have h := (List.getElem?_eq_some_iff.1 hu).1; rw [bys_len, List.length_take] at h; omega
        rw [List.getElem?_take_of_lt hi, List.getElem?_drop]
      have hcv := fun q c => strU8 (n := g) c (HL q (wr.drewN q) rfl) (by rw [List.length_take, List.length_drop]; omega)
      have Hle := hide hle
      have Hfe := hide hfe
      have Hag := hide hag
      have HL2 := hide HL
      clear hle hdl hL hfe hag HL c8 c17 c24
      go_upto_region 8 with fail
      try simp only [hmm]
      clear hmm
      have heq : ((str ((data.drop o).take g)).toList == (dat.extract 0 g).toList) = decide ((data.drop o).take g = b.bytes.take g) := by
        rw [str_ext, List.drop_zero, str_beq, ← Hdat.out, str_list]
      by_cases hok : (data.drop o).take g = b.bytes.take g
      · rw [decide_eq_true hok] at heq
        have Hok := hide hok
        clear hok
        go_quiet (fail)
        generalize hW : World.drewN (World.drewN wr _) _ = w5
        have Hw5 := hide (show w5.heap = wr.heap by rw [← hW]; rfl)
        have Hb5 := hide (show Below w.heap.size w w5 by rw [← hW]; exact bel_drewN (bel_drewN Hb.out _) _)
        clear hW heq hcv
        have Hrel := hide (show Tog t (s.take (k + 1)) (laid data e b) (max e (o + dat.size)) by
          have h1 := HT.out.step (b := b) (by rw [hOff]; exact hpre'.out) (by rw [hOff]; exact Hfe.out.2) (by rw [hOff, hAg]; exact Hok.out)
          rw [hOff, HLn.out] at h1
          rw [htk.out]
          exact h1)
        have Hlaid := hide (show bys (laid data e b) = (bys data).take (o + g) ++ (Lib.byteCells (dat.extract g dat.size).data.toList ++ (bys data).drop (o + dat.size)) by
          unfold laid
          rw [hOff, hAg, bys_app, bys_app, bys_take, bys_drop data, HLn.out, List.append_assoc]
          congr 2
          rw [str_ext, str_list, ← Hdat.out, str_list, List.take_of_length_le (by rw [str_size]; exact Nat.le_refl _)]
          rfl)
        have hmax : max (e : Int) ((o : Int) + (dat.size : Int)) = ((max e (o + dat.size) : Nat) : Int) := by omega
        have hdb : (dat.size : Int) ≤ 65536 := by have := Hfe.out.2; have := HLn.out; omega
        have heb : (e : Int) ≤ 65536 := by have := Hle.out; omega
        by_cases hfull : o + g = t
        · have hg2 : g = dat.size := by have := Hfe.out.2; have := Hag.out.1; have := HLn.out; omega
          have hsum : IntKind.i64.wrap ((o : Int) + (g : Int)) = (t : Int) := by rw [IntWalk.i64_in _ (by omega)]; omega
          have hdat0 : (dat.extract g dat.size).size = 0 := by rw [hg2]; simp
          have hr : ∀ W, (Builtin.copy_ #[59, 9] 3 #[.slice (some ⟨w.heap.size, 0, none⟩) 0 0, .string (dat.extract g dat.size)]).run Try.prog W = .ok (goInt 0) W := fun W => Lib.run_copy_empty_string W 59 9 3 5 _ 0 0 _ Try.underlying59 (by kernel_rfl) hdat0
          have Hsame := hide (show laid data e b = data from by
            unfold laid
            rw [hOff, hAg, HLn.out, hg2, List.drop_of_length_le (by rw [HLn.out]; exact Nat.le_refl _), List.append_nil, List.take_append_drop])
          have Hr := hide hr
          clear hg2 hdat0 hr hfull
          go_upto_region 10 with fail
          go_region_law (refine step_copyrun rfl (.tmp 59) (.tmp 62) 59 9 rfl (Hr.out _) (by simp [Act.eval, Act.put]) (by simp [Act.eval, Act.put]) ?_)
          all_goals
            go_wp2
            go_simp
            go_roundw
            case rel => exact ⟨k + 1, by omega, by go_num, bel_drewN Hb5.out 1, by show G2 < w5.heap.size; rw [Hw5.out]; exact hzr, hide (fun k hk => by rw [← HC.out k hk]; simp only [World.cell?, World.drew, World.drewN, Hw5.out]), laid data e b, max e (o + dat.size), by rw [← hmax], by rw [Hsame.out]; exact hide (by show w5.heap[w.heap.size]? = _; rw [Hw5.out]; exact HD.out), Hrel⟩
            case measure => simp [intOf]; omega
        · obtain ⟨u, hu⟩ : ∃ u, u = o + g := ⟨_, rfl⟩
          have hut : (u : Int) < (t : Int) := by omega
          have hsum : IntKind.i64.wrap ((o : Int) + (g : Int)) = (u : Int) := by rw [IntWalk.i64_in _ (by omega)]; omega
          have hne : ¬ t = u := by omega
          have hfit : u + (dat.extract g dat.size).size ≤ t := by rw [ByteArray.size_extract]; have := Hfe.out.2; have := HLn.out; omega
          have Hr := hide (show ∀ W, W.heap = wr.heap → (Builtin.copy_ #[59, 9] 3 #[.slice (some ⟨w.heap.size, u, none⟩) (t - u) (t - u), .string (dat.extract g dat.size)]).run Try.prog W = .ok (goInt (dat.extract g dat.size).size) (W.setRow w.heap.size (bys (laid data e b)).toArray) from fun W hW => by
            rw [Lib.run_copy_row_string (P := Try.prog) W 59 9 3 5 w.heap.size u (t - u) (t - u) (dat.extract g dat.size) (bys data).toArray 5 Try.underlying59 (by kernel_rfl) (by rw [hW]; exact HD.out) (by omega) (by rw [List.size_toArray, bys_len, hdlen.out]; exact hfit), Hlaid.out]
            congr 3
            rw [List.append_assoc, ByteArray.size_extract, hu, show o + g + (min dat.size dat.size - g) = o + dat.size by have := Hag.out.1; have := HLn.out; omega])
          have HG := hide (fun W (hW : W.heap = wr.heap) => setRow_heap W w.heap.size _ (bys (laid data e b)).toArray _ _ (by rw [hW]; exact HD.out))
          have hs0 : (0 : Int) ≤ (o : Int) + (g : Int) := by omega
          have hst : ((o : Int) + (g : Int)).toNat = u := by omega
          clear hfull hfit
          go_upto_region 10 with fail
          go_region_law (refine step_copyrun rfl (.tmp 59) (.tmp 62) 59 9 rfl (Hr.out _ Hw5.out) (by simp [Act.eval, Act.put, ← hu, hne]) (by simp [Act.eval, Act.put]) ?_)
          all_goals
            go_wp2
            go_simp
            go_roundw
            case rel => exact ⟨k + 1, by omega, by go_num, below_setRow (bel_drewN Hb5.out 1) (Nat.le_refl _) _, by rw [Hw5.out]; exact hzr, hide (fun k hk => by rw [← HC.out k hk, cell_setRow_other _ _ _ _ (by show ¬ G2 = w.heap.size; omega)]; simp only [World.cell?, World.drew, World.drewN, Hw5.out]), laid data e b, max e (o + dat.size), by rw [← hmax], hide (HG.out w5.drew Hw5.out), Hrel⟩
            case measure => simp [intOf]; omega
      · rw [decide_eq_false hok] at heq
        have Hend := hide (show Clash l from (HT.out.clash (b := b) (by rw [hOff]; exact hpre'.out) (by rw [hOff, hAg]; exact hok)).perm (fun c hc => by
          rcases List.mem_append.1 hc with hc | hc
          · exact (HS.out.mem c).1 (List.mem_of_mem_take hc)
          · rw [List.mem_singleton] at hc; subst hc; exact (HS.out.mem c).1 hmem.out))
        clear hok
        go_quiet (fail)
        generalize hW : World.drewN (World.drewN wr _) _ = w5
        have Hb5 := hide (show Below w.heap.size w w5 by rw [← hW]; exact bel_drewN (bel_drewN Hb.out _) _)
        clear hW heq hcv
        go_wp2
        go_ret2
        exact .inl ⟨rfl, Hend.out, Hb5.out⟩
    · have hlt' : ¬ (k : Int) < (n : Int) := by omega
      have hT := HT.out
      rw [List.take_of_length_le (by rw [Hsn.out]; omega)] at hT
      have HT2 := hide hT
      clear hT HT Hσ HC
      generalize wr = w3 at *
      go_wp2
      go_ret2
      refine .inr ⟨data, rfl, HT2.out.len, .inr ⟨_, rfl, by show w.heap.size < w3.heap.size; omega, fun i u hu => ?_⟩, fun hc => HT2.out.noclash (hc.perm fun b hb => (HS.out.mem b).2 hb), fun b hb => HT2.out.at_ b ((HS.out.mem b).2 hb), Hb.out⟩
      have e1 : (⟨w.heap.size, 0, none⟩ : Addr).add i = ⟨w.heap.size, i, none⟩ := by unfold Addr.add; split <;> simp_all
      rw [e1, cell_of_row _ _ _ _ _ _ HD.out, ← hu, List.getElem?_toArray]

end Go.Proofs.Ytlbgcbekjjkokaa
