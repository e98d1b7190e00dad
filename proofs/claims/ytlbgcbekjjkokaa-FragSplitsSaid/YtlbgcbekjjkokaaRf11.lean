/-
  THE REFERENCE's Check of bundles (wagtailref11).
-/
import Derived.Test.YtlbgcbekjjkokaaBuck
import Derived.Test.YtlbgcbekjjkokaaRf10
import Derived.BigQuiet
import Derived.Deep.DeepCutAuto
namespace Go.Proofs.Ytlbgcbekjjkokaa
open Go.RowKit

def Bn.ref (b : Bn) : Int := if b.p.check = 0 then allCheck (b.pay :: b.bs) else b.p.check
theorem Bn.check_r {b : Bn} (h : ¬ 16 < b.bs.length) (h2 : ¬ b.ref = 0) : b.check = b.ref := by
  unfold Bn.ref at *
  by_cases hp : b.p.check = 0
  · rw [if_pos hp] at *
    exact Bn.check_b h hp h2
  · rw [if_neg hp] at *
    exact Bn.check_p h hp
theorem Bn.check_r6 {b : Bn} (h : ¬ 16 < b.bs.length) (h2 : b.ref = 0) (h4 : ¬ (b.pay.ty = 1 ∧ b.pay.num = 1 ∧ besAll b.bs = true)) : b.check = 6 := by
  unfold Bn.ref at h2
  by_cases hp : b.p.check = 0
  · rw [if_pos hp] at h2; exact Bn.check_6 h hp h2 h4
  · rw [if_neg hp] at h2; exact absurd h2 hp
theorem Bn.check_r0 {b : Bn} (h : ¬ 16 < b.bs.length) (h2 : b.ref = 0) (h4 : b.pay.ty = 1 ∧ b.pay.num = 1 ∧ besAll b.bs = true) : b.check = 0 := by
  unfold Bn.ref at h2
  by_cases hp : b.p.check = 0
  · rw [if_pos hp] at h2; exact Bn.check_0 h hp h2 h4
  · rw [if_neg hp] at h2; exact absurd h2 hp

set_option maxRecDepth 100000 in
set_option maxHeartbeats 4000000 in
theorem ref11_any (b : Bn) (B : Nat) (w : World) (h : b.Ok w B) (hB : B ≤ w.heap.size) : Calls Try.prog 8 #[b.val] w fun e w' => e = .returned (.int .i64 b.check) ∧ Below w.heap.size w w' := by
  obtain ⟨z, hz⟩ : ∃ z, z = b.check := ⟨_, rfl⟩
  obtain ⟨R, hR⟩ : ∃ R, R = b.ref := ⟨_, rfl⟩
  rw [← hz]
  have FP := hide (fun W => ref10_any b.p W h.fl (Nat.le_trans h.dst (by decide)) (Nat.le_trans h.src (by decide)) (Nat.le_trans h.rep (by decide)))
  have FY := hide (fun W => ref9_any b.pay W)
  have R0 := hide (range_p (range_new w b.cells 33 (0, 0)))
  have hlt : w.heap.size < (w.alloc (.cells b.cells.toArray 33)).heap.size := by simp
  have RR := hide (fun W (hb : Below (w.alloc (.cells b.cells.toArray 33)).heap.size (w.alloc (.cells b.cells.toArray 33)) W) => range_below (range_new w b.cells 33 (0, 0)) hb hlt)
  have RRP := hide (fun W hb => range_pay (RR.out W hb))
  have HB := hide ((Below.refl w.heap.size w).alloc (Nat.le_refl _) (.cells b.cells.toArray 33))
  have hn16 : (16 < b.bs.length) = (16 < b.n) := by rw [h.len]
  have K4 := hide (@Bn.check_big b)
  have KR := hide (@Bn.check_r b)
  have K6 := hide (@Bn.check_r6 b)
  have K0 := hide (@Bn.check_r0 b)
  have HR := hide (show (if b.p.check = 0 then (if b.pay.check = 0 then allCheck b.bs else b.pay.check) else b.p.check) = R by rw [hR]; rfl)
  have hfew := h.few
  have Lok := hide h.lies
  have Lln := hide h.len
  have Lnc := hide h.cap
  rw [← hz, hn16] at K4 KR K6 K0
  rw [← hR] at KR K6 K0
  clear hz hR h hlt hn16
  generalize b.p.check = zp at *
  generalize b.pay.check = zy at *
  rcases b with ⟨⟨fl, crc, ⟨d0, d1, d2, d3⟩, ⟨s0, s1, s2, s3⟩, ⟨r0, r1, r2, r3⟩, time, seq, life, off, tot⟩, A, n, c, bs, ⟨ty, num, fl2, crc2, data⟩⟩
  simp only [Bn.val, Bn.cells, Pr.val, Pr.cells, Bk.val, Bk.cells] at R0 RR HB RRP FP FY ⊢
  simp only at hfew K4 KR K6 K0 Lok Lln Lnc HR
  by_cases h16 : 16 < n
  · obtain rfl : z = 4 := K4.out h16
    have h16' : (16 : Int) < (n : Int) := by omega
    clear h16
    go_enter Try.func8, Try.ntmps8
    go_wp2
    go_ret
    exact ⟨rfl, HB.out⟩
  have h16' : ¬ (16 : Int) < (n : Int) := by omega
  have KRb := hide (KR.out h16)
  have K6b := hide (K6.out h16)
  have K0b := hide (K0.out h16)
  clear K4 KR K6 K0 HB h16
  go_enter Try.func8, Try.ntmps8
  go_wp2_with (with_reducible refine wpl_load_mid rfl 28 (.tmp 11) rfl w.heap.size 0 _ R0.out rfl _ Try.underlying28 rfl 19 info28 (by with_unfolding_all rfl) ?_)
  (with_reducible refine (FP.out _).mono ?_)
  rintro e w1 ⟨rfl, hb⟩
  have HR1 := hide (RR.out w1 hb)
  have HRP1 := hide (RRP.out w1 hb)
  obtain ⟨hb1, hz1⟩ := below_size _ hb
  have Hb1 := hide hb1
  have hsz1 := hb1.size
  clear hb hb1 RR RRP R0 FP
  generalize Value.agg #[.int .u64 (fl : Int), .int .i64 crc, .int .i64 d0, .string d1, .int .u64 (d2 : Int), .int .u64 (d3 : Int), .int .i64 s0, .string s1, .int .u64 (s2 : Int), .int .u64 (s3 : Int), .int .i64 r0, .string r1, .int .u64 (r2 : Int), .int .u64 (r3 : Int), .int .u64 (time : Int), .int .u64 (seq : Int), .int .u64 (life : Int), .int .u64 (off : Int), .int .u64 (tot : Int), .slice A n c, .int .u64 (ty : Int), .int .u64 (num : Int), .int .u64 (fl2 : Int), .int .i64 crc2, .string data] = V0
  generalize Value.agg #[.int .u64 (fl : Int), .int .i64 crc, .int .i64 d0, .string d1, .int .u64 (d2 : Int), .int .u64 (d3 : Int), .int .i64 s0, .string s1, .int .u64 (s2 : Int), .int .u64 (s3 : Int), .int .i64 r0, .string r1, .int .u64 (r2 : Int), .int .u64 (r3 : Int), .int .u64 (time : Int), .int .u64 (seq : Int), .int .u64 (life : Int), .int .u64 (off : Int), .int .u64 (tot : Int)] = V12
  go_upto_if 15 with fail
  go_cut [3] (fun s3 wx => ∃ z3 : Int, s3 = .int .i64 z3 ∧ Below w1.heap.size w1 wx ∧ Hid ((if z3 = 0 then allCheck bs else z3) = R))
  case first =>
    by_cases hp : zp = 0
    · subst hp
      have HRb := hide (show (if zy = 0 then allCheck bs else zy) = R by have := HR.out; rw [if_pos rfl] at this; exact this)
      clear HR KRb K6b K0b
      go_wp2_with (with_reducible refine wpl_load_mid rfl 31 (.tmp 16) rfl w.heap.size 20 _ HRP1.out rfl _ Try.underlying31 rfl 5 info31 (by with_unfolding_all rfl) ?_)
      (with_reducible refine (FY.out _).mono ?_)
      rintro e w2 ⟨rfl, hb⟩
      go_wp2
      go_meet
      exact ⟨_, rfl, hb, HRb⟩
    · have HRb := hide (show (if zp = 0 then allCheck bs else zp) = R by have := HR.out; rw [if_neg hp] at this; rw [if_neg hp]; exact this)
      clear HR KRb K6b K0b
      go_wp2
      go_meet
      exact ⟨_, rfl, Below.refl _ _, HRb⟩
  case rest =>
    obtain ⟨z0, rfl, hb, HRb⟩ := hcut
    have HR2 := hide (range_below HR1.out hb hz1)
    have Hb2 := hide (Hb1.out.trans (hb.mono hsz1))
    have hz2 : w.heap.size < wc.heap.size := Nat.lt_of_lt_of_le hz1 hb.size
    clear hb HR1 HRP1 Hb1 FY hz1 hsz1 HR
    generalize wc = w2 at *
    go_wp2_with fail
    have Hlies := hide (fun W (hb : Below w2.heap.size w2 W) => Lok.out.below ((Hb2.out.trans (hb.mono (Nat.le_of_lt hz2))).mono hB))
    have Hrng := hide (fun W (hb : Below w2.heap.size w2 W) => range_below HR2.out hb hz2)
    have Hbel := hide (fun W (hb : Below w2.heap.size w2 W) => Hb2.out.trans (hb.mono (Nat.le_of_lt hz2)))
    clear HR2 Hb2 Lok
    go_loopw [3, 4] (fun s3 s4 wr => ∃ k : Nat, k ≤ n ∧ s4 = .int .i64 (k : Int) ∧ ∃ z3 : Int, s3 = .int .i64 z3 ∧ Below w2.heap.size w2 wr ∧ Hid ((if z3 = 0 then allCheck (bs.drop k) else z3) = R)) (fun s3 s4 wr => n - (intOf s4).toNat)
    case atStart => exact ⟨0, Nat.zero_le _, rfl, _, rfl, Below.refl _ w2, hide (by rw [List.drop_zero]; exact HRb.out)⟩
    case round =>
      obtain ⟨k, hk, rfl, z3, rfl, hbw, HK⟩ := hrel
      have Hbw := hide hbw
      have hzw := hbw.size
      have hzr2 : w.heap.size < wr.heap.size := Nat.lt_of_lt_of_le hz2 hzw
      have c19 : wr.cell? ⟨w.heap.size, 19, none⟩ = some (.slice A n c) := (Hrng.out wr Hbw.out) 19 _ rfl
      clear hbw
      by_cases hgo : k < n ∧ z3 = 0
      · obtain ⟨hltk, rfl⟩ := hgo
        have hltk' : (k : Int) < (n : Int) := by omega
        have hkl : k < bs.length := by rw [← Lln.out]; exact hltk
        obtain ⟨a, rfl, _, hca⟩ := (Hlies.out wr Hbw.out).elem (f := Bk.cells) (m := 5) Bk.cells_len hkl (by omega)
        have Hca := hide hca
        have Hd := hide (show (if bs[k].check = 0 then allCheck (bs.drop (k + 1)) else bs[k].check) = R by rw [← allCheck_drop hkl]; have := HK.out; rw [if_pos rfl] at this; exact this)
        have hcall := fun W => ref9_any bs[k] W
        clear hca HK KRb K6b K0b
        generalize bs[k] = x at *
        generalize x.check = zx at *
        go_wp2_with (first
          | (with_reducible refine wpl_load_addr rfl 31 (.tmp 33) rfl (a.add (k * 5)) _ Hca.out rfl _ Try.underlying31 rfl 5 info31 (by with_unfolding_all rfl) ?_)
          | (go_at_call 21; refine (hcall _).mono ?_; rintro e w' ⟨rfl, hb⟩))
        go_roundw
        case rel => exact ⟨k + 1, by omega, by go_num, zx, rfl, Hbw.out.trans (hb.mono hzw), Hd⟩
        case measure => simp [intOf]; omega
      · have hdone : z3 = R := by
          have := HK.out
          by_cases h3 : z3 = 0
          · rw [if_pos h3, List.drop_eq_nil_of_le (by have := Lln.out; omega)] at this
            rw [h3]; exact this
          · rw [if_neg h3] at this; exact this
        have hgo1 : ((k : Int) < (n : Int)) → ¬ z3 = 0 := fun h1 h2 => hgo ⟨by omega, h2⟩
        clear HK HRb
        generalize wr = w3 at *
        by_cases hR0 : R = 0
        · have h30 : z3 = 0 := by rw [hdone]; exact hR0
          have hkn : ¬ (k : Int) < (n : Int) := fun h => hgo1 h h30
          have K6c := hide (K6b.out hR0)
          have K0c := hide (K0b.out hR0)
          subst h30
          have c20 : w3.cell? ⟨w.heap.size, 20, none⟩ = some (.int .u64 (ty : Int)) := (Hrng.out w3 Hbw.out) 20 _ rfl
          have c21 : w3.cell? ⟨w.heap.size, 21, none⟩ = some (.int .u64 (num : Int)) := (Hrng.out w3 Hbw.out) 21 _ rfl
          clear hgo hgo1 hdone hR0 K6b K0b KRb
          by_cases ht : ty = 1
          · by_cases hm : num = 1
            · have ht' : ((ty : Int) != 1) = false := by rw [ht]; rfl
              have hm' : ((num : Int) != 1) = false := by rw [hm]; rfl
              have K6d := hide (show besAll bs = false → z = 6 from fun h => K6c.out (by rintro ⟨_, _, h3⟩; rw [h] at h3; cases h3))
              have K0d := hide (show besAll bs = true → z = 0 from fun h => K0c.out ⟨ht, hm, h⟩)
              clear K6c K0c ht hm
              go_wp2_with fail
              go_loopw [5, 6] (fun s5 s6 wr => ∃ i : Nat, i ≤ n ∧ s5 = .int .i64 (i : Int) ∧ Below w3.heap.size w3 wr ∧ Hid (∀ j (hj : j < bs.length), j < i → besideB bs j bs[j] = true)) (fun s5 s6 wr => n - (intOf s5).toNat)
              case atStart => exact ⟨0, Nat.zero_le _, rfl, Below.refl _ _, hide (fun j hj h => by omega)⟩
              case round =>
                obtain ⟨i, hi, rfl, hbx, HJ⟩ := hrel
                have Hbx := hide hbx
                have Hbwr := hide (Hbw.out.trans (hbx.mono hzw))
                have hzx := hbx.size
                have c19x : wr.cell? ⟨w.heap.size, 19, none⟩ = some (.slice A n c) := (Hrng.out wr Hbwr.out) 19 _ rfl
                clear hbx
                by_cases hl2 : i < n
                · have hl2' : (i : Int) < (n : Int) := by omega
                  have hil : i < bs.length := by rw [← Lln.out]; exact hl2
                  obtain ⟨a, rfl, _, hca⟩ := (Hlies.out wr Hbwr.out).elem (f := Bk.cells) (m := 5) Bk.cells_len hil (by omega)
                  have Hca := hide hca
                  have d0 : wr.cell? (a.add (i * 5)) = some (.int .u64 (bs[i].ty : Int)) := by have := hca 0 _ rfl; rwa [Addr.add_add', Nat.add_zero] at this
                  have d1 : wr.cell? ⟨(a.add (i * 5)).block, (a.add (i * 5)).off + 1, none⟩ = some (.int .u64 (bs[i].num : Int)) := hca 1 _ rfl
                  have HJ3 := hide (show besideB bs i bs[i] = false → z = 6 from fun hf => K6d.out (besAll_not i hil hf))
                  have HJ2 := hide (show besideB bs i bs[i] = true → ∀ j (hj : j < bs.length), j < i + 1 → besideB bs j bs[j] = true from fun ht j hj h1 => by
                    by_cases h2 : j = i
                    · subst h2; exact ht
                    · exact HJ.out j hj (by omega))
                  have Hbe := hide (show besideB bs i bs[i] = (!decide (bs[i].ty = 1) && (decide (2 ≤ bs[i].num) && !(bs.take i).any fun y => decide (y.num = bs[i].num))) from rfl)
                  clear hca HJ
                  obtain ⟨x, hx⟩ : ∃ x, x = bs[i] := ⟨_, rfl⟩
                  rw [← hx] at d0 d1 Hbe HJ2 HJ3
                  have Hx := hide hx
                  clear hx
                  by_cases ht : x.ty = 1
                  · obtain rfl : z = 6 := HJ3.out (by rw [Hbe.out, decide_eq_true ht]; rfl)
                    have ht2 : (x.ty : Int) = 1 := by omega
                    clear HJ3 HJ2 K6d K0d Hbe ht
                    go_wp2
                    go_ret
                    exact ⟨rfl, Hbel.out wr Hbwr.out⟩
                  · have ht2 : ¬ (x.ty : Int) = 1 := by omega
                    by_cases hm : 2 ≤ x.num
                    · have hm2 : ¬ (x.num : Int) < 2 := by omega
                      have Hbe2 := hide (show besideB bs i x = !(bs.take i).any fun y => decide (y.num = x.num) by rw [Hbe.out, decide_eq_false ht, decide_eq_true hm]; simp)
                      clear Hbe ht hm
                      go_wp2_with fail
                      generalize wr = w4 at *
                      go_loopw [6] (fun s6 wr => ∃ q : Nat, q ≤ i ∧ s6 = .int .i64 (q : Int) ∧ Below w4.heap.size w4 wr ∧ Hid (∀ j (hj : j < bs.length), j < q → ¬ bs[j].num = x.num)) (fun s6 wr => i - (intOf s6).toNat)
                      case atStart => exact ⟨0, Nat.zero_le _, rfl, Below.refl _ _, hide (fun j hj h => by omega)⟩
                      case round =>
                        obtain ⟨q, hq, rfl, hby, HQ⟩ := hrel
                        have Hby := hide hby
                        have Hbyr := hide (Hbwr.out.trans (hby.mono (Nat.le_trans hzw hzx)))
                        clear hby
                        by_cases hl3 : q < i
                        · have hl3' : (q : Int) < (i : Int) := by omega
                          have hl3n : (q : Int) < (n : Int) := by omega
                          have hql : q < bs.length := by omega
                          have c19y : wr.cell? ⟨w.heap.size, 19, none⟩ = some (.slice (some a) n c) := (Hrng.out wr Hbyr.out) 19 _ rfl
                          have e1 : wr.cell? ⟨(a.add (i * 5)).block, (a.add (i * 5)).off + 1, none⟩ = some (.int .u64 (x.num : Int)) := by
                            obtain ⟨a', ha', _, h'⟩ := (Hlies.out wr Hbyr.out).elem (f := Bk.cells) (m := 5) Bk.cells_len hil (by omega)
                            cases ha'
                            rw [← Hx.out] at h'
                            exact h' 1 _ rfl
                          have e2 : wr.cell? ⟨(a.add (q * 5)).block, (a.add (q * 5)).off + 1, none⟩ = some (.int .u64 (bs[q].num : Int)) := by
                            obtain ⟨a', ha', _, h'⟩ := (Hlies.out wr Hbyr.out).elem (f := Bk.cells) (m := 5) Bk.cells_len hql (by omega)
                            cases ha'
                            exact h' 1 _ rfl
                          obtain ⟨y, hy⟩ : ∃ y, y = bs[q] := ⟨_, rfl⟩
                          rw [← hy] at e2
                          have Hy := hide hy
                          clear hy
                          by_cases heq : y.num = x.num
                          · obtain rfl : z = 6 := HJ3.out (by
                              rw [Hbe2.out]
                              have : ((bs.take i).any fun y => decide (y.num = x.num)) = true := List.any_eq_true.2 ⟨y, by rw [Hy.out]; exact List.mem_take_iff_getElem.2 ⟨q, by omega, rfl⟩, by simpa using heq⟩
                              rw [this]; rfl)
                            have heq2 : (y.num : Int) = (x.num : Int) := by omega
                            clear HJ3 HJ2 K6d K0d Hbe2 heq
                            go_wp2_with (go_quiet (fail))
                            go_ret
                            exact ⟨rfl, bel_drewN (Hbel.out wr Hbyr.out) _⟩
                          · have heq2 : ¬ (y.num : Int) = (x.num : Int) := by omega
                            have HQ2 := hide (show ∀ j (hj : j < bs.length), j < q + 1 → ¬ bs[j].num = x.num from fun j hj h1 => by
                              by_cases h2 : j = q
                              · subst h2; rw [← Hy.out]; exact heq
                              · exact HQ.out j hj (by omega))
                            clear HJ3 HJ2 K6d K0d Hbe2 heq HQ Hy
                            go_wp2_with (go_quiet (fail))
                            go_roundw
                            case rel => exact ⟨q + 1, by omega, by go_num, bel_drewN Hby.out _, HQ2⟩
                            case measure => simp [intOf]; omega
                        · have hl3' : ¬ (q : Int) < (i : Int) := by omega
                          have hqi : q = i := by omega
                          have hnone : ((bs.take i).any fun y => decide (y.num = x.num)) = false := by
                            rw [List.any_eq_false]
                            intro y hy
                            obtain ⟨j, hj, rfl⟩ := List.mem_take_iff_getElem.1 hy
                            have := HQ.out j (by omega) (by omega)
                            simpa using this
                          have HJ4 := hide (HJ2.out (by rw [Hbe2.out, hnone]; rfl))
                          clear HJ3 HJ2 K6d K0d Hbe2 HQ hnone
                          go_wp2
                          go_roundw
                          case rel => exact ⟨i + 1, by omega, by go_num, Hbx.out.trans (Hby.out.mono hzx), HJ4⟩
                          case measure => simp [intOf]; omega
                    · obtain rfl : z = 6 := HJ3.out (by rw [Hbe.out, decide_eq_false hm]; simp)
                      have hm2 : (x.num : Int) < 2 := by omega
                      clear HJ3 HJ2 K6d K0d Hbe ht hm
                      go_wp2
                      go_ret
                      exact ⟨rfl, Hbel.out wr Hbwr.out⟩
                · have hl2' : ¬ (i : Int) < (n : Int) := by omega
                  obtain rfl : z = 0 := K0d.out (besAll_all (fun j hj => HJ.out j hj (by have := Lln.out; omega)))
                  clear K6d K0d HJ
                  go_wp2
                  go_ret
                  exact ⟨rfl, Hbel.out wr Hbwr.out⟩
            · obtain rfl : z = 6 := K6c.out (fun h => hm h.2.1)
              have ht' : ((ty : Int) != 1) = false := by rw [ht]; rfl
              have hm' : ((num : Int) != 1) = true := by rw [bne, beq_eq_false_iff_ne.2 (show (num : Int) ≠ 1 by omega)]; rfl
              clear K6c K0c ht hm
              go_wp2
              go_ret
              exact ⟨rfl, Hbel.out w3 Hbw.out⟩
          · obtain rfl : z = 6 := K6c.out (fun h => ht h.1)
            have ht' : ((ty : Int) != 1) = true := by rw [bne, beq_eq_false_iff_ne.2 (show (ty : Int) ≠ 1 by omega)]; rfl
            clear K6c K0c ht
            go_wp2
            go_ret
            exact ⟨rfl, Hbel.out w3 Hbw.out⟩
        · obtain rfl : z = R := KRb.out hR0
          have h3' : ¬ z3 = 0 := by rw [hdone]; exact hR0
          subst hdone
          clear K6b K0b KRb hgo hgo1 hR0
          by_cases hkn : (k : Int) < (n : Int)
          · go_wp2
            go_ret
            exact ⟨rfl, Hbel.out w3 Hbw.out⟩
          · go_wp2
            go_ret
            exact ⟨rfl, Hbel.out w3 Hbw.out⟩

end Go.Proofs.Ytlbgcbekjjkokaa
