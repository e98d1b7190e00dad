/-
  CONTRACTS of package bundle: Check.
-/
import Derived.Test.YtlbgcbekjjkokaaBesi
import Derived.Test.YtlbgcbekjjkokaaPchk
import Derived.Test.YtlbgcbekjjkokaaBchk
namespace Go.Proofs.Ytlbgcbekjjkokaa
open Go.RowKit

/-- What is known of a bundle that lies in a world below a block. -/
structure Bn.Ok (w : World) (B : Nat) (b : Bn) : Prop where
  lies : Lies w B b.A (b.bs.flatMap Bk.cells)
  len : b.n = b.bs.length
  cap : b.n ≤ b.c
  few : b.n ≤ 1000000
  big : b.c ≤ maxLen
  fl : b.p.fl < 18446744073709551616
  off : b.p.off < 18446744073709551616
  tot : b.p.tot < 18446744073709551616
  dst : b.p.dst.name.size ≤ 1000000
  src : b.p.src.name.size ≤ 1000000
  rep : b.p.rep.name.size ≤ 1000000
  data : b.pay.data.size ≤ 1000000
theorem Bn.Ok.below {w w' : World} {B : Nat} {b : Bn} (h : b.Ok w B) (hb : Below B w w') : b.Ok w' B := { h with lies := h.lies.below hb }
theorem Bn.Ok.up {w : World} {B B' : Nat} {b : Bn} (h : b.Ok w B) (hB : B ≤ B') : b.Ok w B' := { h with lies := h.lies.up hB }

def allCheck : List Bk → Int
  | [] => 0
  | x :: l => if x.check = 0 then allCheck l else x.check
def besAll (l : List Bk) : Bool := (List.range l.length).all fun k => match l[k]? with | some x => besideB l k x | none => true
def Bn.check (b : Bn) : Int :=
  if 16 < b.bs.length then 4 else if ¬ b.p.check = 0 then b.p.check else if ¬ allCheck (b.pay :: b.bs) = 0 then allCheck (b.pay :: b.bs) else if b.pay.ty = 1 ∧ b.pay.num = 1 ∧ besAll b.bs = true then 0 else 6
theorem besAll_all {l : List Bk} (h : ∀ k (hk : k < l.length), besideB l k l[k] = true) : besAll l = true := by
  unfold besAll
  rw [List.all_eq_true]
  intro k hk
  have hk' := List.mem_range.1 hk
  rw [List.getElem?_eq_getElem hk']
  exact h k hk'
theorem besAll_not {l : List Bk} (k : Nat) (hk : k < l.length) (h : besideB l k l[k] = false) : besAll l = false := by
  cases hb : besAll l with
  | false => rfl
  | true =>
    unfold besAll at hb
    rw [List.all_eq_true] at hb
    have := hb k (List.mem_range.2 hk)
    rw [List.getElem?_eq_getElem hk] at this
    simp only at this
    rw [h] at this; cases this
theorem Bn.check_big {b : Bn} (h : 16 < b.bs.length) : b.check = 4 := if_pos h
theorem Bn.check_p {b : Bn} (h : ¬ 16 < b.bs.length) (h2 : ¬ b.p.check = 0) : b.check = b.p.check := by unfold Bn.check; rw [if_neg h, if_pos h2]
theorem Bn.check_b {b : Bn} (h : ¬ 16 < b.bs.length) (h2 : b.p.check = 0) (h3 : ¬ allCheck (b.pay :: b.bs) = 0) : b.check = allCheck (b.pay :: b.bs) := by unfold Bn.check; rw [if_neg h, if_neg (by rw [h2]; decide), if_pos h3]
theorem Bn.check_6 {b : Bn} (h : ¬ 16 < b.bs.length) (h2 : b.p.check = 0) (h3 : allCheck (b.pay :: b.bs) = 0) (h4 : ¬ (b.pay.ty = 1 ∧ b.pay.num = 1 ∧ besAll b.bs = true)) : b.check = 6 := by unfold Bn.check; rw [if_neg h, if_neg (by rw [h2]; decide), if_neg (by rw [h3]; decide), if_neg h4]
theorem Bn.check_0 {b : Bn} (h : ¬ 16 < b.bs.length) (h2 : b.p.check = 0) (h3 : allCheck (b.pay :: b.bs) = 0) (h4 : b.pay.ty = 1 ∧ b.pay.num = 1 ∧ besAll b.bs = true) : b.check = 0 := by unfold Bn.check; rw [if_neg h, if_neg (by rw [h2]; decide), if_neg (by rw [h3]; decide), if_pos h4]
theorem allCheck_drop {l : List Bk} {k : Nat} (hk : k < l.length) : allCheck (l.drop k) = if l[k].check = 0 then allCheck (l.drop (k + 1)) else l[k].check := by
  rw [List.drop_eq_getElem_cons hk]; rfl

theorem range_p {w : World} {g : Nat} {b : Bn} (h : w.rangeAt g 0 b.cells) : w.rangeAt g 0 b.p.cells := by
  have := range_sub h 0 19
  rw [show (b.cells.drop 0).take 19 = b.p.cells from rfl] at this
  exact this
theorem range_pay {w : World} {g : Nat} {b : Bn} (h : w.rangeAt g 0 b.cells) : w.rangeAt g 20 b.pay.cells := by
  have := range_sub h 20 5
  rw [show (b.cells.drop 20).take 5 = b.pay.cells from rfl, Nat.zero_add] at this
  exact this

set_option maxRecDepth 100000 in
set_option maxHeartbeats 4000000 in
theorem bundleCheck_any (b : Bn) (B : Nat) (w : World) (h : b.Ok w B) (hB : B ≤ w.heap.size) : Calls Try.prog 15 #[b.val] w fun e w' => e = .returned (.int .i64 b.check) ∧ Below w.heap.size w w' := by
  obtain ⟨z, hz⟩ : ∃ z, z = b.check := ⟨_, rfl⟩
  rw [← hz]
  have Hz := hide hz
  have FP := hide (fun W => pcheck_any b.p W h.fl)
  have R0 := hide (range_p (range_new w b.cells 33 (0, 0)))
  have hlt : w.heap.size < (w.alloc (.cells b.cells.toArray 33)).heap.size := by simp
  have RR := hide (fun W (hb : Below (w.alloc (.cells b.cells.toArray 33)).heap.size (w.alloc (.cells b.cells.toArray 33)) W) => range_below (range_new w b.cells 33 (0, 0)) hb hlt)
  have HB := hide ((Below.refl w.heap.size w).alloc (Nat.le_refl _) (.cells b.cells.toArray 33))
  have Hok := hide h
  have hn16 : (16 < b.bs.length) = (16 < b.n) := by rw [h.len]
  have K4 := hide (@Bn.check_big b)
  have KP := hide (@Bn.check_p b)
  have KB := hide (@Bn.check_b b)
  have K6 := hide (@Bn.check_6 b)
  have K0 := hide (@Bn.check_0 b)
  have hfew := h.few
  rw [← hz, hn16] at K4 KP KB K6 K0
  clear hz h hlt hn16
  have RRP := hide (fun W hb => range_pay (RR.out W hb))
  have Lok := hide (Hok.out.lies)
  have Lln := hide (Hok.out.len)
  have Lnc := hide (Hok.out.cap)
  clear Hok Hz
  generalize b.p.check = zp at *
  rcases b with ⟨⟨fl, crc, ⟨d0, d1, d2, d3⟩, ⟨s0, s1, s2, s3⟩, ⟨r0, r1, r2, r3⟩, time, seq, life, off, tot⟩, A, n, c, bs, ⟨ty, num, fl2, crc2, data⟩⟩
  simp only [Bn.val, Bn.cells, Pr.val, Pr.cells, Bk.cells] at R0 RR HB RRP FP ⊢
  simp only at hfew K4 KP KB K6 K0 Lok Lln Lnc
  by_cases h16 : 16 < n
  · obtain rfl : z = 4 := K4.out h16
    have h16' : (16 : Int) < (n : Int) := by omega
    clear h16
    go_enter Try.func15, Try.ntmps15
    go_wp2
    go_ret
    exact ⟨rfl, HB.out⟩
  have h16' : ¬ (16 : Int) < (n : Int) := by omega
  by_cases hp : zp = 0
  · subst hp
    go_enter Try.func15, Try.ntmps15
    go_wp2_with (with_reducible refine wpl_load_mid rfl 28 (.tmp 13) rfl w.heap.size 0 _ R0.out rfl _ Try.underlying28 rfl 19 info28 (by with_unfolding_all rfl) ?_)
    (with_reducible refine (FP.out _).mono ?_)
    rintro e w1 ⟨rfl, hb⟩
    have HR1 := hide (RR.out w1 hb)
    have HRP1 := hide (RRP.out w1 hb)
    obtain ⟨hb1, hz1⟩ := below_size _ hb
    have Hb1 := hide hb1
    have hsz1 := hb1.size
    have cA : ∀ o, (w1.alloc o).cell? ⟨w.heap.size, 19, none⟩ = some (.slice A n c) := fun o => (((Below.refl w1.heap.size w1).alloc (Nat.le_refl _) o).cell (p := ⟨w.heap.size, 19, none⟩) hz1).trans (HR1.out 19 _ rfl)
    have hne : w.heap.size ≠ w1.heap.size := by omega
    clear hb hb1 RR RRP R0 FP
    go_wp2_with (first
      | (with_reducible refine wpl_load_mid rfl 31 (.tmp 19) rfl w.heap.size 20 _ HRP1.out rfl _ Try.underlying31 rfl 5 info31 (by with_unfolding_all rfl) ?_)
      | (at_builtin; refine wpl_app _ rfl belems (.tmp 21) (.tmp 23) rfl w1.heap.size (.slice (some ⟨w1.heap.size, 0, none⟩) 1 1) 1 _ rfl (World.ownsRow_lit w1 #[.int .u64 (ty : Int), .int .u64 (num : Int), .int .u64 (fl2 : Int), .int .i64 crc2, .string data] 1 (Nat.le_refl _) (by decide) rfl) B A n c (bs.flatMap Bk.cells) rfl (by rw [flat_len _ 5 Bk.cells_len, Lln.out]) ((Lok.out.below (Hb1.out.mono hB)).alloc (Nat.le_trans hB hsz1) _) (rowB_one bs) (by unfold maxLen; omega) (by omega) (by simp) ?_; intro A2 c2 w2 hown2 hg2 hat2; have Ho2 := hide hown2; have Hb2 := hide (((Below.refl w1.heap.size w1).alloc (Nat.le_refl _) _).grown hg2 (by simp) (by intro k hk; simp [Value.ownBlock] at hk; omega)); clear hown2 hg2 hat2))
    have hz2 := Hb2.out.size
    have HL := hide (show Lies w2 w2.heap.size A2 ((⟨ty, num, fl2, crc2, data⟩ :: bs).flatMap Bk.cells) from Lies.of_own Ho2.out)
    have HR2 := hide (range_below HR1.out Hb2.out hz1)
    have Hb12 := hide (Hb1.out.trans (Hb2.out.mono hsz1))
    have Lok2 := hide (Lok.out.below (Hb12.out.mono hB))
    have hz12 : w.heap.size < w2.heap.size := Nat.lt_of_lt_of_le hz1 hz2
    have hNl : 1 + n = ((⟨ty, num, fl2, crc2, data⟩ : Bk) :: bs).length := by rw [List.length_cons, Lln.out]; omega
    clear Ho2 HR1 HRP1 cA hne Hb1 Hb2
    obtain ⟨L, hL⟩ : ∃ L, L = (⟨ty, num, fl2, crc2, data⟩ : Bk) :: bs := ⟨_, rfl⟩
    rw [← hL] at HL hNl
    have KBb := hide (KB.out h16 (by first | exact rfl | trivial))
    have K6b := hide (K6.out h16 (by first | exact rfl | trivial))
    have K0b := hide (K0.out h16 (by first | exact rfl | trivial))
    clear KB K6 K0 KP K4 HB
    rw [← hL] at KBb K6b K0b
    clear hL h16
    obtain ⟨N, hN⟩ : ∃ N, N = 1 + n := ⟨_, rfl⟩
    have HN := hide hN
    have HNl := hide (show N = L.length by omega)
    have hNb : N ≤ 1000001 := by omega
    clear hN
    obtain ⟨R, hR⟩ : ∃ R, R = allCheck L := ⟨_, rfl⟩
    rw [← hR] at KBb K6b K0b
    have HR := hide hR
    clear hR hNl
    go_loopw [5, 6, 26] (fun s5 s6 s26 wr => ∃ k : Nat, k ≤ N ∧ s26 = .int .i64 (k : Int) ∧ Below w2.heap.size w2 wr ∧ Hid (allCheck (L.drop k) = R)) (fun s5 s6 s26 wr => N - (intOf s26).toNat)
    case atStart => exact ⟨0, Nat.zero_le _, rfl, Below.refl _ w2, hide (by rw [List.drop_zero]; exact HR.out.symm)⟩
    case round =>
      obtain ⟨k, hk, rfl, hbw, HK⟩ := hrel
      have Hbw := hide hbw
      have hzw := hbw.size
      clear hbw
      by_cases hltk : k < N
      · have hltk' : (k : Int) < 1 + (n : Int) := by have := HN.out; omega
        have hkl : k < L.length := by rw [← HNl.out]; exact hltk
        obtain ⟨a, rfl, _, hca⟩ := (HL.out.below Hbw.out).elem (f := Bk.cells) (m := 5) Bk.cells_len hkl (by omega)
        have Hca := hide hca
        have Hd := hide (show (if L[k].check = 0 then allCheck (L.drop (k + 1)) else L[k].check) = R by rw [← allCheck_drop hkl]; exact HK.out)
        have hcall := fun W => bcheck_any L[k] W
        clear hca HK
        generalize L[k] = x at *
        generalize x.check = zx at *
        by_cases hx : zx = 0
        · subst hx
          have Hd2 := hide (show allCheck (L.drop (k + 1)) = R by have := Hd.out; rw [if_pos rfl] at this; exact this)
          clear Hd KBb K6b K0b
          go_wp2_with (first
            | (with_reducible refine wpl_load_addr rfl 31 (.tmp 28) rfl (a.add (k * 5)) _ Hca.out rfl _ Try.underlying31 rfl 5 info31 (by with_unfolding_all rfl) ?_)
            | (with_reducible refine wpl_store_last wr rfl 31 (.tmp 5) (.tmp 29) rfl 31 _ _ rfl rfl 5 info31 (by with_unfolding_all rfl) (by with_unfolding_all rfl) (by with_unfolding_all rfl) ?_)
            | (with_reducible refine wpl_load_last wr rfl 31 (.tmp 5) rfl 31 _ _ rfl Try.underlying31 rfl (by rw [info31]; with_unfolding_all rfl) ?_)
            | (go_at_call 30; refine (hcall _).mono ?_; rintro e w' ⟨rfl, hb⟩))
          go_roundw
          case rel => exact ⟨k + 1, by omega, by go_num, Hbw.out.trans ((((Below.refl wr.heap.size wr).alloc (Nat.le_refl _) _).trans (hb.mono (by simp))).mono hzw), Hd2⟩
          case measure => simp [intOf]; omega
        · have hzx : zx = R := by have := Hd.out; rw [if_neg hx] at this; exact this
          have hzR : z = zx := by rw [hzx]; exact KBb.out (by rw [← hzx]; exact hx)
          subst hzR
          clear KBb K6b K0b Hd HR hzx
          go_wp2_with (first
            | (with_reducible refine wpl_load_addr rfl 31 (.tmp 28) rfl (a.add (k * 5)) _ Hca.out rfl _ Try.underlying31 rfl 5 info31 (by with_unfolding_all rfl) ?_)
            | (with_reducible refine wpl_store_last wr rfl 31 (.tmp 5) (.tmp 29) rfl 31 _ _ rfl rfl 5 info31 (by with_unfolding_all rfl) (by with_unfolding_all rfl) (by with_unfolding_all rfl) ?_)
            | (with_reducible refine wpl_load_last wr rfl 31 (.tmp 5) rfl 31 _ _ rfl Try.underlying31 rfl (by rw [info31]; with_unfolding_all rfl) ?_)
            | (go_at_call 30; refine (hcall _).mono ?_; rintro e w' ⟨rfl, hb⟩))
          go_ret
          exact ⟨rfl, Hb12.out.trans ((Hbw.out.trans ((((Below.refl wr.heap.size wr).alloc (Nat.le_refl _) _).trans (hb.mono (by simp))).mono hzw)).mono (Nat.le_of_lt hz12))⟩
      · have hltk' : ¬ (k : Int) < 1 + (n : Int) := by have := HN.out; omega
        have hR0 : R = 0 := by
          rw [← HK.out, List.drop_eq_nil_of_le (by have := HNl.out; omega)]; rfl
        subst hR0
        have K6c := hide (K6b.out (by first | exact rfl | trivial))
        have K0c := hide (K0b.out (by first | exact rfl | trivial))
        clear K6b K0b KBb HK HR
        have HRr := hide (range_below HR2.out Hbw.out hz12)
        have c20 : wr.cell? ⟨w.heap.size, 20, none⟩ = some (.int .u64 (ty : Int)) := HRr.out 20 _ rfl
        have c21 : wr.cell? ⟨w.heap.size, 21, none⟩ = some (.int .u64 (num : Int)) := HRr.out 21 _ rfl
        have c19 : wr.cell? ⟨w.heap.size, 19, none⟩ = some (.slice A n c) := HRr.out 19 _ rfl
        have Hbr := hide (Hb12.out.trans (Hbw.out.mono (Nat.le_of_lt hz12)))
        have hzr := Hbr.out.size
        have hzr2 : w.heap.size < wr.heap.size := Nat.lt_of_lt_of_le hz12 hzw
        have Lokr := hide (Lok2.out.below (Hbw.out.mono (Nat.le_trans hB (Nat.le_of_lt hz12))))
        clear HL HR2 Hbw Hb12 Lok Lok2 HNl
        by_cases ht : ty = 1
        · by_cases hm : num = 1
          · have ht' : ((ty : Int) != 1) = false := by rw [ht]; rfl
            have hm' : ((num : Int) != 1) = false := by rw [hm]; rfl
            have K6d := hide (show besAll bs = false → z = 6 from fun h => K6c.out (by rintro ⟨_, _, h3⟩; rw [h] at h3; cases h3))
            have K0d := hide (show besAll bs = true → z = 0 from fun h => K0c.out ⟨ht, hm, h⟩)
            clear K6c K0c ht hm
            generalize wr = w3 at *
            go_wp2_with fail
            refine (beside_any A n c w3).mono ?_
            rintro e w' ⟨rfl, hq⟩
            subst hq
            have hqc : ∀ W, Below (w3.alloc (.cells #[.slice A n c] 29)).heap.size (w3.alloc (.cells #[.slice A n c] 29)) W → W.cell? ⟨w3.heap.size, 0, none⟩ = some (.slice A n c) := fun W hb => (hb.cell (p := ⟨w3.heap.size, 0, none⟩) (by simp)).trans (by rw [cell_of_row _ _ _ _ _ _ (heap_alloc_last w3 _)]; rfl)
            have Hqc := hide hqc
            have hca3 : ∀ o, (w3.alloc o).cell? ⟨w.heap.size, 19, none⟩ = some (.slice A n c) := fun o => (((Below.refl w3.heap.size w3).alloc (Nat.le_refl _) o).cell (p := ⟨w.heap.size, 19, none⟩) hzr2).trans c19
            have hne : w.heap.size ≠ w3.heap.size := by omega
            clear hqc c19 c20 c21
            go_wp2_with fail
            go_loopw [8, 52] (fun s8 s52 wr => ∃ k : Nat, k ≤ n ∧ s52 = .int .i64 (k : Int) ∧ Below (w3.alloc (.cells #[.slice A n c] 29)).heap.size (w3.alloc (.cells #[.slice A n c] 29)) wr ∧ Hid (∀ j (hj : j < bs.length), j < k → besideB bs j bs[j] = true)) (fun s8 s52 wr => n - (intOf s52).toNat)
            case atStart => exact ⟨0, Nat.zero_le _, rfl, Below.refl _ _, hide (fun j hj h => by omega)⟩
            case round =>
              obtain ⟨k2, hk2, rfl, hbx, HJ⟩ := hrel
              have Hbx := hide hbx
              have hzx2 := hbx.size
              have hzx3 : w3.heap.size < wr.heap.size := by have : (w3.alloc (.cells #[.slice A n c] 29)).heap.size = w3.heap.size + 1 := by simp
                                                            omega
              clear hbx
              have Hbf := hide (Hbr.out.trans ((((Below.refl w3.heap.size w3).alloc (Nat.le_refl _) _).trans (Hbx.out.mono (by simp))).mono hzr))
              by_cases hl2 : k2 < n
              · have hl2' : (k2 : Int) < (n : Int) := by omega
                have hkl2 : k2 < bs.length := by rw [← Lln.out]; exact hl2
                have hcall := beside1_any A n c B w3.heap.size k2 bs wr (Lokr.out.below ((((Below.refl w3.heap.size w3).alloc (Nat.le_refl _) _).trans (Hbx.out.mono (by simp))).mono (Nat.le_trans hB hzr))) Lln.out Lnc.out (by omega) (by omega) hkl2 hzx3 (Hqc.out wr Hbx.out)
                have HJ2 := hide (show besideB bs k2 bs[k2] = true → ∀ j (hj : j < bs.length), j < k2 + 1 → besideB bs j bs[j] = true from fun ht j hj h1 => by
                  by_cases h2 : j = k2
                  · subst h2; exact ht
                  · exact HJ.out j hj (by omega))
                have HJ3 := hide (show besideB bs k2 bs[k2] = false → z = 6 from fun hf => K6d.out (besAll_not k2 hkl2 hf))
                clear HJ
                generalize besideB bs k2 bs[k2] = bb at *
                cases bb with
                | true =>
                  have HJ4 := hide (HJ2.out rfl)
                  clear HJ2 HJ3 K6d K0d
                  go_wp2_with (go_at_call 47; refine hcall.mono ?_; rintro e w' ⟨rfl, hb⟩)
                  go_roundw
                  case rel => exact ⟨k2 + 1, by omega, by go_num, Hbx.out.trans (hb.mono hzx2), HJ4⟩
                  case measure => simp [intOf]; omega
                | false =>
                  obtain rfl : z = 6 := HJ3.out rfl
                  clear HJ2 HJ3 K6d K0d
                  go_wp2_with (go_at_call 47; refine hcall.mono ?_; rintro e w' ⟨rfl, hb⟩)
                  go_ret
                  exact ⟨rfl, Hbf.out.trans (hb.mono Hbf.out.size)⟩
              · have hl2' : ¬ (k2 : Int) < (n : Int) := by omega
                obtain rfl : z = 0 := K0d.out (besAll_all (fun j hj => HJ.out j hj (by have := Lln.out; omega)))
                clear K6d K0d HJ
                go_wp2
                go_ret
                exact ⟨rfl, Hbf.out⟩
          · obtain rfl : z = 6 := K6c.out (fun h => hm h.2.1)
            have ht' : ((ty : Int) != 1) = false := by rw [ht]; rfl
            have hm' : ((num : Int) != 1) = true := by rw [bne, beq_eq_false_iff_ne.2 (show (num : Int) ≠ 1 by omega)]; rfl
            clear K6c K0c ht hm
            go_wp2
            go_ret
            exact ⟨rfl, Hbr.out⟩
        · obtain rfl : z = 6 := K6c.out (fun h => ht h.1)
          have ht' : ((ty : Int) != 1) = true := by rw [bne, beq_eq_false_iff_ne.2 (show (ty : Int) ≠ 1 by omega)]; rfl
          clear K6c K0c ht
          go_wp2
          go_ret
          exact ⟨rfl, Hbr.out⟩
  · obtain rfl : z = zp := KP.out h16 hp
    clear h16
    go_enter Try.func15, Try.ntmps15
    go_wp2_with (with_reducible refine wpl_load_mid rfl 28 (.tmp 13) rfl w.heap.size 0 _ R0.out rfl _ Try.underlying28 rfl 19 info28 (by with_unfolding_all rfl) ?_)
    (with_reducible refine (FP.out _).mono ?_)
    rintro e w1 ⟨rfl, hb⟩
    obtain ⟨hb1, hz1⟩ := below_size _ hb
    have Hb1 := hide hb1
    clear hb hb1 RR R0 FP RRP
    go_wp2
    go_ret
    exact ⟨rfl, Hb1.out⟩

end Go.Proofs.Ytlbgcbekjjkokaa
