/-
  CONTRACT of page.onto's closure: a number's bytes laid behind those that stand.
  CONTRACTS of package zeros: Count, Blank.
  CONTRACTS of page.Seal and page.Put.
-/
import Derived.Test.YtahipfmokbiklaaPgB
import Derived.Test.YtahipfmokbiklaaTch
namespace Go.Proofs.Ytahipfmokbiklaa
section
open Go.RowKit
set_option maxRecDepth 8000

set_option maxHeartbeats 2000000 in
theorem lay1_any (cc p g cap o k x : Nat) (l : List UInt8) (w : World) (hc : w.heap[cc]? = some (.cells #[.int .i64 (o : Int)] 3 (0, 0))) (hp : w.heap[p]? = some (.cells #[.slice (some ⟨g, 0, none⟩) 252 cap] 65 (0, 0)))
    (hb : Buf w g l) (hl : l.length = 252) (hcap : 252 ≤ cap) (ho : o + k ≤ 252) (h1 : 1 ≤ k) (h8 : k ≤ 8) (n1 : cc ≠ g) :
    Calls Try.prog 73 #[.int .i64 (k : Int), .int .u64 (x : Int), .pointer (some ⟨cc, 0, none⟩), .pointer (some ⟨p, 0, none⟩)] w fun e w' => e = .returned (.tuple #[]) ∧
      w'.heap[cc]? = some (.cells #[.int .i64 ((o + k : Nat) : Int)] 3 (0, 0)) ∧ Buf w' g (over l o (beB k x)) ∧ Tch [cc, g] w w' := by
  have hcl := (Array.getElem?_eq_some_iff.1 hc).1
  have c0 : w.cell? ⟨cc, 0, none⟩ = some (.int .i64 (o : Int)) := World.news_of_block hc 0 _ rfl
  have p0 : w.cell? ⟨p, 0, none⟩ = some (.slice (some ⟨g, 0, none⟩) 252 cap) := World.news_of_block hp 0 _ rfl
  have ea : (⟨g, 0, none⟩ : Addr).add o = ⟨g, o, none⟩ := at0 g o
  have i1 : (0 : Int) ≤ (o : Int) := by omega
  have i2 : (o : Int) ≤ 252 := by omega
  have i3 : (252 : Int) ≤ (cap : Int) := by omega
  have hne : ¬ cap = o := by omega
  have hsum : wrap64 ((o : Int) + (k : Int)) = ((o + k : Nat) : Int) := by unfold wrap64; omega
  have hsum2 : IntKind.i64.wrap ((o : Int) + (k : Int)) = ((o + k : Nat) : Int) := IntWalk.i64_in _ (by omega)
  have HC := hide hc
  have HB := hide hb
  have HP := hide (fun W => putn_any k x W h1 h8)
  have Hl := hide hl
  have Ho := hide ho
  have H1 := hide h1
  have Hcl := hide hcl
  have N1 := hide n1
  clear hc hp hb hl hcap ho h1 h8 hcl n1
  go_enter Try.func73, Try.ntmps73
  go_region_law (first
    | (refine step_callP (f := 74) (args := #[.slice none 0 0, .int .i64 (k : Int), .int .u64 (x : Int)]) rfl (by simp [Act.eval, go_sem]) ((HP.out _).mono ?_); rintro e w2 ⟨A, c, rfl, hl2, hb2⟩; refine ⟨_, rfl, ?_⟩; have hb3 : Below w.heap.size w w2 := (Below.refl _ w).drew.trans hb2; obtain ⟨w3, hr3, hB3, hT3⟩ := (HB.out.below hb3).copy o (beB k x) (by rw [beB_len, Hl.out]; exact Ho.out) A k c (252 - o) (cap - o) w2.heap.size hl2 (beB_len k x).symm (by rw [beB_len]; exact H1.out) (by rw [beB_len]; have := Ho.out; omega); rw [beB_len] at hr3; have HB3 := hide hB3; have HT3 := hide ((Tch.of_below (S := [g]) hb3).trans hT3); have c0b : w2.cell? ⟨cc, 0, none⟩ = some (.int .i64 (o : Int)) := (hb3.cell Hcl.out).trans c0; have p0b : w2.cell? ⟨p, 0, none⟩ = some (.slice (some ⟨g, 0, none⟩) 252 cap) := (hb3.cell (World.block_lt_of_cell? w _ p0)).trans p0; have hk3 := HT3.out.block cc Hcl.out (by simpa using N1.out); have HK3 := hide hk3; have c0c : w3.cell? ⟨cc, 0, none⟩ = some (.int .i64 (o : Int)) := (World.cell?_of_block (w := w) (a := ⟨cc, 0, none⟩) hk3).trans c0; have f0c : w3.frozen? ⟨cc, 0, none⟩ = false := frozen_of_row w3 cc 0 _ _ (hk3.trans HC.out); clear hl2 hb2 hb3 hB3 hT3 hk3)
    | (refine step_copyrun rfl (.tmp 9) (.tmp 12) 65 65 rfl hr3 (by simp [Act.eval, Act.put]) (by simp [Act.eval, Act.put]) ?_))
  all_goals
    go_end0
    refine ⟨rfl, ?_, HB3.out.kept (by simp [World.setCell]) (Below.heap_setCell _ _ _ _ (Ne.symm N1.out)), (HT3.out.mono (by simp)).trans (Tch.set (by simp) _)⟩
    exact heap_set (HK3.out.trans HC.out) 0 _
end
section
open Go.RowKit

theorem count_any (A : Option Addr) (n c B : Nat) (l : List UInt8) (w : World) (h : Lies w B A (bys l)) (hn : n = l.length) (hbig : n ≤ 1000000000000) :
    Calls Try.prog 75 #[.slice A n c] w fun e w' => e = .returned (.int .i64 (zc l (8 * l.length) : Nat)) ∧ w = w' := by
  rw [← hn]
  have Hn := hide hn
  have Hl := hide h
  clear hn h
  go_enter Try.func75, Try.ntmps75
  go_wp2
  go_loop [3, 9] (fun s i => ∃ j : Nat, j ≤ n ∧ i = .int .i64 (j : Int) ∧ s = .int .i64 (zc l (8 * j) : Nat)) (fun _ i => n - (intOf i).toNat)
  case atStart => exact ⟨0, Nat.zero_le _, rfl, rfl⟩
  case round =>
    obtain ⟨j, hj, rfl, rfl⟩ := hrel
    by_cases hlt : j < n
    · have h1 : (j : Int) < (n : Int) := by omega
      obtain ⟨a, rfl, _, hc⟩ := Hl.out.byte (k := j) (by have := Hn.out; omega)
      have hx := (l.getD j 0).toNat_lt
      have Hb := hide (fun k (hk : k < 8) => bitAt_of l j k hk)
      generalize (l.getD j 0).toNat = x at *
      go_wp2
      clear hc
      go_loop [3, 13] (fun s i => ∃ k : Nat, k ≤ 8 ∧ i = .int .i64 (k : Int) ∧ s = .int .i64 (zc l (8 * j + k) : Nat)) (fun _ i => 8 - (intOf i).toNat)
      case atStart => exact ⟨0, Nat.zero_le _, rfl, rfl⟩
      case round =>
        obtain ⟨k, hk, rfl, rfl⟩ := hrel
        have Hz := hide (show zc l (8 * j + (k + 1)) = zc l (8 * j + k) + (1 - bitAt l (8 * j + k)) from rfl)
        have hzl := zc_le l (8 * j + k)
        obtain ⟨z, hz⟩ : ∃ z, z = zc l (8 * j + k) := ⟨_, rfl⟩
        rw [← hz] at Hz hzl ⊢
        have Hz0 := hide hz
        clear hz
        by_cases hk8 : k < 8
        · have h8 : (k : Int) < 8 := by omega
          go_wp2
          go_round
          case rel =>
            refine ⟨k + 1, by omega, by go_num, ?_⟩
            have hz2 := bitN_two x k
            rw [bits_not x k hx hk8, Hz.out, Hb.out k hk8, wr64 (n := ((1 - bitN x k : Nat) : Int)) (by omega), wr64 (by omega)]
            go_num
          case measure => simp [intOf]; omega
        · obtain rfl : k = 8 := by omega
          go_wp2
          go_round
          case rel => exact ⟨j + 1, by omega, by go_num, by rw [Hz0.out]; rfl⟩
          case measure => simp [intOf]; omega
    · obtain rfl : j = n := by omega
      go_wp2
      go_ret
      exact ⟨rfl, rfl⟩

theorem blank_any (A : Option Addr) (n c B : Nat) (l : List UInt8) (w : World) (h : Lies w B A (bys l)) (hn : n = l.length) (hbig : n ≤ 1000000000000) :
    Calls Try.prog 65 #[.slice A n c] w fun e w' => e = .returned (.bool (zc l (8 * l.length) == 0)) ∧ w = w' := by
  obtain ⟨z, hz⟩ : ∃ z, z = (zc l (8 * l.length) == 0) := ⟨_, rfl⟩
  rw [← hz]
  have Hz := hide hz
  have Hn := hide hn
  have Hl := hide h
  clear hn h hz
  go_enter Try.func65, Try.ntmps65
  go_wp2
  go_loop [7] (fun i => ∃ j : Nat, j ≤ n ∧ i = .int .i64 (j : Int) ∧ Hid (∀ k, k < j → l.getD k 0 = 255)) (fun i => n - (intOf i).toNat)
  case atStart => exact ⟨0, Nat.zero_le _, rfl, hide (fun k hk => by omega)⟩
  case round =>
    obtain ⟨j, hj, rfl, hal⟩ := hrel
    by_cases hlt : j < n
    · have h1 : (j : Int) < (n : Int) := by omega
      obtain ⟨a, rfl, _, hc⟩ := Hl.out.byte (k := j) (by have := Hn.out; omega)
      by_cases hx : l.getD j 0 = 255
      · have Hx := hide hx
        rw [hx, show (255 : UInt8).toNat = 255 from rfl] at hc
        clear hx
        go_wp2
        go_round
        case rel =>
          refine ⟨j + 1, by omega, by go_num, hide (fun k hk => ?_)⟩
          rcases Nat.lt_or_ge k j with h4 | h4
          · exact hal.out k h4
          · obtain rfl : k = j := by omega
            exact Hx.out
        case measure => simp [intOf]; omega
      · have hx2 : (((l.getD j 0).toNat : Int) == 255) = false := by
          rw [beq_eq_false_iff_ne]
          intro e
          exact hx (UInt8.toNat_inj.1 (by rw [show (255 : UInt8).toNat = 255 from rfl]; omega))
        have hx3 : (((l.getD j 0).toNat : Int) != 255) = true := by rw [bne, hx2]; rfl
        have Hx := hide hx
        have Hn' := hide (show z = false from by
          rw [Hz.out, beq_eq_false_iff_ne]
          intro e
          exact hx ((zc_blank l).1 e j (by have := Hn.out; omega)))
        generalize (l.getD j 0).toNat = x at *
        clear hx
        go_wp2
        go_ret
        exact ⟨ret_bool Hn'.out.symm, rfl⟩
    · obtain rfl : j = n := by omega
      go_wp2
      go_ret
      exact ⟨ret_bool (by rw [Hz.out, (zc_blank l).2 (fun k hk => hal.out k (by have := Hn.out; omega))]; rfl), rfl⟩
end
section
open Go.RowKit
set_option maxRecDepth 8000

theorem seal_ok (A : Option Addr) (c B : Nat) (l : List UInt8) (w : World) (h : Lies w B A (bys l)) (hl : l.length = 252) :
    Calls Try.prog 52 #[.slice A 252 c] w fun e w' => ∃ A' c', e = .returned (.slice A' 256 c') ∧ w'.ownsRow w.heap.size 5 1 (.slice A' 256 c') 256 (bys (sealB l)) ∧ Below w.heap.size w w' := by
  have Fc := hide (fun W (hW : Lies W B A (bys l)) => count_any A 252 c B l W hW hl.symm (by omega))
  have hz := zc_le l (8 * l.length)
  obtain ⟨z, hzz⟩ : ∃ z, z = zc l (8 * l.length) := ⟨_, rfl⟩
  rw [← hzz] at Fc hz
  have hz2 : z ≤ 8 * 252 := by rw [← hl]; exact hz
  have e1 : IntKind.u64.wrap (z : Int) = (z : Int) := u64_wrap_small z (by omega)
  have Fp := hide (fun W (hW : Lies W B A (bys l)) => put_any A 252 c B l 4 (z : Int) W hW hl.symm (by omega) (by omega))
  have Hl := hide h
  have Hz := hide hzz
  clear hz hzz hz2 h hl
  go_enter Try.func52, Try.ntmps52
  go_wp2_with fail
  (with_reducible refine (Fc.out _ Hl.out).mono ?_)
  rintro e w1 ⟨rfl, rfl⟩
  go_wp2_with fail
  (with_reducible refine (Fp.out _ Hl.out).mono ?_)
  rintro e w1 ⟨v', rfl, ho, hb⟩
  have Hb := hide hb
  have ho2 := ho
  rw [show (min (max (4 : Int) 0) 8).toNat = 4 from rfl, Int.toNat_natCast, Hz.out] at ho2
  have ho3 : w1.ownsRow w.heap.size 5 1 v' 256 (bys (sealB l)) := ho2
  obtain ⟨A', c', rfl, _⟩ := own_form ho3
  have Ho := hide ho3
  clear ho hb ho2 ho3
  go_wp2
  go_ret
  exact ⟨A', c', rfl, Ho.out, Hb.out⟩
theorem over_pre (pre b : List UInt8) (h : pre.length + b.length ≤ 252) : over (pre ++ List.replicate (252 - pre.length) 255) pre.length b = (pre ++ b) ++ List.replicate (252 - (pre ++ b).length) 255 := by
  unfold over
  rw [List.take_left, List.drop_append, List.drop_of_length_le (by omega), List.nil_append, List.drop_replicate, List.length_append]
  congr 2
  omega
/-- A page that is being laid: the head in its box, the place, the page's slice, its bytes so far. -/
structure LayS (w0 : World) (h : Hd) (cc p g cap : Nat) (pre : List UInt8) (W : World) : Prop where
  box : BoxH h w0.heap.size W
  cell : W.heap[cc]? = some (.cells #[.int .i64 (pre.length : Int)] 3 (0, 0))
  pg : W.heap[p]? = some (.cells #[.slice (some ⟨g, 0, none⟩) 252 cap] 65 (0, 0))
  buf : Buf W g (pre ++ List.replicate (252 - pre.length) 255)
  few : pre.length ≤ 252
  pos : w0.heap.size < g ∧ g < p ∧ p < cc
  cap : 252 ≤ cap
  below : Below w0.heap.size w0 W
section
variable {w0 W : World} {h : Hd} {cc p g cap : Nat} {pre : List UInt8}
theorem LayS.step (hS : LayS w0 h cc p g cap pre W) (k x : Nat) (ki xi : Int) (hk : ki = (k : Int)) (hx : xi = (x : Int)) (hl : pre.length + k ≤ 252) (h1 : 1 ≤ k) (h8 : k ≤ 8) :
    Calls Try.prog 73 #[.int .i64 ki, .int .u64 xi, .pointer (some ⟨cc, 0, none⟩), .pointer (some ⟨p, 0, none⟩)] W fun e W' => e = .returned (.tuple #[]) ∧ LayS w0 h cc p g cap (pre ++ beB k x) W' := by
  subst hk hx
  have hp := hS.pos
  refine (lay1_any cc p g cap pre.length k x _ W hS.cell hS.pg hS.buf (by have := hS.few; rw [List.length_append, List.length_replicate]; omega) hS.cap hl h1 h8 (by omega)).mono ?_
  rintro e W' ⟨rfl, hc, hb, ht⟩
  have hn : ∀ b, b ≠ cc → b ≠ g → b ∉ [cc, g] := fun b h1 h2 hm => by
    simp only [List.mem_cons, List.not_mem_nil, or_false] at hm
    omega
  rw [over_pre pre _ (by rw [beB_len]; exact hl)] at hb
  refine ⟨rfl, (ht.block _ hS.box.lt (hn _ (by omega) (by omega))).trans hS.box, ?_, (ht.block p (Array.getElem?_eq_some_iff.1 hS.pg).1 (hn _ (by omega) (by omega))).trans hS.pg, hb, by rw [List.length_append, beB_len]; exact hl, hp, hS.cap, hS.below.trans (ht.below hS.below.size ?_)⟩
  · rw [List.length_append, beB_len]; exact hc
  · intro b hb
    simp only [List.mem_cons, List.not_mem_nil, or_false] at hb
    omega
end
set_option maxRecDepth 4000 in
set_option maxHeartbeats 4000000 in
theorem pput_ok (h : Hd) (d : List UInt8) (w : World) (hm : h.May) (hd : (d.length : Int) = h.len) : Calls Try.prog 23 #[h.val, .string (str d)] w fun e w' =>
    ∃ A' c', e = .returned (.tuple #[.slice A' 256 c', .int .i64 0]) ∧ w'.ownsRow w.heap.size 5 1 (.slice A' 256 c') 256 (bys (pageB h d)) ∧ Below w.heap.size w w' := by
  have hc := fun W => pcheck_any h W
  have hx1 : BoxH h w.heap.size (w.alloc (.cells h.cells.toArray 42)) := BoxH.new h w
  have hb1 := (Below.refl w.heap.size w).alloc (Nat.le_refl _) (.cells h.cells.toArray 42)
  have hs1 : w.heap.size < (w.alloc (.cells h.cells.toArray 42)).heap.size := by simp
  have hsz := str_size d
  rw [if_pos hm] at hc
  obtain ⟨m1, m2, m3, m4, m5, m6, m7, m8, m9, m10, m11, m12⟩ := hm
  rcases h with ⟨kd, ix, ct, bt, op, lp, ln⟩
  simp only at *
  obtain ⟨K, rfl⟩ := Int.eq_ofNat_of_zero_le (show 0 ≤ kd by omega)
  obtain ⟨I, rfl⟩ := Int.eq_ofNat_of_zero_le m5
  obtain ⟨C, rfl⟩ := Int.eq_ofNat_of_zero_le (show 0 ≤ ct by omega)
  obtain ⟨P, rfl⟩ := Int.eq_ofNat_of_zero_le m9
  obtain rfl : ln = (d.length : Int) := hd.symm
  generalize hn : d.length = n at *
  have w1 : IntKind.u64.wrap (K : Int) = (K : Int) := u64_wrap_small K (by omega)
  have w2 : IntKind.u64.wrap (I : Int) = (I : Int) := u64_wrap_small I (by omega)
  have w3 : IntKind.u64.wrap (C : Int) = (C : Int) := u64_wrap_small C (by omega)
  have w4 : IntKind.u64.wrap (P : Int) = (P : Int) := u64_wrap_small P (by omega)
  have w5 : IntKind.u64.wrap (n : Int) = (n : Int) := u64_wrap_small n (by omega)
  have hne : ((n : Int) != (n : Int)) = false := by simp
  have Hn := hide hn
  have Hn2 := hide (show n ≤ 228 by omega)
  have HX := hide hx1
  have HB := hide hb1
  have HS := hide hs1
  have Hc := hide hc
  clear m1 m2 m3 m4 m5 m6 m7 m8 m9 m10 m11 m12 hd hn hx1 hb1 hs1 hc
  unfold Hd.val at *
  unfold Hd.cells at *
  dsimp only at *
  go_enter Try.func23, Try.ntmps23
  go_wp2_with fail
  (with_reducible refine (Hc.out _).mono ?_)
  rintro e wa ⟨rfl, hb⟩
  have HBa := hide (HB.out.trans (hb.mono HB.out.size))
  have HXa := hide (HX.out.below hb HS.out)
  have HSa := hide (Nat.lt_of_lt_of_le HS.out hb.size)
  have c6 := HXa.out.c 6 _ rfl
  dsimp only at c6
  clear hb HX HB HS Hc
  go_wp2_with fail
  clear c6
  (with_reducible refine (ones_buf _).mono ?_)
  rintro e wb ⟨g, cap, rfl, hcap, hg, hbuf, hb⟩
  have HBb := hide (HBa.out.trans (hb.mono HBa.out.size))
  have HXb := hide (HXa.out.below hb HSa.out)
  have HSb := hide (Nat.lt_of_lt_of_le HSa.out hg)
  have Hbuf := hide hbuf
  have Hcap := hide hcap
  clear hb HXa HBa HSa hg hbuf
  go_wp2_with fail
  (with_reducible refine (ponto_any _ _ _ _).mono ?_)
  rintro e wc ⟨rfl, hw⟩
  have hb1 : Below wb.heap.size wb wc := by rw [← hw]; exact ((Below.refl _ _).alloc (Nat.le_refl _) _).alloc (by simp) _
  have hp : wc.heap[wb.heap.size]? = some (.cells #[.slice (some ⟨g, 0, none⟩) 252 cap] 65 (0, 0)) := by
    rw [← hw]; exact (Below.heap_alloc _ _ _ (by simp)).trans (heap_alloc_new wb _)
  have hcc : wc.heap[wb.heap.size + 1]? = some (.cells #[.int .i64 0] 3 (0, 0)) := by
    rw [← hw]
    have := heap_alloc_new (wb.alloc (.cells #[.slice (some ⟨g, 0, none⟩) 252 cap] 65)) (.cells #[.int .i64 0] 3)
    rwa [show (wb.alloc (.cells #[.slice (some ⟨g, 0, none⟩) 252 cap] 65)).heap.size = wb.heap.size + 1 by simp] at this
  have S0 := hide (show LayS w ⟨K, I, C, bt, op, P, n⟩ (wb.heap.size + 1) wb.heap.size g cap [] wc from
    ⟨HXb.out.below hb1 (Nat.lt_trans HSb.out Hbuf.out.lt), hcc, hp, Hbuf.out.below hb1, by simp, ⟨HSb.out, Hbuf.out.lt, Nat.lt_succ_self _⟩, hcap, HBb.out.trans (hb1.mono HBb.out.size)⟩)
  clear hw hb1 hp hcc HBb HXb HSb Hbuf hcap
  generalize wb.heap.size + 1 = cc at *
  generalize wb.heap.size = p at *
  have F := hide (S0.out.step 1 K 1 K rfl rfl (by simp) (by omega) (by omega))
  have cc0 := S0.out.box.c 0 _ rfl
  dsimp only at cc0
  go_wp2_with fail
  (with_reducible refine F.out.mono ?_)
  rintro e wd0 ⟨rfl, hS⟩
  have S1 := hide hS
  clear hS F S0 cc0
  have F := hide (S1.out.step 1 I 1 I rfl rfl (by simp [beB_len]) (by omega) (by omega))
  have cc0 := S1.out.box.c 1 _ rfl
  dsimp only at cc0
  go_wp2_with fail
  (with_reducible refine F.out.mono ?_)
  rintro e wd1 ⟨rfl, hS⟩
  have S2 := hide hS
  clear hS F S1 cc0
  have F := hide (S2.out.step 1 C 1 C rfl rfl (by simp [beB_len]) (by omega) (by omega))
  have cc0 := S2.out.box.c 2 _ rfl
  dsimp only at cc0
  go_wp2_with fail
  (with_reducible refine F.out.mono ?_)
  rintro e wd2 ⟨rfl, hS⟩
  have S3 := hide hS
  clear hS F S2 cc0
  have F := hide (S3.out.step 1 0 1 0 rfl rfl (by simp [beB_len]) (by omega) (by omega))
  go_wp2_with fail
  (with_reducible refine F.out.mono ?_)
  rintro e wd3 ⟨rfl, hS⟩
  have S4 := hide hS
  clear hS F S3
  have F := hide (S4.out.step 8 bt 8 bt rfl rfl (by simp [beB_len]) (by omega) (by omega))
  have cc0 := S4.out.box.c 3 _ rfl
  dsimp only at cc0
  go_wp2_with fail
  (with_reducible refine F.out.mono ?_)
  rintro e wd4 ⟨rfl, hS⟩
  have S5 := hide hS
  clear hS F S4 cc0
  have F := hide (S5.out.step 8 op 8 op rfl rfl (by simp [beB_len]) (by omega) (by omega))
  have cc0 := S5.out.box.c 4 _ rfl
  dsimp only at cc0
  go_wp2_with fail
  (with_reducible refine F.out.mono ?_)
  rintro e wd5 ⟨rfl, hS⟩
  have S6 := hide hS
  clear hS F S5 cc0
  have F := hide (S6.out.step 2 P 2 P rfl rfl (by simp [beB_len]) (by omega) (by omega))
  have cc0 := S6.out.box.c 5 _ rfl
  dsimp only at cc0
  go_wp2_with fail
  (with_reducible refine F.out.mono ?_)
  rintro e wd6 ⟨rfl, hS⟩
  have S7 := hide hS
  clear hS F S6 cc0
  have F := hide (S7.out.step 2 n 2 n rfl rfl (by simp [beB_len]) (by omega) (by omega))
  have cc0 := S7.out.box.c 6 _ rfl
  dsimp only at cc0
  go_wp2_with fail
  (with_reducible refine F.out.mono ?_)
  rintro e wd7 ⟨rfl, hS⟩
  have S8 := hide hS
  clear hS F S7 cc0
  have hpre : ([] ++ beB 1 K ++ beB 1 I ++ beB 1 C ++ beB 1 0 ++ beB 8 bt ++ beB 8 op ++ beB 2 P ++ beB 2 n : List UInt8) = hdB ⟨K, I, C, bt, op, P, n⟩ := by simp [hdB]
  rw [hpre] at S8
  have hov : over (hdB ⟨K, I, C, bt, op, P, n⟩ ++ List.replicate (252 - (hdB ⟨K, I, C, bt, op, P, n⟩).length) 255) 24 d = bodyB ⟨K, I, C, bt, op, P, n⟩ d := by
    have := over_pre (hdB ⟨K, I, C, bt, op, P, n⟩) d (by rw [hdB_len, Hn.out]; have := Hn2.out; omega)
    rw [show over (hdB ⟨K, I, C, bt, op, P, n⟩ ++ List.replicate (252 - (hdB ⟨K, I, C, bt, op, P, n⟩).length) 255) 24 d = over (hdB ⟨K, I, C, bt, op, P, n⟩ ++ List.replicate (252 - (hdB ⟨K, I, C, bt, op, P, n⟩).length) 255) (hdB ⟨K, I, C, bt, op, P, n⟩).length d by rw [hdB_len], this]
    unfold bodyB
    rw [List.length_append, hdB_len]
    congr 2
    omega
  obtain ⟨w9, hr, hB9, hT9⟩ := S8.out.buf.copyS 24 d (by rw [List.length_append, List.length_replicate, hdB_len, Hn.out]; have := Hn2.out; omega) 228 (cap - 24) (by rw [Hn.out]; exact Hn2.out)
  rw [hov] at hB9
  rw [Hn.out] at hr
  have i3 : (252 : Int) ≤ (cap : Int) := by have := Hcap.out; omega
  have hne24 : ¬ cap = 24 := by have := Hcap.out; omega
  have HBf := hide hB9
  have HBe := hide (S8.out.below.trans (hT9.below S8.out.below.size (fun b hb => by
    have := S8.out.pos
    simp only [List.mem_cons, List.not_mem_nil, or_false] at hb
    omega)))
  have Fs := hide (seal_ok (some ⟨g, 0, none⟩) cap w9.heap.size _ w9 hB9.lies (bodyB_len _ d (by rw [Hn.out]; exact Hn2.out)))
  clear hpre hov hB9 hT9 S8
  go_wp2_with (at_builtin; refine wpl_copy _ rfl _ _ 65 9 rfl _ _ rfl rfl hr ?_)
  (with_reducible refine Fs.out.mono ?_)
  rintro e w10 ⟨A', c', rfl, ho, hb⟩
  have HBg := hide (HBe.out.trans (hb.mono HBe.out.size))
  have Ho := hide (own_up ho HBe.out.size)
  clear Fs hb ho
  go_wp2
  go_ret2
  exact ⟨A', c', rfl, Ho.out, HBg.out⟩
end
end Go.Proofs.Ytahipfmokbiklaa
