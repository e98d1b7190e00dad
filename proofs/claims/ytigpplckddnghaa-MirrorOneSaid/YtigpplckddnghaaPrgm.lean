/-
  CONTRACTS of package zeros: Mask, within and the function that it makes.
  SMALL LAWS that many walks want: a call that leaves the world; bytes that are set; where a row of one's own begins. (Cut out of Prgm.)
  CONTRACTS of package zeros, second part: Program, Erase.
-/
import Derived.Test.YtigpplckddnghaaClone
import Derived.Test.YtigpplckddnghaaBits
import Derived.Deep.QuietTactic
import Derived.BigQuiet
import Derived.Deep.RegionLaw
import Derived.Deep.RegionWith
import Derived.StillTailTactics
import Derived.StillTactics
namespace Go.Proofs.Ytigpplckddnghaa
section
open Go.RowKit

theorem mask_any (A : Option Addr) (n c B : Nat) (l : List UInt8) (i : Nat) (w : World) (h : Lies w B A (bys l)) (hn : n = l.length) :
    Calls Try.prog 80 #[.slice A n c, .int .i64 (i : Int)] w fun e w' => e = .returned (.int .u8 ((maskB l i).toNat : Int)) ∧ w = w' := by
  by_cases h0 : n = 0
  · subst h0
    have e0 : maskB l i = 0 := by unfold maskB; rw [if_pos hn.symm]
    rw [e0]
    clear h hn e0
    go_enter Try.func80, Try.ntmps80
    go_wp2
    go_ret
    exact ⟨rfl, rfl⟩
  · obtain ⟨k, hk, hk8⟩ : ∃ k, k = i % n ∧ k < n := ⟨_, rfl, Nat.mod_lt _ (by omega)⟩
    have e1 : (i : Int) % (n : Int) = (k : Int) := by rw [hk]; simp
    have e0 : maskB l i = l.getD k 0 := by unfold maskB; rw [if_neg (by omega), ← hn, ← hk]
    rw [e0]
    obtain ⟨a, rfl, _, hc⟩ := h.byte (k := k) (by omega)
    generalize (l.getD k 0) = x at *
    have hpos : 0 < n := by omega
    have hne : ((n : Int) == 0) = false := by rw [beq_eq_false_iff_ne]; omega
    have hi0 : ¬ (i : Int) < 0 := by omega
    clear hk hn h e0
    go_enter Try.func80, Try.ntmps80
    go_wp2
    go_ret
    exact ⟨rfl, rfl⟩

theorem zwithin_any (A : Option Addr) (n c : Nat) (w : World) : Calls Try.prog 72 #[.slice A n c] w fun e w' => e = .returned (.func (.func 79) #[] #[.pointer (some ⟨w.heap.size, 0, none⟩)]) ∧ w.alloc (.cells #[.slice A n c] 46) = w' := by
  go_enter Try.func72, Try.ntmps72
  go_wp2
  go_ret
  exact ⟨rfl, rfl⟩

theorem mix_any (g : Nat) (A : Option Addr) (n c B : Nat) (l : List UInt8) (i : Nat) (x y : UInt8) (w : World) (hg : w.cell? ⟨g, 0, none⟩ = some (.slice A n c)) (h : Lies w B A (bys l)) (hn : n = l.length) :
    Calls Try.prog 79 #[.int .i64 (i : Int), .int .u8 (x.toNat : Int), .int .u8 (y.toNat : Int), .pointer (some ⟨g, 0, none⟩)] w fun e w' => e = .returned (.int .u8 ((mixB x y (maskB l i)).toNat : Int)) ∧ w = w' := by
  have Hn := hide hn
  have Hl := hide h
  have Hm := hide (mixB_toNat x y (maskB l i))
  obtain ⟨d, hd⟩ : ∃ d, d = maskB l i := ⟨_, rfl⟩
  rw [← hd] at Hm ⊢
  have Hd := hide hd
  clear hd h hn
  obtain ⟨z, hz⟩ : ∃ z, z = (mixB x y d).toNat := ⟨_, rfl⟩
  rw [← hz] at Hm ⊢
  clear hz
  have hx := x.toNat_lt
  have hy := y.toNat_lt
  have hd8 := d.toNat_lt
  go_enter Try.func79, Try.ntmps79
  go_wp2_with fail
  refine (mask_any A n c B l i _ Hl.out Hn.out).mono ?_
  rintro e w2 ⟨he, rfl⟩
  rw [← Hd.out] at he
  subst he
  generalize d.toNat = d' at *
  generalize x.toNat = x' at *
  generalize y.toNat = y' at *
  go_wp2
  go_ret
  exact ⟨ret_int (by rw [bits_mix _ _ _ hx hy hd8, Hm.out]), rfl⟩
end
section
open Go.RowKit

theorem Calls.back {f : FuncId} {args : Array Value} {w : World} {v : Value} (h : Calls Try.prog f args w fun e w' => e = .returned v ∧ w = w') : Calls Try.prog f args w fun e w' => e = .returned v ∧ w' = w :=
  h.mono fun _ _ ⟨h1, h2⟩ => ⟨h1, h2.symm⟩

theorem bys_set (l : List UInt8) (j : Nat) (x : UInt8) : bys (l.set j x) = (bys l).set j (.int .u8 (x.toNat : Int)) := by
  simp [bys, List.map_set]

theorem own_addr {w : World} {base : Nat} {e : TypeId} {size n c : Nat} {A : Option Addr} {xs : List Value} (h : w.ownsRow base e size (.slice A n c) n xs) (hn : 0 < n) : ∃ g, A = some ⟨g, 0, none⟩ ∧ base ≤ g := by
  rcases h.2 with ⟨_, h0⟩ | ⟨g, cap, cur, hv, hb, _⟩
  · omega
  · injection hv with hA _ _
    exact ⟨g, hA, hb⟩
end
section
open Go.RowKit

set_option maxRecDepth 4000 in
set_option maxHeartbeats 1000000 in
theorem program_any (A A2 A3 : Option Addr) (n c n2 c2 n3 c3 B : Nat) (l b m : List UInt8) (w : World) (h : Lies w B A (bys l)) (hn : n = l.length) (hbig : n ≤ 100000000000) (h2 : Lies w B A2 (bys b)) (hn2 : n2 = b.length) (hbig2 : n2 ≤ 100000000000)
    (h3 : Lies w B A3 (bys m)) (hn3 : n3 = m.length) (hB : B ≤ w.heap.size) :
    Calls Try.prog 61 #[.slice A n c, .slice A2 n2 c2, .slice A3 n3 c3] w fun e w' => ∃ A' c', e = .returned (.slice A' n c') ∧
      w'.ownsRow w.heap.size 5 1 (.slice A' n c') n (bys (progL l b m)) ∧ Below w.heap.size w w' := by
  have Hn := hide hn
  have Hl := hide h
  have Hn2 := hide hn2
  have Hl2 := hide h2
  have Hn3 := hide hn3
  have Hl3 := hide h3
  clear hn h hn2 h2 hn3 h3
  go_enter Try.func61, Try.ntmps61
  go_wp2_with fail
  refine (zwithin_any A3 n3 c3 _).mono ?_
  rintro e w1 ⟨rfl, hw1⟩
  have hb1 : Below w.heap.size w w1 := by rw [← hw1]; exact (Below.refl _ w).alloc (Nat.le_refl _) _
  have hcg : w1.cell? ⟨w.heap.size, 0, none⟩ = some (.slice A3 n3 c3) := by rw [← hw1]; simp
  have hsz1 : w1.heap.size = w.heap.size + 1 := by rw [← hw1]; simp
  have Hb1 := hide hb1
  have Hcg := hide hcg
  clear hb1 hcg hw1
  go_wp2_with fail
  refine (clone_any A n c B (bys l) _ (Hl.out.below (Hb1.out.mono hB)) (by rw [bys_len]; exact Hn.out) (bys_one l) (by omega)).mono ?_
  rintro e w2 ⟨v2, rfl, ho2, hb2⟩
  obtain ⟨A4, c4, rfl, _⟩ := own_form ho2
  have Ho2 := hide ho2
  have Hb2 := hide (Hb1.out.trans (hb2.mono (by omega)))
  have Hcg2 := hide ((hb2.cell (p := ⟨w.heap.size, 0, none⟩) (by simp; omega)).trans Hcg.out)
  have hsz2 := hb2.size
  clear ho2 hb2 Hcg Hb1
  by_cases hcmp : (n2 : Int) < (n : Int)
  all_goals
    go_wp2
    go_loopw [19] (fun i wr => ∃ j : Nat, j ≤ n ∧ j ≤ n2 ∧ i = .int .i64 (j : Int) ∧ wr.ownsRow (w.heap.size + 1) 5 1 (.slice A4 n c4) n (bys (laid (progB l b m) l j)) ∧
      Below w.heap.size w wr ∧ wr.cell? ⟨w.heap.size, 0, none⟩ = some (.slice A3 n3 c3)) (fun i _ => n - (intOf i).toNat)
    case atStart => exact ⟨0, Nat.zero_le _, Nat.zero_le _, rfl, by rw [laid_zero, ← hsz1]; exact Ho2.out, Hb2.out, Hcg2.out⟩
    case round =>
      obtain ⟨j, hj, hj2, rfl, ho, hb, hcg⟩ := hrel
      have Ho := hide ho
      have Hb := hide hb
      clear ho hb
      by_cases hlt : j < n ∧ j < n2
      · have h1 : (j : Int) < (n : Int) := by omega
        have h2 : (j : Int) < (n2 : Int) := by omega
        obtain ⟨g, rfl, hg⟩ := own_addr Ho.out (by omega)
        obtain ⟨a, rfl, _, hca⟩ := (Hl.out.below (Hb.out.mono hB)).byte (k := j) (by have := Hn.out; omega)
        obtain ⟨a2, rfl, _, hcb⟩ := (Hl2.out.below (Hb.out.mono hB)).byte (k := j) (by have := Hn2.out; omega)
        have hcj : (wr.cell? ⟨g, j, none⟩).isSome = true := by
          rw [Ho.out.cellAt j (by omega), List.getElem?_eq_getElem (by rw [bys_len, laid_len]; have := Hn.out; omega)]; rfl
        obtain ⟨uj, huj⟩ := Option.isSome_iff_exists.1 hcj
        clear hcj
        have hfj := Ho.out.frozenAt j
        have Hand := hide (u8_and_nat (l.getD j 0).toNat (b.getD j 0).toNat (UInt8.toNat_lt _) (UInt8.toNat_lt _))
        have fm := Calls.back (mix_any w.heap.size A3 n3 c3 B m j (l.getD j 0) (l.getD j 0 &&& b.getD j 0) wr.drew hcg ((Hl3.out.below (Hb.out.mono hB)).drew) Hn3.out)
        rw [UInt8.toNat_and, ← Hand.out] at fm
        have Fm := hide fm
        clear fm
        generalize hx : (l.getD j 0) = x at *
        generalize hy : (b.getD j 0) = y at *
        have Hp := hide (show progB l b m j = mixB x (x &&& y) (maskB m j) by unfold progB; rw [if_pos (by have := Hn2.out; omega), hx, hy])
        clear hx hy
        rw [← Hp.out] at Fm
        go_wp2
        refine wp_region_still_tail 19 (by kernel_rfl) (by kernel_rfl) ?_
        simp only [List.take_succ_cons, List.take_zero, List.drop_succ_cons, List.drop_zero]
        repeat still_step
        still_call Fm.out
        repeat still_step
        refine wpStill_nil ?_
        change wpList _ _ _ _ _ wr.drew
        go_wp2
        go_roundw
        case rel =>
          have hst := World.ownsRow.stored (w := wr.drew) Ho.out j (.int .u8 ((progB l b m j).toNat : Int))
          refine ⟨j + 1, by omega, by omega, by go_num, ?_, (Hb.out.drew).setCell (by simp; omega) _, ?_⟩
          · rw [laid_succ _ _ _ (by have := Hn.out; omega), bys_set]
            exact hst.1
          · exact (World.cell?_setCell_other _ _ _ _ (by simp)).trans hcg
        case measure => simp [intOf]; omega
      · first
        | have h1 : ¬ (j : Int) < (n2 : Int) := by omega
          have hjj : min n n2 ≤ j := by omega
        | have h1 : ¬ (j : Int) < (n : Int) := by omega
          have hjj : min n n2 ≤ j := by omega
        have Hjj := hide hjj
        clear hjj
        go_wp2
        go_ret
        refine ⟨A4, c4, rfl, ?_, Hb.out⟩
        rw [← laid_prog l b m j (by rw [← Hn.out, ← Hn2.out]; exact Hjj.out)]
        exact own_up Ho.out (by omega)

set_option maxHeartbeats 1000000 in
theorem erase_any (A A3 : Option Addr) (n c n3 c3 B : Nat) (l m : List UInt8) (w : World) (h : Lies w B A (bys l)) (hn : n = l.length) (hbig : n ≤ 100000000000)
    (h3 : Lies w B A3 (bys m)) (hn3 : n3 = m.length) (hB : B ≤ w.heap.size) :
    Calls Try.prog 59 #[.slice A n c, .slice A3 n3 c3] w fun e w' => ∃ A' c', e = .returned (.slice A' n c') ∧
      w'.ownsRow w.heap.size 5 1 (.slice A' n c') n (bys (erasL l m)) ∧ Below w.heap.size w w' := by
  have Hn := hide hn
  have Hl := hide h
  have Hn3 := hide hn3
  have Hl3 := hide h3
  clear hn h hn3 h3
  go_enter Try.func59, Try.ntmps59
  go_wp2_with fail
  refine (zwithin_any A3 n3 c3 _).mono ?_
  rintro e w1 ⟨rfl, hw1⟩
  have hb1 : Below w.heap.size w w1 := by rw [← hw1]; exact (Below.refl _ w).alloc (Nat.le_refl _) _
  have hcg : w1.cell? ⟨w.heap.size, 0, none⟩ = some (.slice A3 n3 c3) := by rw [← hw1]; simp
  have hsz1 : w1.heap.size = w.heap.size + 1 := by rw [← hw1]; simp
  have Hb1 := hide hb1
  have Hcg := hide hcg
  clear hb1 hcg hw1
  go_wp2_with fail
  refine (clone_any A n c B (bys l) _ (Hl.out.below (Hb1.out.mono hB)) (by rw [bys_len]; exact Hn.out) (bys_one l) (by omega)).mono ?_
  rintro e w2 ⟨v2, rfl, ho2, hb2⟩
  obtain ⟨A4, c4, rfl, _⟩ := own_form ho2
  have Ho2 := hide ho2
  have Hb2 := hide (Hb1.out.trans (hb2.mono (by omega)))
  have Hcg2 := hide ((hb2.cell (p := ⟨w.heap.size, 0, none⟩) (by simp; omega)).trans Hcg.out)
  have hsz2 := hb2.size
  clear ho2 hb2 Hcg Hb1
  go_wp2
  go_loopw [14] (fun i wr => ∃ j : Nat, j ≤ n ∧ i = .int .i64 (j : Int) ∧ wr.ownsRow (w.heap.size + 1) 5 1 (.slice A4 n c4) n (bys (laid (erasB l m) l j)) ∧
    Below w.heap.size w wr ∧ wr.cell? ⟨w.heap.size, 0, none⟩ = some (.slice A3 n3 c3)) (fun i _ => n - (intOf i).toNat)
  case atStart => exact ⟨0, Nat.zero_le _, rfl, by rw [laid_zero, ← hsz1]; exact Ho2.out, Hb2.out, Hcg2.out⟩
  case round =>
    obtain ⟨j, hj, rfl, ho, hb, hcg⟩ := hrel
    have Ho := hide ho
    have Hb := hide hb
    clear ho hb
    by_cases hlt : j < n
    · have h1 : (j : Int) < (n : Int) := by omega
      obtain ⟨g, rfl, hg⟩ := own_addr Ho.out (by omega)
      obtain ⟨a, rfl, _, hca⟩ := (Hl.out.below (Hb.out.mono hB)).byte (k := j) (by have := Hn.out; omega)
      have hcj : (wr.cell? ⟨g, j, none⟩).isSome = true := by
        rw [Ho.out.cellAt j (by omega), List.getElem?_eq_getElem (by rw [bys_len, laid_len]; have := Hn.out; omega)]; rfl
      obtain ⟨uj, huj⟩ := Option.isSome_iff_exists.1 hcj
      clear hcj
      have hfj := Ho.out.frozenAt j
      have Fm := hide (mix_any w.heap.size A3 n3 c3 B m j (l.getD j 0) 255 wr hcg (Hl3.out.below (Hb.out.mono hB)) Hn3.out)
      have Hp := hide (show erasB l m j = mixB (l.getD j 0) 255 (maskB m j) from rfl)
      rw [← Hp.out, show (255 : UInt8).toNat = 255 from rfl] at Fm
      generalize hx : (l.getD j 0) = x at *
      clear hx
      go_wp2_with fail
      refine (Fm.out).mono ?_
      rintro e w3 ⟨rfl, rfl⟩
      go_wp2
      go_roundw
      case rel =>
        have hst := World.ownsRow.stored (w := wr) Ho.out j (.int .u8 ((erasB l m j).toNat : Int))
        refine ⟨j + 1, by omega, by go_num, ?_, (Hb.out).setCell (by simp; omega) _, ?_⟩
        · rw [laid_succ _ _ _ (by have := Hn.out; omega), bys_set]
          exact hst.1
        · exact (World.cell?_setCell_other _ _ _ _ (by simp)).trans hcg
      case measure => simp [intOf]; omega
    · obtain rfl : j = n := by omega
      go_wp2
      go_ret
      refine ⟨A4, c4, rfl, ?_, Hb.out⟩
      have := Ho.out
      rw [laid_all _ _ _ (by have := Hn.out; omega)] at this
      exact own_up this (by omega)
end
end Go.Proofs.Ytigpplckddnghaa
