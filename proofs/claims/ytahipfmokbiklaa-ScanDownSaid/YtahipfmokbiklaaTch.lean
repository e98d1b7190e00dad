/-
  CONTRACTS of package zeros: Mask, within and the function that it makes.
  SMALL LAWS that many walks want: a call that leaves the world; bytes that are set; where a row of one's own begins. (Cut out of Prgm.)
  CONTRACTS of package zeros, second part: Program, Erase.
  WORLDS of which some blocks have turned; blocks of cells; bytes in blocks of bytes. (Cut out of Dev.)
-/
import Derived.Test.YtahipfmokbiklaaBits
import Derived.Deep.QuietTactic
import Derived.BigQuiet
import Derived.Deep.RegionLaw
import Derived.Deep.RegionWith
import Derived.StillTailTactics
import Derived.StillTactics
import Derived.Maps.OwnSet
import Derived.Laws.IdiomCopy
import Derived.Deep.MidRow
namespace Go.Proofs.Ytahipfmokbiklaa
section
open Go.RowKit

theorem mask_any (A : Option Addr) (n c B : Nat) (l : List UInt8) (i : Nat) (w : World) (h : Lies w B A (bys l)) (hn : n = l.length) :
    Calls Try.prog 93 #[.slice A n c, .int .i64 (i : Int)] w fun e w' => e = .returned (.int .u8 ((maskB l i).toNat : Int)) ∧ w = w' := by
  by_cases h0 : n = 0
  · subst h0
    have e0 : maskB l i = 0 := by unfold maskB; rw [if_pos hn.symm]
    rw [e0]
    clear h hn e0
    go_enter Try.func93, Try.ntmps93
    go_wp2
    go_ret
    exact ⟨rfl, rfl⟩
  · obtain ⟨k, hk, hk8⟩ : ∃ k, k = i % n ∧ k < n := ⟨_, rfl, Nat.mod_lt _ (by omega)⟩
    have e1 : (i : Int) % (n : Int) = (k : Int) := by rw [hk]; simp
    have e0 : maskB l i = l.getD k 0 := by unfold maskB; rw [if_neg (by omega), ← hn, ← hk]
    rw [e0]
    obtain ⟨a, rfl, _, hc⟩ := h.byte (k := k) (by omega)
    generalize (l.getD k 0) = x at *
    have hpos : 0 < n := by omega
    have hne : ((n : Int) == 0) = false := by rw [beq_eq_false_iff_ne]; omega
    have hi0 : ¬ (i : Int) < 0 := by omega
    clear hk hn h e0
    go_enter Try.func93, Try.ntmps93
    go_wp2
    go_ret
    exact ⟨rfl, rfl⟩

theorem zwithin_any (A : Option Addr) (n c : Nat) (w : World) : Calls Try.prog 84 #[.slice A n c] w fun e w' => e = .returned (.func (.func 92) #[] #[.pointer (some ⟨w.heap.size, 0, none⟩)]) ∧ w.alloc (.cells #[.slice A n c] 65) = w' := by
  go_enter Try.func84, Try.ntmps84
  go_wp2
  go_ret
  exact ⟨rfl, rfl⟩

theorem mix_any (g : Nat) (A : Option Addr) (n c B : Nat) (l : List UInt8) (i : Nat) (x y : UInt8) (w : World) (hg : w.cell? ⟨g, 0, none⟩ = some (.slice A n c)) (h : Lies w B A (bys l)) (hn : n = l.length) :
    Calls Try.prog 92 #[.int .i64 (i : Int), .int .u8 (x.toNat : Int), .int .u8 (y.toNat : Int), .pointer (some ⟨g, 0, none⟩)] w fun e w' => e = .returned (.int .u8 ((mixB x y (maskB l i)).toNat : Int)) ∧ w = w' := by
  have Hn := hide hn
  have Hl := hide h
  have Hm := hide (mixB_toNat x y (maskB l i))
  obtain ⟨d, hd⟩ : ∃ d, d = maskB l i := ⟨_, rfl⟩
  rw [← hd] at Hm ⊢
  have Hd := hide hd
  clear hd h hn
  obtain ⟨z, hz⟩ : ∃ z, z = (mixB x y d).toNat := ⟨_, rfl⟩
  rw [← hz] at Hm ⊢
  clear hz
  have hx := x.toNat_lt
  have hy := y.toNat_lt
  have hd8 := d.toNat_lt
  go_enter Try.func92, Try.ntmps92
  go_wp2_with fail
  refine (mask_any A n c B l i _ Hl.out Hn.out).mono ?_
  rintro e w2 ⟨he, rfl⟩
  rw [← Hd.out] at he
  subst he
  generalize d.toNat = d' at *
  generalize x.toNat = x' at *
  generalize y.toNat = y' at *
  go_wp2
  go_ret
  exact ⟨ret_int (by rw [bits_mix _ _ _ hx hy hd8, Hm.out]), rfl⟩
end
section
open Go.RowKit

theorem Calls.back {f : FuncId} {args : Array Value} {w : World} {v : Value} (h : Calls Try.prog f args w fun e w' => e = .returned v ∧ w = w') : Calls Try.prog f args w fun e w' => e = .returned v ∧ w' = w :=
  h.mono fun _ _ ⟨h1, h2⟩ => ⟨h1, h2.symm⟩

theorem bys_set (l : List UInt8) (j : Nat) (x : UInt8) : bys (l.set j x) = (bys l).set j (.int .u8 (x.toNat : Int)) := by
  simp [bys, List.map_set]

theorem own_addr {w : World} {base : Nat} {e : TypeId} {size n c : Nat} {A : Option Addr} {xs : List Value} (h : w.ownsRow base e size (.slice A n c) n xs) (hn : 0 < n) : ∃ g, A = some ⟨g, 0, none⟩ ∧ base ≤ g := by
  rcases h.2 with ⟨_, h0⟩ | ⟨g, cap, cur, hv, hb, _⟩
  · omega
  · injection hv with hA _ _
    exact ⟨g, hA, hb⟩
end
section
open Go.RowKit

set_option maxRecDepth 4000 in
set_option maxHeartbeats 1000000 in
theorem program_any (A A2 A3 : Option Addr) (n c n2 c2 n3 c3 B : Nat) (l b m : List UInt8) (w : World) (h : Lies w B A (bys l)) (hn : n = l.length) (hbig : n ≤ 100000000000) (h2 : Lies w B A2 (bys b)) (hn2 : n2 = b.length) (hbig2 : n2 ≤ 100000000000)
    (h3 : Lies w B A3 (bys m)) (hn3 : n3 = m.length) (hB : B ≤ w.heap.size) :
    Calls Try.prog 77 #[.slice A n c, .slice A2 n2 c2, .slice A3 n3 c3] w fun e w' => ∃ A' c', e = .returned (.slice A' n c') ∧
      w'.ownsRow w.heap.size 5 1 (.slice A' n c') n (bys (progL l b m)) ∧ Below w.heap.size w w' := by
  have Hn := hide hn
  have Hl := hide h
  have Hn2 := hide hn2
  have Hl2 := hide h2
  have Hn3 := hide hn3
  have Hl3 := hide h3
  clear hn h hn2 h2 hn3 h3
  go_enter Try.func77, Try.ntmps77
  go_wp2_with fail
  refine (zwithin_any A3 n3 c3 _).mono ?_
  rintro e w1 ⟨rfl, hw1⟩
  have hb1 : Below w.heap.size w w1 := by rw [← hw1]; exact (Below.refl _ w).alloc (Nat.le_refl _) _
  have hcg : w1.cell? ⟨w.heap.size, 0, none⟩ = some (.slice A3 n3 c3) := by rw [← hw1]; simp
  have hsz1 : w1.heap.size = w.heap.size + 1 := by rw [← hw1]; simp
  have Hb1 := hide hb1
  have Hcg := hide hcg
  clear hb1 hcg hw1
  go_wp2_with fail
  refine (clone_any A n c B (bys l) _ (Hl.out.below (Hb1.out.mono hB)) (by rw [bys_len]; exact Hn.out) (bys_one l) (by omega)).mono ?_
  rintro e w2 ⟨v2, rfl, ho2, hb2⟩
  obtain ⟨A4, c4, rfl, _⟩ := own_form ho2
  have Ho2 := hide ho2
  have Hb2 := hide (Hb1.out.trans (hb2.mono (by omega)))
  have Hcg2 := hide ((hb2.cell (p := ⟨w.heap.size, 0, none⟩) (by simp; omega)).trans Hcg.out)
  have hsz2 := hb2.size
  clear ho2 hb2 Hcg Hb1
  by_cases hcmp : (n2 : Int) < (n : Int)
  all_goals
    go_wp2
    go_loopw [19] (fun i wr => ∃ j : Nat, j ≤ n ∧ j ≤ n2 ∧ i = .int .i64 (j : Int) ∧ wr.ownsRow (w.heap.size + 1) 5 1 (.slice A4 n c4) n (bys (laid (progB l b m) l j)) ∧
      Below w.heap.size w wr ∧ wr.cell? ⟨w.heap.size, 0, none⟩ = some (.slice A3 n3 c3)) (fun i _ => n - (intOf i).toNat)
    case atStart => exact ⟨0, Nat.zero_le _, Nat.zero_le _, rfl, by rw [laid_zero, ← hsz1]; exact Ho2.out, Hb2.out, Hcg2.out⟩
    case round =>
      obtain ⟨j, hj, hj2, rfl, ho, hb, hcg⟩ := hrel
      have Ho := hide ho
      have Hb := hide hb
      clear ho hb
      by_cases hlt : j < n ∧ j < n2
      · have h1 : (j : Int) < (n : Int) := by omega
        have h2 : (j : Int) < (n2 : Int) := by omega
        obtain ⟨g, rfl, hg⟩ := own_addr Ho.out (by omega)
        obtain ⟨a, rfl, _, hca⟩ := (Hl.out.below (Hb.out.mono hB)).byte (k := j) (by have := Hn.out; omega)
        obtain ⟨a2, rfl, _, hcb⟩ := (Hl2.out.below (Hb.out.mono hB)).byte (k := j) (by have := Hn2.out; omega)
        have hcj : (wr.cell? ⟨g, j, none⟩).isSome = true := by
          rw [Ho.out.cellAt j (by omega), List.getElem?_eq_getElem (by rw [bys_len, laid_len]; have := Hn.out; omega)]; rfl
        obtain ⟨uj, huj⟩ := Option.isSome_iff_exists.1 hcj
        clear hcj
        have hfj := Ho.out.frozenAt j
        have Hand := hide (u8_and_nat (l.getD j 0).toNat (b.getD j 0).toNat (UInt8.toNat_lt _) (UInt8.toNat_lt _))
        have fm := Calls.back (mix_any w.heap.size A3 n3 c3 B m j (l.getD j 0) (l.getD j 0 &&& b.getD j 0) wr.drew hcg ((Hl3.out.below (Hb.out.mono hB)).drew) Hn3.out)
        rw [UInt8.toNat_and, ← Hand.out] at fm
        have Fm := hide fm
        clear fm
        generalize hx : (l.getD j 0) = x at *
        generalize hy : (b.getD j 0) = y at *
        have Hp := hide (show progB l b m j = mixB x (x &&& y) (maskB m j) by unfold progB; rw [if_pos (by have := Hn2.out; omega), hx, hy])
        clear hx hy
        rw [← Hp.out] at Fm
        go_wp2
        refine wp_region_still_tail 19 (by kernel_rfl) (by kernel_rfl) ?_
        simp only [List.take_succ_cons, List.take_zero, List.drop_succ_cons, List.drop_zero]
        repeat still_step
        still_call Fm.out
        repeat still_step
        refine wpStill_nil ?_
        change wpList _ _ _ _ _ wr.drew
        go_wp2
        go_roundw
        case rel =>
          have hst := World.ownsRow.stored (w := wr.drew) Ho.out j (.int .u8 ((progB l b m j).toNat : Int))
          refine ⟨j + 1, by omega, by omega, by go_num, ?_, (Hb.out.drew).setCell (by simp; omega) _, ?_⟩
          · rw [laid_succ _ _ _ (by have := Hn.out; omega), bys_set]
            exact hst.1
          · exact (World.cell?_setCell_other _ _ _ _ (by simp)).trans hcg
        case measure => simp [intOf]; omega
      · first
        | have h1 : ¬ (j : Int) < (n2 : Int) := by omega
          have hjj : min n n2 ≤ j := by omega
        | have h1 : ¬ (j : Int) < (n : Int) := by omega
          have hjj : min n n2 ≤ j := by omega
        have Hjj := hide hjj
        clear hjj
        go_wp2
        go_ret
        refine ⟨A4, c4, rfl, ?_, Hb.out⟩
        rw [← laid_prog l b m j (by rw [← Hn.out, ← Hn2.out]; exact Hjj.out)]
        exact own_up Ho.out (by omega)

set_option maxHeartbeats 1000000 in
theorem erase_any (A A3 : Option Addr) (n c n3 c3 B : Nat) (l m : List UInt8) (w : World) (h : Lies w B A (bys l)) (hn : n = l.length) (hbig : n ≤ 100000000000)
    (h3 : Lies w B A3 (bys m)) (hn3 : n3 = m.length) (hB : B ≤ w.heap.size) :
    Calls Try.prog 71 #[.slice A n c, .slice A3 n3 c3] w fun e w' => ∃ A' c', e = .returned (.slice A' n c') ∧
      w'.ownsRow w.heap.size 5 1 (.slice A' n c') n (bys (erasL l m)) ∧ Below w.heap.size w w' := by
  have Hn := hide hn
  have Hl := hide h
  have Hn3 := hide hn3
  have Hl3 := hide h3
  clear hn h hn3 h3
  go_enter Try.func71, Try.ntmps71
  go_wp2_with fail
  refine (zwithin_any A3 n3 c3 _).mono ?_
  rintro e w1 ⟨rfl, hw1⟩
  have hb1 : Below w.heap.size w w1 := by rw [← hw1]; exact (Below.refl _ w).alloc (Nat.le_refl _) _
  have hcg : w1.cell? ⟨w.heap.size, 0, none⟩ = some (.slice A3 n3 c3) := by rw [← hw1]; simp
  have hsz1 : w1.heap.size = w.heap.size + 1 := by rw [← hw1]; simp
  have Hb1 := hide hb1
  have Hcg := hide hcg
  clear hb1 hcg hw1
  go_wp2_with fail
  refine (clone_any A n c B (bys l) _ (Hl.out.below (Hb1.out.mono hB)) (by rw [bys_len]; exact Hn.out) (bys_one l) (by omega)).mono ?_
  rintro e w2 ⟨v2, rfl, ho2, hb2⟩
  obtain ⟨A4, c4, rfl, _⟩ := own_form ho2
  have Ho2 := hide ho2
  have Hb2 := hide (Hb1.out.trans (hb2.mono (by omega)))
  have Hcg2 := hide ((hb2.cell (p := ⟨w.heap.size, 0, none⟩) (by simp; omega)).trans Hcg.out)
  have hsz2 := hb2.size
  clear ho2 hb2 Hcg Hb1
  go_wp2
  go_loopw [14] (fun i wr => ∃ j : Nat, j ≤ n ∧ i = .int .i64 (j : Int) ∧ wr.ownsRow (w.heap.size + 1) 5 1 (.slice A4 n c4) n (bys (laid (erasB l m) l j)) ∧
    Below w.heap.size w wr ∧ wr.cell? ⟨w.heap.size, 0, none⟩ = some (.slice A3 n3 c3)) (fun i _ => n - (intOf i).toNat)
  case atStart => exact ⟨0, Nat.zero_le _, rfl, by rw [laid_zero, ← hsz1]; exact Ho2.out, Hb2.out, Hcg2.out⟩
  case round =>
    obtain ⟨j, hj, rfl, ho, hb, hcg⟩ := hrel
    have Ho := hide ho
    have Hb := hide hb
    clear ho hb
    by_cases hlt : j < n
    · have h1 : (j : Int) < (n : Int) := by omega
      obtain ⟨g, rfl, hg⟩ := own_addr Ho.out (by omega)
      obtain ⟨a, rfl, _, hca⟩ := (Hl.out.below (Hb.out.mono hB)).byte (k := j) (by have := Hn.out; omega)
      have hcj : (wr.cell? ⟨g, j, none⟩).isSome = true := by
        rw [Ho.out.cellAt j (by omega), List.getElem?_eq_getElem (by rw [bys_len, laid_len]; have := Hn.out; omega)]; rfl
      obtain ⟨uj, huj⟩ := Option.isSome_iff_exists.1 hcj
      clear hcj
      have hfj := Ho.out.frozenAt j
      have Fm := hide (mix_any w.heap.size A3 n3 c3 B m j (l.getD j 0) 255 wr hcg (Hl3.out.below (Hb.out.mono hB)) Hn3.out)
      have Hp := hide (show erasB l m j = mixB (l.getD j 0) 255 (maskB m j) from rfl)
      rw [← Hp.out, show (255 : UInt8).toNat = 255 from rfl] at Fm
      generalize hx : (l.getD j 0) = x at *
      clear hx
      go_wp2_with fail
      refine (Fm.out).mono ?_
      rintro e w3 ⟨rfl, rfl⟩
      go_wp2
      go_roundw
      case rel =>
        have hst := World.ownsRow.stored (w := wr) Ho.out j (.int .u8 ((erasB l m j).toNat : Int))
        refine ⟨j + 1, by omega, by go_num, ?_, (Hb.out).setCell (by simp; omega) _, ?_⟩
        · rw [laid_succ _ _ _ (by have := Hn.out; omega), bys_set]
          exact hst.1
        · exact (World.cell?_setCell_other _ _ _ _ (by simp)).trans hcg
      case measure => simp [intOf]; omega
    · obtain rfl : j = n := by omega
      go_wp2
      go_ret
      refine ⟨A4, c4, rfl, ?_, Hb.out⟩
      have := Ho.out
      rw [laid_all _ _ _ (by have := Hn.out; omega)] at this
      exact own_up this (by omega)
end
section
open Go.RowKit

/-! ### worlds of which some blocks have turned -/
/-- Of what was there only the blocks S have turned. -/
structure Tch (S : List Nat) (w w' : World) : Prop where
  os : w'.os = w.os
  tape : w'.tape = w.tape
  output : w'.output = w.output
  size : w.heap.size ≤ w'.heap.size
  block : ∀ k, k < w.heap.size → k ∉ S → w'.heap[k]? = w.heap[k]?
theorem Tch.refl (S : List Nat) (w : World) : Tch S w w := ⟨rfl, rfl, rfl, Nat.le_refl _, fun _ _ _ => rfl⟩
theorem Tch.trans {S : List Nat} {a b c : World} (h : Tch S a b) (h2 : Tch S b c) : Tch S a c :=
  ⟨h2.os.trans h.os, h2.tape.trans h.tape, h2.output.trans h.output, Nat.le_trans h.size h2.size, fun k hk hs => (h2.block k (Nat.lt_of_lt_of_le hk h.size) hs).trans (h.block k hk hs)⟩
theorem Tch.mono {S S' : List Nat} {a b : World} (h : Tch S a b) (hs : ∀ k ∈ S, k ∈ S') : Tch S' a b :=
  ⟨h.os, h.tape, h.output, h.size, fun k hk hn => h.block k hk fun h2 => hn (hs k h2)⟩
theorem Tch.of_below {S : List Nat} {a b : World} (h : Below a.heap.size a b) : Tch S a b := ⟨h.os, h.tape, h.output, h.size, fun k hk _ => h.block k hk⟩
theorem Tch.below {S : List Nat} {a b : World} {B : Nat} (h : Tch S a b) (hB : B ≤ a.heap.size) (hs : ∀ k ∈ S, B ≤ k) : Below B a b :=
  ⟨h.os, h.tape, h.output, h.size, fun k hk => h.block k (by omega) fun h2 => by have := hs k h2; omega⟩
theorem Tch.set {S : List Nat} {w : World} {p : Addr} (hp : p.block ∈ S) (u : Value) : Tch S w (w.setCell p u) :=
  ⟨rfl, rfl, rfl, by simp [World.setCell], fun k _ hk => Below.heap_setCell _ _ _ _ (fun e => hk (e ▸ hp))⟩
theorem Tch.drew {S : List Nat} {w w' : World} (h : Tch S w w') : Tch S w w'.drew := ⟨h.os, h.tape, h.output, h.size, h.block⟩
theorem Tch.drewN {S : List Nat} {w w' : World} (h : Tch S w w') (n : Nat) : Tch S w (w'.drewN n) := ⟨h.os, h.tape, h.output, h.size, h.block⟩
theorem Tch.grown {S : List Nat} {w w' : World} {g : Nat} (h : w.grownBy w' (some g)) (hg : g ∈ S) : Tch S w w' :=
  ⟨h.os, h.tape, h.output, h.size, fun k hk hs => h.block k hk (fun e => by injection e with e; exact hs (e ▸ hg))⟩

/-! ### a block of cells -/
/-- Block k holds the n cells f. -/
def RowF (w : World) (k : Nat) (t : TypeId) (n : Nat) (f : Nat → Value) : Prop := ∃ cs, w.heap[k]? = some (.cells cs t (0, 0)) ∧ cs.size = n ∧ ∀ j, j < n → cs[j]? = some (f j)
section
variable {w w' : World} {k n : Nat} {t : TypeId} {f g : Nat → Value}
theorem RowF.lt (h : RowF w k t n f) : k < w.heap.size := by obtain ⟨cs, h, _⟩ := h; exact (Array.getElem?_eq_some_iff.1 h).1
theorem RowF.cell (h : RowF w k t n f) {j : Nat} (hj : j < n) : w.cell? ⟨k, j, none⟩ = some (f j) := by
  obtain ⟨cs, h, hn, hc⟩ := h
  simp [World.cell?, h, hc j hj]
theorem RowF.free (h : RowF w k t n f) (j : Nat) : w.frozen? ⟨k, j, none⟩ = false := by
  obtain ⟨cs, h, hn, hc⟩ := h
  simp [World.frozen?, h]
theorem RowF.kept (h : RowF w k t n f) (hb : w'.heap[k]? = w.heap[k]?) : RowF w' k t n f := by
  obtain ⟨cs, h, hn⟩ := h
  exact ⟨cs, hb.trans h, hn⟩
theorem RowF.congr (h : RowF w k t n f) (he : ∀ j, j < n → f j = g j) : RowF w k t n g := by
  obtain ⟨cs, h, hn, hc⟩ := h
  exact ⟨cs, h, hn, fun j hj => by rw [hc j hj, he j hj]⟩
theorem heap_set {cs : Array Value} {fr : Nat × Nat} (h : w.heap[k]? = some (.cells cs t fr)) (j : Nat) (u : Value) : (w.setCell ⟨k, j, none⟩ u).heap[k]? = some (.cells (cs.setIfInBounds j u) t fr) := by
  simp [World.setCell, Array.getElem?_modify, h]
theorem RowF.set (h : RowF w k t n f) (j : Nat) (u : Value) : RowF (w.setCell ⟨k, j, none⟩ u) k t n (fun i => if i = j then u else f i) := by
  obtain ⟨cs, h, hn, hc⟩ := h
  refine ⟨_, heap_set h j u, by simpa using hn, fun i hi => ?_⟩
  rw [Array.getElem?_setIfInBounds]
  by_cases e : i = j
  · subst e; simp [hn, hi]
  · show _ = some (if i = j then u else f i)
    rw [if_neg (fun h => e h.symm), if_neg e, hc i hi]
theorem RowF.new (w : World) (cs : Array Value) (t : TypeId) (n : Nat) (f : Nat → Value) (hn : cs.size = n) (hc : ∀ j, j < n → cs[j]? = some (f j)) : RowF (w.alloc (.cells cs t)) w.heap.size t n f :=
  ⟨cs, heap_alloc_new w _, hn, hc⟩
theorem RowF.setCells : ∀ (vs : List Value) (o : Nat) (w : World) (f : Nat → Value), RowF w k t n f →
    RowF (w.setCells k o vs) k t n (fun i => if o ≤ i ∧ i < o + vs.length then vs.getD (i - o) undef else f i)
  | [], o, w, f, h => h.congr fun i _ => by rw [if_neg (by simp)]
  | v :: r, o, w, f, h => by
    refine (RowF.setCells r (o + 1) _ _ (h.set o v)).congr fun i _ => ?_
    simp only [List.length_cons]
    by_cases h1 : i = o
    · subst h1
      rw [if_neg (by omega), if_pos rfl, if_pos (by omega), Nat.sub_self]
      rfl
    · by_cases h2 : o + 1 ≤ i ∧ i < o + 1 + r.length
      · rw [if_pos h2, if_pos (by omega), show i - o = (i - (o + 1)) + 1 by omega]
        rfl
      · rw [if_neg h2, if_neg h1, if_neg (by omega)]
end
theorem Tch.setCells {S : List Nat} {k : Nat} (hk : k ∈ S) : ∀ (vs : List Value) (o : Nat) (w : World), Tch S w (w.setCells k o vs)
  | [], _, w => Tch.refl S w
  | v :: r, o, _ => (Tch.set (p := ⟨k, o, none⟩) hk v).trans (Tch.setCells hk r (o + 1) _)

/-! ### bytes in blocks of bytes -/
/-- Bytes that lie in a block of bytes, below block B. -/
def LiesT (w : World) (B : Nat) (A : Option Addr) (l : List UInt8) : Prop :=
  l = [] ∨ ∃ a, A = some a ∧ a.block < B ∧ (∃ cs fr, w.heap[a.block]? = some (.cells cs 5 fr)) ∧ ∀ j u, (bys l)[j]? = some u → w.cell? (a.add j) = some u
theorem LiesT.lies {w : World} {B : Nat} {A : Option Addr} {l : List UInt8} (h : LiesT w B A l) : Lies w B A (bys l) := by
  rcases h with rfl | ⟨a, hA, hb, _, hc⟩
  · exact .inl rfl
  · exact .inr ⟨a, hA, hb, hc⟩
theorem LiesT.kept {w w' : World} {B : Nat} {A : Option Addr} {l : List UInt8} (h : LiesT w B A l) (hk : ∀ b, b < B → (∃ cs fr, w.heap[b]? = some (.cells cs 5 fr)) → w'.heap[b]? = w.heap[b]?) : LiesT w' B A l := by
  rcases h with rfl | ⟨a, hA, hb, ⟨cs, fr, ht⟩, hc⟩
  · exact .inl rfl
  · have e := hk _ hb ⟨cs, fr, ht⟩
    refine .inr ⟨a, hA, hb, ⟨cs, fr, e.trans ht⟩, fun j u hu => ?_⟩
    have e2 : (a.add j).block = a.block := by unfold Addr.add; split <;> rfl
    exact (World.cell?_of_block (w := w) (a := a.add j) (by rw [e2]; exact e)).trans (hc j u hu)
theorem LiesT.up {w : World} {B B' : Nat} {A : Option Addr} {l : List UInt8} (h : LiesT w B A l) (hB : B ≤ B') : LiesT w B' A l := by
  rcases h with h | ⟨a, hA, hb, r⟩
  · exact .inl h
  · exact .inr ⟨a, hA, by omega, r⟩
theorem LiesT.of_own {w : World} {base m c n : Nat} {A : Option Addr} {l : List UInt8} (h : w.ownsRow base 5 1 (.slice A m c) n (bys l)) : LiesT w w.heap.size A l := by
  rcases h.2 with ⟨hv, hn⟩ | ⟨g, cap, cur, hv, _, hg, _, _, _, _⟩
  · refine .inl (List.eq_nil_of_length_eq_zero ?_)
    have := h.1
    rw [bys_len, hn, Nat.zero_mul] at this
    exact this
  · injection hv with hA _ _
    subst hA
    exact .inr ⟨_, rfl, (Array.getElem?_eq_some_iff.1 hg).1, ⟨_, _, hg⟩, h.cells rfl⟩

theorem LiesT.new (w : World) (l : List UInt8) (cs : Array Value) (hcs : cs.toList = bys l) (g B : Nat) (hg : g = w.heap.size) (hB : g < B) : LiesT (w.alloc (.cells cs 5)) B (some ⟨g, 0, none⟩) l := by
  subst hg
  refine .inr ⟨_, rfl, hB, ⟨cs, (0, 0), heap_alloc_new w _⟩, ?_⟩
  rw [← hcs]
  exact World.news_of_block (heap_alloc_new w _)
theorem LiesT.drew {w : World} {B : Nat} {A : Option Addr} {l : List UInt8} (h : LiesT w B A l) : LiesT w.drew B A l := h
end
end Go.Proofs.Ytahipfmokbiklaa
