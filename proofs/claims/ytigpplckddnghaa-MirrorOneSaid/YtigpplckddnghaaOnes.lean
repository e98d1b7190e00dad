/-
  CONTRACTS of package nand: the functions that program and erase make.
  CONTRACT of zeros.Ones.
-/
import Derived.Test.YtigpplckddnghaaElem
import Derived.Test.YtigpplckddnghaaRep
namespace Go.Proofs.Ytigpplckddnghaa
section
open Go.RowKit

theorem makeProg_any (A A2 : Option Addr) (n c n2 c2 : Nat) (w : World) : Calls Try.prog 41 #[.slice A n c, .slice A2 n2 c2] w fun e w' =>
    e = .returned (.func (.func 60) #[] #[.pointer (some ⟨w.heap.size, 0, none⟩), .pointer (some ⟨w.heap.size + 1, 0, none⟩)]) ∧ (w.alloc (.cells #[.slice A n c] 46)).alloc (.cells #[.slice A2 n2 c2] 46) = w' := by
  go_enter Try.func41, Try.ntmps41
  go_wp2
  go_ret
  exact ⟨rfl, rfl⟩
theorem makeErase_any (A : Option Addr) (n c : Nat) (w : World) : Calls Try.prog 39 #[.slice A n c] w fun e w' =>
    e = .returned (.func (.func 58) #[] #[.pointer (some ⟨w.heap.size, 0, none⟩)]) ∧ w.alloc (.cells #[.slice A n c] 46) = w' := by
  go_enter Try.func39, Try.ntmps39
  go_wp2
  go_ret
  exact ⟨rfl, rfl⟩

theorem infoU8 : (Try.prog.info? 5).map (·.size) = some 1 := by kernel_rfl

section
variable {w : World} {B0 B : Nat} {D : Dv} {k kb kp km : Nat}
/-- 256 bytes copied onto a page. -/
theorem copy_page (h : DevAt w B0 B D k kb kp km) (hB : B ≤ w.heap.size) (i : Nat) (hi : i < D.nb * D.np) (q : List UInt8) (hq : q.length = 256) (a : Addr) (m c : Nat) (hm : 256 ≤ m) (hc : ∀ j u, (bys q)[j]? = some u → w.cell? (a.add j) = some u) (ty : TypeId) :
    (Builtin.copy_ #[46, 46] ty #[.slice (some ⟨kp, i * 256, none⟩) 256 256, .slice (some a) m c]).run Try.prog w = .ok (.int .i64 256) (w.setCells kp (i * 256) (bys q)) ∧
      DevAt (w.setCells kp (i * 256) (bys q)) B0 B { D with pg := upd D.pg i q } k kb kp km ∧ Tch [k, kb, kp] w (w.setCells kp (i * 256) (bys q)) := by
  have hr := run_copy_cells (P := Try.prog) w 46 46 ty 5 kp (i * 256) 256 256 a m c (bys q) Try.underlying46 infoU8 (by rw [bys_len, hq]; exact (Nat.min_eq_right hm).symm) hc
    (fun j hj => by rw [bys_len, hq] at hj; rw [h.pages.cell (by omega)]; rfl) (fun j _ => h.pages.free _) (bys_one q)
  rw [bys_len, hq] at hr
  exact ⟨hr, h.set_page hB i q hq, (Tch.setCells (S := [k, kb, kp]) (by simp) _ _ _)⟩

set_option maxRecDepth 4000 in
theorem doProg_any (h : DevAt w B0 B D k kb kp km) (hB : B ≤ w.heap.size) (i : Nat) (hi : i < D.nb * D.np) (g1 g2 B2 : Nat) (A A2 : Option Addr) (c m c2 : Nat) (b l : List UInt8) (hB2 : B2 ≤ w.heap.size)
    (h1 : w.cell? ⟨g1, 0, none⟩ = some (.slice A 256 c)) (h2 : w.cell? ⟨g2, 0, none⟩ = some (.slice A2 m c2)) (hb : Lies w B2 A (bys b)) (hbl : b.length = 256) (hl : Lies w B2 A2 (bys l)) (hm : m = l.length) :
    Calls Try.prog 60 #[.slice (some ⟨kp, i * 256, none⟩) 256 256, .pointer (some ⟨g1, 0, none⟩), .pointer (some ⟨g2, 0, none⟩)] w fun e w' => e = .returned (.tuple #[]) ∧
      DevAt w' B0 B { D with pg := upd D.pg i (progL (D.pg i) b l) } k kb kp km ∧ Tch [k, kb, kp] w w' := by
  have hlen := h.plen i hi
  have Fp := hide (program_any (some ⟨kp, i * 256, none⟩) A A2 256 256 256 c m c2 w.heap.size (D.pg i) b l w ((h.page hi).up hB) hlen.symm (by decide) (hb.up hB2) hbl.symm (by decide) (hl.up hB2) hm (Nat.le_refl _))
  have hq : (progL (D.pg i) b l).length = 256 := by rw [progL_len]; exact hlen
  have Hc := hide (fun W (hb : Below w.heap.size w W) => copy_page (h.below (hb.mono hB)) (Nat.le_trans hB hb.size) i hi _ hq)
  clear h hb hl hbl hm hlen hi hB hB2
  generalize progL (D.pg i) b l = q at *
  have Hq := hide hq
  clear hq
  go_enter Try.func60, Try.ntmps60
  go_wp2_with fail
  (with_reducible refine Fp.out.mono ?_)
  rintro e w3 ⟨A', c', rfl, ho, hb⟩
  obtain ⟨g, rfl, hg⟩ := own_addr ho (by decide)
  obtain ⟨hr, hd, ht⟩ := Hc.out w3 hb ⟨g, 0, none⟩ 256 c' (Nat.le_refl _) (ho.cells rfl) 3
  have Hd := hide hd
  have Ht := hide ((Tch.of_below hb).trans ht)
  clear hd ht ho hb Hc Fp
  go_wp2_with (at_builtin; refine wpl_copy _ rfl _ _ 46 46 rfl _ _ rfl rfl hr ?_)
  clear hr
  go_end0
  exact ⟨rfl, Hd.out, Ht.out⟩

set_option maxRecDepth 4000 in
theorem doErase_any (h : DevAt w B0 B D k kb kp km) (hB : B ≤ w.heap.size) (i : Nat) (hi : i < D.nb * D.np) (g2 B2 : Nat) (A2 : Option Addr) (m c2 : Nat) (l : List UInt8) (hB2 : B2 ≤ w.heap.size)
    (h2 : w.cell? ⟨g2, 0, none⟩ = some (.slice A2 m c2)) (hl : Lies w B2 A2 (bys l)) (hm : m = l.length) :
    Calls Try.prog 58 #[.slice (some ⟨kp, i * 256, none⟩) 256 256, .pointer (some ⟨g2, 0, none⟩)] w fun e w' => e = .returned (.tuple #[]) ∧
      DevAt w' B0 B { D with pg := upd D.pg i (erasL (D.pg i) l) } k kb kp km ∧ Tch [k, kb, kp] w w' := by
  have hlen := h.plen i hi
  have Fp := hide (erase_any (some ⟨kp, i * 256, none⟩) A2 256 256 m c2 w.heap.size (D.pg i) l w ((h.page hi).up hB) hlen.symm (by decide) (hl.up hB2) hm (Nat.le_refl _))
  have hq : (erasL (D.pg i) l).length = 256 := by rw [erasL_len]; exact hlen
  have Hc := hide (fun W (hb : Below w.heap.size w W) => copy_page (h.below (hb.mono hB)) (Nat.le_trans hB hb.size) i hi _ hq)
  clear h hl hm hlen hi hB hB2
  generalize erasL (D.pg i) l = q at *
  have Hq := hide hq
  clear hq
  go_enter Try.func58, Try.ntmps58
  go_wp2_with fail
  (with_reducible refine Fp.out.mono ?_)
  rintro e w3 ⟨A', c', rfl, ho, hb⟩
  obtain ⟨g, rfl, hg⟩ := own_addr ho (by decide)
  obtain ⟨hr, hd, ht⟩ := Hc.out w3 hb ⟨g, 0, none⟩ 256 c' (Nat.le_refl _) (ho.cells rfl) 3
  have Hd := hide hd
  have Ht := hide ((Tch.of_below hb).trans ht)
  clear hd ht ho hb Hc Fp
  go_wp2_with (at_builtin; refine wpl_copy _ rfl _ _ 46 46 rfl _ _ rfl rfl hr ?_)
  clear hr
  go_end0
  exact ⟨rfl, Hd.out, Ht.out⟩
end
end
section
open Go.RowKit

/-- Ones: as many bytes 255 as the number says, at least none, at most 2^20. -/
theorem ones_any (z : Int) (w : World) : Calls Try.prog 19 #[.int .i64 z] w fun e w' => ∃ A' c', e = .returned (.slice A' (min (max z 0) 1048576).toNat c') ∧
    Lies w' w'.heap.size A' (bys (List.replicate (min (max z 0) 1048576).toNat 255)) ∧ Below w.heap.size w w' := by
  obtain ⟨x, hx⟩ : ∃ x, x = (min (max z 0) 1048576).toNat := ⟨_, rfl⟩
  rw [← hx]
  have hw : ∀ (k : Nat) (q : Int) (c : Nat) (W : World), q = (k : Int) → k ≤ 1048576 → Calls Try.prog 32 #[.slice (some ⟨W.heap.size, 0, none⟩) 1 c, .int .i64 q] (W.alloc (.cells #[.int .u8 255] 5)) fun e w' => ∃ A' c', e = .returned (.slice A' k c') ∧ Lies w' w'.heap.size A' (bys (List.replicate k 255)) ∧ Below W.heap.size W w' := by
    rintro k q c W rfl hk
    by_cases h0 : k = 0
    · subst h0
      refine (repeat_0 _ _ _ _).mono ?_
      rintro e w1 ⟨A', c', rfl, hl, hb⟩
      exact ⟨A', c', rfl, hl, ((Below.refl _ W).alloc (Nat.le_refl _) _).trans (hb.mono (by simp))⟩
    · refine (repeat_any _ _ k _ (by simp) (by omega) hk).mono ?_
      rintro e w1 ⟨A', c', rfl, hl, hb⟩
      exact ⟨A', c', rfl, hl, ((Below.refl _ W).alloc (Nat.le_refl _) _).trans (hb.mono (by simp))⟩
  have Hw := hide hw
  clear hw
  rcases (by omega : z < 0 ∧ x = 0 ∨ 0 ≤ z ∧ z ≤ 1048576 ∧ (x : Int) = z ∨ 1048576 < z ∧ x = 1048576) with ⟨h, rfl⟩ | ⟨h, h', h2⟩ | ⟨h, rfl⟩
  · clear hx
    go_enter Try.func19, Try.ntmps19
    go_wp2_with fail
    (with_reducible refine (Hw.out 0 0 _ _ rfl (by omega)).mono ?_)
    rintro e w1 ⟨A', c', rfl, hl, hb⟩
    have Hl := hide hl
    have Hb := hide hb
    clear hl hb
    go_wp2
    go_ret
    exact ⟨A', c', rfl, Hl.out, Hb.out⟩
  · clear hx
    subst h2
    go_enter Try.func19, Try.ntmps19
    go_wp2_with fail
    (with_reducible refine (Hw.out x _ _ _ rfl (by omega)).mono ?_)
    rintro e w1 ⟨A', c', rfl, hl, hb⟩
    have Hl := hide hl
    have Hb := hide hb
    clear hl hb
    go_wp2
    go_ret
    exact ⟨A', c', rfl, Hl.out, Hb.out⟩
  · clear hx
    go_enter Try.func19, Try.ntmps19
    go_wp2_with fail
    (with_reducible refine (Hw.out 1048576 1048576 _ _ rfl (by omega)).mono ?_)
    rintro e w1 ⟨A', c', rfl, hl, hb⟩
    have Hl := hide hl
    have Hb := hide hb
    clear hl hb
    go_wp2
    go_ret
    exact ⟨A', c', rfl, Hl.out, Hb.out⟩
end
end Go.Proofs.Ytigpplckddnghaa
