/-
  CONTRACTS: earlier and rising: at which places fragments stand, those that begin first ahead.
-/
import Derived.Test.YtlbgcbekjjkokaaCmp
import Derived.Test.YtlbgcbekjjkokaaShelf
import Derived.Test.YtlbgcbekjjkokaaBuck
namespace Go.Proofs.Ytlbgcbekjjkokaa
open Go.RowKit

theorem earlier_any (A : Option Addr) (n c : Nat) (w : World) : Calls Try.prog 42 #[.slice A n c] w fun e w' => e = .returned (.func (.func 53) #[] #[.pointer (some ⟨w.heap.size, 0, none⟩)]) ∧ w' = w.alloc (.cells #[.slice A n c] 36) := by
  go_enter Try.func42, Try.ntmps42
  go_wp2
  go_ret
  exact ⟨rfl, rfl⟩

/-- Places of a list. -/
abbrev Pl (n : Nat) := { k : Nat // k < n }
theorem cmpN_swo {n : Nat} (f : Pl n → Nat) : Sort.SWO (ltOf fun x y : Pl n => cmpN (f x) (f y)) := by
  have e : ∀ x y : Pl n, ltOf (fun x y : Pl n => cmpN (f x) (f y)) x y = decide (f x < f y) := by
    intro x y
    unfold ltOf cmpN
    by_cases h : f x < f y
    · simp [h]
    · by_cases h2 : f y < f x <;> simp [h, h2]
  exact {
    irrefl := fun x => by rw [e]; simp
    trans := fun x y z h1 h2 => by rw [e] at *; simp at *; omega
    ntrans := fun x y z h1 h2 => by rw [e] at *; simp at *; omega }

def ints (l : List Nat) : List Value := l.map fun (k : Nat) => .int .i64 (k : Int)

/-- Numbers that are places of l, each once, those whose fragment begins first ahead. -/
structure Rises (l : List Bn) (σ : List Nat) : Prop where
  perm : σ.Perm (List.range l.length)
  up : ∀ i j (hj : j < σ.length) (hij : i < j) (h1 : (σ[i]'(Nat.lt_trans hij hj)) < l.length) (h2 : σ[j] < l.length), (l[(σ[i]'(Nat.lt_trans hij hj))]'h1).p.off ≤ (l[σ[j]]'h2).p.off

set_option maxHeartbeats 2000000 in
theorem sort_any (a : Addr) (n c B g q cap : Nat) (l : List Bn) (w : World) (h : Lies w B (some a) (l.flatMap Bn.cells)) (hn : n = l.length) (hB : B ≤ w.heap.size) (hbig : n ≤ 1000000) (hn0 : 0 < n)
    (hq : q < w.heap.size) (hqg : q ≠ g) (hqc : w.cell? ⟨q, 0, none⟩ = some (.slice (some a) n c)) (hBg : B ≤ g) (hg : g < w.heap.size)
    (hrow : ∀ k, k < n → w.cell? ⟨g, k, none⟩ = some (.int .i64 (k : Int)) ∧ w.frozen? ⟨g, k, none⟩ = false) :
    Calls Try.prog 41 #[.slice (some ⟨g, 0, none⟩) n cap, .func (.func 53) #[] #[.pointer (some ⟨q, 0, none⟩)]] w fun e w' => e = .returned (.tuple #[]) ∧
      ∃ σ, Rises l σ ∧ (∀ k (hk : k < σ.length), w'.cell? ⟨g, k, none⟩ = some (.int .i64 (σ[k] : Int))) ∧ Below g w w' := by
  have hln : 0 < l.length := by omega
  letI : Inhabited (Pl l.length) := ⟨⟨0, hln⟩⟩
  have eg : ∀ args w, (callFunc 53 args).run Try.prog w = .ok (.enter 53 args) w := enters_of Try.func53 (by kernel_rfl) rfl
  let enc : Pl l.length → Value := fun x => .int .i64 (x.val : Int)
  let f : Pl l.length → Nat := fun x => (l[x.val]'x.property).p.off
  let d : Array (Pl l.length) := Array.ofFn fun i : Fin l.length => ⟨i.val, i.isLt⟩
  have hds : d.size = n := by simp [d, hn]
  have hdk : ∀ k (hk : k < d.size), d[k]! = ⟨k, by omega⟩ := by
    intro k hk
    rw [getElem!_pos d k hk]
    simp [d]
  have hH : Sort.Holds enc w g 0 d := by
    intro j hj
    rw [hdk j hj, Nat.zero_add]
    exact hrow j (by omega)
  have hcell : ∀ (m : Nat) (os : Array Obj) (dk : Array (Pl l.length)) (p : Addr), p.block ≠ g → p.block < w.heap.size → (sortWorld enc w g 0 m dk os).cell? p = w.cell? p := by
    intro m os dk p h1 h2
    unfold sortWorld
    rw [Sort.cell?_grow _ _ _ (by simpa using h2), Sort.cell?_putRow_other _ _ _ _ _ _ (.inl h1)]
    rfl
  have hcmp : CmpReads Try.prog 53 #[.pointer (some ⟨q, 0, none⟩)] enc (fun x y => cmpN (f x) (f y)) g 0 d.size w := by
    intro m os dk _ x y
    obtain ⟨a1, ha1, hb1, hc1⟩ := h.elem (f := Bn.cells) (m := 25) Bn.cells_len x.property (by omega)
    obtain ⟨a2, ha2, hb2, hc2⟩ := h.elem (f := Bn.cells) (m := 25) Bn.cells_len y.property (by omega)
    cases ha1
    cases ha2
    refine earlier1_any a n c q x.val y.val (f x) (f y) _ (by have := x.property; omega) (by have := y.property; omega) hbig ?_ ?_ ?_
    · rw [hcell _ _ _ _ hqg hq]; exact hqc
    · rw [hcell _ _ _ _ (by show (a.add (x.val * 25)).block ≠ g; rw [Addr.add_block]; omega) (by show (a.add (x.val * 25)).block < _; rw [Addr.add_block]; omega)]
      exact hc1 17 _ rfl
    · rw [hcell _ _ _ _ (by show (a.add (y.val * 25)).block ≠ g; rw [Addr.add_block]; omega) (by show (a.add (y.val * 25)).block < _; rw [Addr.add_block]; omega)]
      exact hc2 17 _ rfl
  have hcon := Try.slices_SortFunc enc (fun _ => rfl) (fun x y => cmpN (f x) (f y)) (cmpN_swo f) 53 #[.pointer (some ⟨q, 0, none⟩)] g 0 cap d w eg hcmp.lays hH hg (by omega)
  rw [hds] at hcon
  refine hcon.mono ?_
  rintro e w' ⟨rfl, d', m, os, hp, hs, rfl⟩
  have hd's : d'.size = n := by rw [hp.1, hds]
  refine ⟨rfl, d'.toList.map (·.val), ⟨?_, ?_⟩, ?_, ?_⟩
  · have h3 := hp.2.2
    rw [show d'.extract 0 n = d' by rw [← hd's]; simp, show d.extract 0 n = d by rw [← hds]; simp] at h3
    have h4 := h3.map (fun x : Pl l.length => x.val)
    have h5 : d.toList.map (fun x : Pl l.length => x.val) = List.range l.length := by
      apply List.ext_getElem
      · simp [d]
      · intro i h1 h2
        simp [d]
    rw [h5] at h4
    exact h4
  · intro i j hj hij h1 h2
    have hj' : j < d'.size := by simpa using hj
    have h3 := hs i j (Nat.zero_le _) hij (by omega)
    rw [getElem!_pos d' j hj', getElem!_pos d' i (by omega)] at h3
    unfold ltOf cmpN at h3
    simp only [List.getElem_map, Array.getElem_toList]
    by_cases hlt : f d'[j] < f d'[i]
    · simp [hlt] at h3
    · exact Nat.not_lt.1 hlt
  · intro k hk
    have hk' : k < d'.size := by simpa using hk
    unfold sortWorld
    rw [Sort.cell?_grow _ _ _ (by simpa using hg)]
    have h3 := Sort.cell?_putRow enc (Sort.ahead w m) g 0 d d' (Sort.holds_ahead _ _ _ _ _ _ hH) (by omega) k hk'
    rw [Nat.zero_add, getElem!_pos d' k hk'] at h3
    rw [h3]
    simp [enc]
  · unfold sortWorld
    refine ⟨rfl, rfl, rfl, by simp, fun k hk => ?_⟩
    rw [Sort.heap_grow_old _ _ (by simp; omega)]
    show (Sort.mapBlock _ _ _).heap[k]? = _
    simp [Sort.mapBlock, Array.getElem?_modify, show ¬ g = k by omega]

theorem intinfo : (Try.prog.info? 3).map (fun i => (i.zero, i.size, i.bytes)) = some (some (.int .i64 0), 1, 8) := by kernel_rfl

set_option maxHeartbeats 2000000 in
theorem rising_any (a : Addr) (n c B : Nat) (l : List Bn) (w : World) (h : Lies w B (some a) (l.flatMap Bn.cells)) (hn : n = l.length) (hB : B ≤ w.heap.size) (hbig : n ≤ 1000000) (hn0 : 0 < n) :
    Calls Try.prog 27 #[.slice (some a) n c] w fun e w' => ∃ σ, e = .returned (.slice (some ⟨w.heap.size, 0, none⟩) n n) ∧ Rises l σ ∧ (∀ k (hk : k < σ.length), w'.cell? ⟨w.heap.size, k, none⟩ = some (.int .i64 (σ[k] : Int))) ∧ w.heap.size < w'.heap.size ∧ Below w.heap.size w w' := by
  obtain ⟨i0, hi, hz0, hz1, hz2⟩ := info_parts intinfo
  obtain ⟨w1, hmk, ho1, hg1⟩ := run_make_full (P := Try.prog) w w.heap.size 64 3 i0 (.int .i64 0) 1 Try.underlying64 hi hz0 hz1 .i64 .i64 n (by rw [hz2]; omega) (by unfold maxLen; omega) (Nat.le_refl _)
  have Hl := hide h
  have Hn := hide hn
  have Hg1 := hide (show Below w.heap.size w w1 from ⟨hg1.os, hg1.tape, hg1.output, hg1.size, fun k hk => hg1.block k hk (by simp)⟩)
  have Ho1 := hide ho1
  clear h hn ho1 hg1
  generalize (madeCells (Value.int .i64 0).cells (n * 1)).toList = z0 at *
  go_enter Try.func27, Try.ntmps27
  go_wp2_with fail
  go_loopw [4, 10] (fun s4 s10 wr => ∃ k : Nat, k ≤ n ∧ s10 = .int .i64 (k : Int) ∧ Below w.heap.size w wr ∧ ∃ xs, wr.ownsRow w.heap.size 3 1 (.slice (some ⟨w.heap.size, 0, none⟩) n n) n xs ∧ Hid (∀ j, j < k → xs[j]? = some (.int .i64 (j : Int)))) (fun s4 s10 wr => n - (intOf s10).toNat)
  case atStart => exact ⟨0, Nat.zero_le _, rfl, Hg1.out, z0, Ho1.out, hide (fun j hj => by omega)⟩
  case round =>
    obtain ⟨k, hk, rfl, hb, xs, ho, HX⟩ := hrel
    have Hb := hide hb
    have Ho := hide ho
    have hzw := hb.size
    clear hb ho
    by_cases hlt : k < n
    · have hlt' : (k : Int) < (n : Int) := by omega
      have hxl : xs.length = n := by have := Ho.out.1; omega
      have hck : wr.cell? ⟨w.heap.size, k, none⟩ = some (xs[k]'(by omega)) := by rw [Ho.out.cellAt k (by omega), List.getElem?_eq_getElem (by omega)]
      have hfk := Ho.out.frozenAt k
      have hst := World.ownsRow.stored (w := wr) Ho.out k (.int .i64 (k : Int))
      have Hst := hide hst.1
      have Hbs := hide (Hb.out.setCell (p := ⟨w.heap.size, k, none⟩) (Nat.le_refl _) (.int .i64 (k : Int)))
      have HX2 := hide (show ∀ j, j < k + 1 → (xs.set k (.int .i64 (k : Int)))[j]? = some (.int .i64 (j : Int)) from fun j hj => by
        rw [List.getElem?_set]
        by_cases h : k = j
        · subst h; simp [hxl, hlt]
        · rw [if_neg h]; exact HX.out j (by omega))
      generalize xs[k]'(by omega) = u0 at *
      clear hst HX Ho
      go_wp2
      go_roundw
      case rel => exact ⟨k + 1, by omega, by go_num, Hbs.out, _, Hst.out, HX2⟩
      case measure => simp [intOf]; omega
    · have hlt' : ¬ (k : Int) < (n : Int) := by omega
      obtain rfl : k = n := by omega
      generalize wr = w3 at *
      have hG : w.heap.size < w3.heap.size := (Ho.out.lt w.heap.size rfl).2
      have hxl : xs.length = k := by have := Ho.out.1; omega
      have hrow : ∀ j, j < k → (w3.alloc (.cells #[.slice (some a) k c] 36)).cell? ⟨w.heap.size, j, none⟩ = some (.int .i64 (j : Int)) ∧ (w3.alloc (.cells #[.slice (some a) k c] 36)).frozen? ⟨w.heap.size, j, none⟩ = false := fun j hj => by
        have hb3 : Below w3.heap.size w3 (w3.alloc (.cells #[.slice (some a) k c] 36)) := (Below.refl w3.heap.size w3).alloc (Nat.le_refl _) _
        have h1 : w3.cell? ⟨w.heap.size, j, none⟩ = some (.int .i64 (j : Int)) := by rw [Ho.out.cellAt j (by omega)]; exact HX.out j hj
        refine ⟨(hb3.cell (p := ⟨w.heap.size, j, none⟩) hG).trans h1, ?_⟩
        have h2 := Ho.out.frozenAt j
        simp only [World.frozen?, hb3.block w.heap.size hG] at h2 ⊢
        exact h2
      have fs := sort_any a k c B w.heap.size w3.heap.size k l (w3.alloc (.cells #[.slice (some a) k c] 36)) ((Hl.out.below (Hb.out.mono hB)).alloc (by omega) _) Hn.out (by simp; omega) hbig hn0 (by simp) (by omega) (by rw [cell_of_row _ _ _ _ _ _ (heap_alloc_last w3 _)]; rfl) hB (by simp; omega) hrow
      have Fs := hide fs
      have Hb4 := hide (Hb.out.trans ((((Below.refl w3.heap.size w3).alloc (Nat.le_refl _) (.cells #[.slice (some a) k c] 36))).mono hzw))
      clear hrow fs HX Ho
      go_wp2_with fail
      refine (earlier_any (some a) k c w3).mono ?_
      rintro e w4 ⟨rfl, hq⟩
      subst hq
      go_wp2_with fail
      refine Fs.out.mono ?_
      rintro e w5 ⟨rfl, σ, hR, hc5, hb5⟩
      have Hend := hide (show ∃ σ, Rises l σ ∧ (∀ j (hj : j < σ.length), w5.cell? ⟨w.heap.size, j, none⟩ = some (.int .i64 (σ[j] : Int))) ∧ w.heap.size < w5.heap.size ∧ Below w.heap.size w w5 from ⟨σ, hR, hc5, by have := hb5.size; simp at this; omega, Hb4.out.trans hb5⟩)
      clear hR hc5 hb5 Fs
      go_wp2
      go_ret
      obtain ⟨σ, h1, h2, h3, h4⟩ := Hend.out
      exact ⟨σ, rfl, h1, h2, h3, h4⟩

end Go.Proofs.Ytlbgcbekjjkokaa
