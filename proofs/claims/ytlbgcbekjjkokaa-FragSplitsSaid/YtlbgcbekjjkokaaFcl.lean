/-
  CONTRACTS: slices.Clone at blocks, frag.clone.
-/
import Derived.Test.YtlbgcbekjjkokaaBuck
namespace Go.Proofs.Ytlbgcbekjjkokaa
open Go.RowKit

theorem Lies.setRow {w : World} {B g : Nat} {A : Option Addr} {xs : List Value} (h : Lies w B A xs) (hne : ∀ a, A = some a → a.block ≠ g) (cs : Array Value) : Lies (w.setRow g cs) B A xs := by
  rcases h with h | ⟨a, hA, hb, hc⟩
  · exact .inl h
  · refine .inr ⟨a, hA, hb, fun j u hu => ?_⟩
    have e : (a.add j).block = a.block := Addr.add_block a j
    rw [cell_setRow_other w g cs _ (by rw [e]; exact hne a hA)]
    exact hc j u hu
theorem own_above {w : World} {base size n m c : Nat} {e : TypeId} {A : Option Addr} {xs : List Value} (h : w.ownsRow base e size (.slice A m c) n xs) : ∀ a, A = some a → base ≤ a.block := by
  intro a ha
  rcases h.2 with ⟨hv, _⟩ | ⟨g, cap, cur, hv, hg, _⟩
  · injection hv with h1; rw [ha] at h1; cases h1
  · injection hv with h1
    rw [ha] at h1
    injection h1 with h1
    rw [h1]; exact hg

set_option maxRecDepth 100000 in
theorem sclone_any (A : Option Addr) (n c B : Nat) (l : List Bk) (w : World) (h : Lies w B A (l.flatMap Bk.cells)) (hn : n = l.length) (hB : B ≤ w.heap.size) (hbig : n ≤ 1000000) :
    Calls Try.prog 32 #[.slice A n c] w fun e w' => ∃ A' c', e = .returned (.slice A' n c') ∧ Lies w' w'.heap.size A' (l.flatMap Bk.cells) ∧ n ≤ c' ∧ c' ≤ maxLen ∧ (∀ a, A' = some a → w.heap.size ≤ a.block) ∧ Below w.heap.size w w' := by
  cases A with
  | none =>
    have hl : l.flatMap Bk.cells = [] := by
      rcases h with h | ⟨a, hA, _⟩
      · exact h
      · cases hA
    have hl0 : l = [] := by
      cases l with
      | nil => rfl
      | cons x l => rw [List.flatMap_cons] at hl; simp [Bk.cells] at hl
    subst hl0
    have hn0 : n = 0 := by simpa using hn
    subst hn0
    clear h hn hl
    have q := fun w n c n' c' => Lib.run_eql_slice_nil (P := Try.prog) w 29 _ none n c n' c' Try.underlying29
    go_enter Try.func32, Try.ntmps32
    go_wp2
    go_ret
    exact ⟨_, _, rfl, .inl rfl, Nat.zero_le _, Nat.zero_le _, (fun a ha => by cases ha), Below.refl _ _⟩
  | some a =>
    have Hl := hide h
    have Hn := hide hn
    clear h hn
    have q := fun w n c n' c' => Lib.run_eql_slice_nil (P := Try.prog) w 29 _ (some a) n c n' c' Try.underlying29
    have K : Hid (∀ A' c' w', w'.ownsRow w.heap.size 31 5 (.slice A' (0 + n) c') (0 + n) ([] ++ l.flatMap Bk.cells) → Below w.heap.size w w' → ∃ A2 c2, Value.slice A' (0 + n) c' = .slice A2 n c2 ∧ Lies w' w'.heap.size A2 (l.flatMap Bk.cells) ∧ n ≤ c2 ∧ c2 ≤ maxLen ∧ (∀ a, A2 = some a → w.heap.size ≤ a.block) ∧ Below w.heap.size w w') := hide (fun A' c' w' ho hb => by
      obtain ⟨A2, c2, hv, h1, h2⟩ := own_form ho
      rw [Nat.zero_add] at ho hv h1
      rw [Nat.zero_add]
      injection hv with e1 e2 e3
      subst e1 e3
      exact ⟨A', c', rfl, by have := Lies.of_own ho; rwa [List.nil_append] at this, h1, h2, own_above ho, hb⟩)
    go_enter Try.func32, Try.ntmps32
    go_wp2_with (at_builtin; refine wpl_app _ rfl belems (.tmp 5) (.tmp 6) rfl w.heap.size (.slice (some ⟨w.heap.size, 0, none⟩) 0 0) 0 [] rfl (World.ownsRow_made w #[] 0 (Nat.le_refl _) (Nat.zero_le _) rfl) B (some a) n c (l.flatMap Bk.cells) rfl (by rw [flat_len _ 5 Bk.cells_len, Hn.out]) (Hl.out.alloc hB _) (rowB_one l) (by unfold maxLen; omega) (by omega) (by simp) ?_; intro A2 c2 w2 hown2 hg2 hat2; have Ho2 := hide hown2; have Hb2 := hide (((Below.refl w.heap.size w).alloc (Nat.le_refl _) _).grown hg2 (by simp) (by intro k hk; simp [Value.ownBlock] at hk; omega)); clear hown2 hg2 hat2)
    go_ret
    obtain ⟨A3, c3, h1, h2, h3, h4, h6, h5⟩ := K.out A2 c2 w2 Ho2.out Hb2.out
    exact ⟨A3, c3, by rw [← h1]; simp, h2, h3, h4, h6, h5⟩

set_option maxRecDepth 100000 in
set_option maxHeartbeats 2000000 in
theorem clone_any (b : Bn) (B : Nat) (w : World) (h : b.Ok w B) (hB : B ≤ w.heap.size) : Calls Try.prog 16 #[b.val] w fun e w' => ∃ A' c', e = .returned (Bn.val { b with A := A', c := c' }) ∧ Bn.Ok w' w'.heap.size { b with A := A', c := c' } ∧ Below w.heap.size w w' ∧ ∀ a, A' = some a → w.heap.size ≤ a.block := by
  have FC := hide (fun W (hb : Below w.heap.size w W) => sclone_any b.A b.n b.c B b.bs W (h.lies.below (hb.mono hB)) h.len (Nat.le_trans hB hb.size) h.few)
  have Hok := hide (fun (A' : Option Addr) (c' : Nat) (W : World) (h1 : Lies W W.heap.size A' (b.bs.flatMap Bk.cells)) (h2 : b.n ≤ c') (h3 : c' ≤ maxLen) => (⟨h1, h.len, h2, h.few, h3, h.fl, h.off, h.tot, h.dst, h.src, h.rep, h.data⟩ : Bn.Ok W W.heap.size { b with A := A', c := c' }))
  clear h
  rcases b with ⟨⟨fl, crc, ⟨d0, d1, d2, d3⟩, ⟨s0, s1, s2, s3⟩, ⟨r0, r1, r2, r3⟩, time, seq, life, off, tot⟩, A, n, c, bs, ⟨ty, num, fl2, crc2, data⟩⟩
  simp only [Bn.val, Bn.cells] at *
  have fr := fun A Z => heap_alloc2_old w (.cells A 33) (.cells Z 33)
  have fz := fun A Z => heap_alloc2_new w (.cells A 33) (.cells Z 33)
  have HB := hide (fun A Z => ((Below.refl w.heap.size w).alloc (Nat.le_refl _) (.cells A 33)).alloc (by simp) (.cells Z 33))
  have Fr := hide fr
  have Fz := hide fz
  clear fr fz
  go_enter Try.func16, Try.ntmps16
  go_wp2_with fail
  refine (FC.out _ (HB.out _ _)).mono ?_
  rintro e w1 ⟨A1, c1, rfl, hl1, hc1, hm1, hab, hb⟩
  have Hab := hide (show ∀ a, A1 = some a → w.heap.size + 2 ≤ a.block from fun a ha => by have := hab a ha; simp at this; omega)
  have hsz1 := hb.size
  have hr1 := (hb.block w.heap.size (by simp; omega)).trans (Fr.out _ _)
  have hz1 := (hb.block (w.heap.size + 1) (by simp)).trans (Fz.out _ _)
  have Hb1 := hide ((HB.out _ _).trans (hb.mono (by simp; omega)))
  have Hr1 := hide hr1
  have Hz1 := hide hz1
  have Hl1 := hide hl1
  have hsz2 : w.heap.size + 2 ≤ w1.heap.size := by simp at hsz1; omega
  clear hb hr1 hz1 hl1 FC Fr Fz HB hab hsz1
  go_wp2_with (first
    | (with_reducible refine wpl_store_field rfl 29 (.tmp 6) (.tmp 5) rfl w.heap.size 19 rfl _ rfl 33 _ Hr1.out (by simp) rfl rfl info_blks ?_)
    | (with_reducible refine wpl_load_at rfl 33 (.tmp 1) rfl w.heap.size 33 _ _ (setRow_heap _ _ _ _ _ _ Hr1.out) rfl Try.underlying33 rfl 25 info33 (by with_unfolding_all rfl) ?_)
    | (with_reducible refine wpl_store_at rfl 33 (.tmp 2) (.tmp 7) rfl (w.heap.size + 1) 33 _ _ ((setRow_other _ _ _ _ (by omega)).trans Hz1.out) rfl rfl 25 info33 (by with_unfolding_all rfl) (by with_unfolding_all rfl) (by with_unfolding_all rfl) ?_))
  refine end_cell rfl (w.heap.size + 1) _ _ _ (setRow_heap _ _ _ _ _ _ ((setRow_other _ _ _ _ (by omega)).trans Hz1.out)) rfl Try.underlying33 rfl 25 info33 (by rfl) ?_
  refine ⟨A1, c1, rfl, Hok.out A1 c1 _ ?_ hc1 hm1, below_setRow (below_setRow Hb1.out (Nat.le_refl _) _) (by omega) _, fun a ha => by have := Hab.out a ha; omega⟩
  refine Lies.up ((Hl1.out.setRow (fun a ha => by have := Hab.out a ha; omega) _).setRow (fun a ha => by have := Hab.out a ha; omega) _) (by simp)

end Go.Proofs.Ytlbgcbekjjkokaa
