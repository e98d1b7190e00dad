/-
  CONTRACTS: frag.Holes.
-/
import Derived.Test.YtlbgcbekjjkokaaRise
import Derived.Test.YtlbgcbekjjkokaaSpan
namespace Go.Proofs.Ytlbgcbekjjkokaa
open Go.RowKit

def hcells (l : List (Nat × Nat)) : List Value := l.flatMap fun p => [.int .u64 (p.1 : Int), .int .u64 (p.2 : Int)]
theorem hcells_len (l : List (Nat × Nat)) : (hcells l).length = l.length * 2 := flat_len _ 2 (fun _ => rfl) l
def holeStep (t : Nat) (st : List (Nat × Nat) × Nat) (b : Bn) : List (Nat × Nat) × Nat :=
  if b.from_ t = b.end_ t then st else (if st.2 < b.from_ t then st.1 ++ [(st.2, b.from_ t)] else st.1, max st.2 (b.end_ t))
def holeFold (t : Nat) (s : List Bn) : List (Nat × Nat) × Nat := s.foldl (holeStep t) ([], 0)
def holesL (t : Nat) (s : List Bn) : List (Nat × Nat) := if (holeFold t s).2 < t then (holeFold t s).1 ++ [((holeFold t s).2, t)] else (holeFold t s).1
theorem holeFold_snoc (t : Nat) (s : List Bn) (b : Bn) : holeFold t (s ++ [b]) = holeStep t (holeFold t s) b := by unfold holeFold; rw [List.foldl_append]; rfl
theorem holeFold_len (t : Nat) : ∀ (s : List Bn) (st : List (Nat × Nat) × Nat), (s.foldl (holeStep t) st).1.length ≤ st.1.length + s.length
  | [], st => by simp
  | b :: s, st => by
    rw [List.foldl_cons]
    have h := holeFold_len t s (holeStep t st b)
    have h2 : (holeStep t st b).1.length ≤ st.1.length + 1 := by
      unfold holeStep
      split
      · omega
      · simp only []
        split
        · simp
        · omega
    rw [List.length_cons]; omega
theorem end_le (b : Bn) (t : Nat) : b.from_ t ≤ t ∧ b.end_ t ≤ t ∧ b.from_ t ≤ b.end_ t := by unfold Bn.end_ Bn.from_; omega
theorem holeFold_told (t : Nat) : ∀ (s : List Bn) (st : List (Nat × Nat) × Nat), st.2 ≤ t → (s.foldl (holeStep t) st).2 ≤ t
  | [], st, h => h
  | b :: s, st, h => by
    rw [List.foldl_cons]
    refine holeFold_told t s _ ?_
    have := end_le b t
    unfold holeStep
    split
    · exact h
    · simp only []; omega

theorem own_keep' {w w' : World} {B k n : Nat} {e : TypeId} {v : Value} {xs : List Value} (h : w.ownsRow B e k v n xs) (hb : Below w.heap.size w w') : w'.ownsRow B e k v n xs :=
  h.kept (row := none) (grown_below hb) (by cases hv : v.ownBlock <;> simp)
theorem hcells_one (l : List (Nat × Nat)) : ∀ u ∈ hcells l, u.oneCell' = true := by
  intro u hu
  obtain ⟨p, _, hp⟩ := List.mem_flatMap.1 hu
  simp only [List.mem_cons, List.not_mem_nil, or_false] at hp
  rcases hp with rfl | rfl <;> rfl
theorem pairinfo : (Try.prog.info? 51).map (fun i => (i.zero, i.size, i.bytes)) = some (some (.agg #[.int .u64 0, .int .u64 0]), 2, 16) := by kernel_rfl
theorem helems : Elems Try.prog 49 51 2 16 := by
  obtain ⟨i0, hi, hz0, hz1, hz2⟩ := info_parts pairinfo
  exact ⟨Try.underlying49, ⟨i0, _, hi, hz0, hz1, hz2, rfl⟩, by decide⟩

/-- What Holes answers: the holes of the fragments, gone through in an order in which they rise. -/
def HolePost (t : Nat) (l : List Bn) (w : World) (e : Ending) (w' : World) : Prop :=
  ∃ σ s A m c', Rises l σ ∧ s.length = l.length ∧ (∀ k (hk : k < s.length) (h2 : k < σ.length) (h1 : σ[k] < l.length), s[k] = l[σ[k]]) ∧ e = .returned (.slice A m c') ∧ m = (holesL t s).length ∧ Lies w' w'.heap.size A (hcells (holesL t s)) ∧ Below w.heap.size w w'

set_option maxRecDepth 100000 in
set_option maxHeartbeats 4000000 in
theorem holes_any (t : Nat) (a : Addr) (n c B : Nat) (l : List Bn) (w : World) (h : Lies w B (some a) (l.flatMap Bn.cells)) (hn : n = l.length) (hB : B ≤ w.heap.size) (hbig : n ≤ 1000000) (hn0 : 0 < n) (ht : t < 18446744073709551616)
    (hel : ∀ b ∈ l, b.p.off < 18446744073709551616 ∧ b.pay.data.size ≤ 1000000) :
    Calls Try.prog 14 #[.int .u64 (t : Int), .slice (some a) n c] w (HolePost t l w) := by
  have FR := hide (rising_any a n c B l w h hn hB hbig hn0)
  have Hl := hide h
  have Hn := hide hn
  have Hel := hide hel
  clear h hn hel
  go_enter Try.func14, Try.ntmps14
  go_wp2_with fail
  refine FR.out.mono ?_
  rintro e w1 ⟨σ, rfl, hR, hc1, hz1, hb1⟩
  have hσl : σ.length = l.length := by rw [hR.perm.length_eq, List.length_range]
  have hσlt : ∀ k (hk : k < σ.length), σ[k] < l.length := fun k hk => List.mem_range.1 (hR.perm.mem_iff.1 (List.getElem_mem hk))
  obtain ⟨s, hs⟩ : ∃ s : List Bn, s = σ.attach.map fun x => l[x.val]'(List.mem_range.1 (hR.perm.mem_iff.1 x.property)) := ⟨_, rfl⟩
  have hsl : s.length = l.length := by rw [hs]; simp [hσl]
  have hsk : ∀ k (hk : k < s.length) (h2 : k < σ.length) (h1 : σ[k] < l.length), s[k] = l[σ[k]] := by
    intro k hk h2 h1; subst hs; simp
  have HR := hide hR
  have Hc1 := hide hc1
  have Hb1 := hide hb1
  have Hsl := hide hsl
  have Hsk := hide hsk
  have Hσl := hide hσl
  have Hσlt := hide hσlt
  have hsz1 := hb1.size
  clear hR hc1 hb1 hsl hsk hσl hσlt hs FR
  go_wp2_with fail
  go_loopw [5, 6, 8, 9, 10, 14] (fun s5 s6 s8 s9 s10 s14 wr => ∃ k : Nat, k ≤ n ∧ s14 = .int .i64 (k : Int) ∧ Below w1.heap.size w1 wr ∧ ∃ (acc : List (Nat × Nat)) (told : Nat) (A2 : Option Addr) (m2 c2 : Nat), s5 = .slice A2 m2 c2 ∧ s6 = .int .u64 (told : Int) ∧ Hid (holeFold t (s.take k) = (acc, told)) ∧ wr.ownsRow w1.heap.size 51 2 (.slice A2 m2 c2) acc.length (hcells acc)) (fun s5 s6 s8 s9 s10 s14 wr => n - (intOf s14).toNat)
  case atStart => exact ⟨0, Nat.zero_le _, rfl, Below.refl _ _, [], 0, none, 0, 0, rfl, rfl, hide rfl, World.ownsRow_nil _ _ _ _⟩
  case round =>
    obtain ⟨k, hk, rfl, hb, acc, told, A2, m2, c2, rfl, rfl, HF, ho⟩ := hrel
    have Hb := hide hb
    have Ho := hide ho
    have hzw := hb.size
    have Hacc := hide (show acc.length ≤ k ∧ told ≤ t by
      have h1 := holeFold_len t (s.take k) ([], 0)
      have h2 := holeFold_told t (s.take k) ([], 0) (Nat.zero_le _)
      have e := HF.out
      unfold holeFold at e
      rw [e] at h1 h2
      simp only [List.length_nil, List.length_take] at h1
      exact ⟨by omega, h2⟩)
    have hm2 : m2 = acc.length := by obtain ⟨A5, c5, hv, _, _⟩ := own_form Ho.out; injection hv
    subst hm2
    clear hb ho
    by_cases hlt : k < n
    · have hlt' : (k : Int) < (n : Int) := by omega
      have hkσ : k < σ.length := by rw [Hσl.out, ← Hn.out]; exact hlt
      have hks : k < s.length := by rw [Hsl.out, ← Hn.out]; exact hlt
      have c8 : wr.cell? ⟨w.heap.size, k, none⟩ = some (.int .i64 (σ[k] : Int)) := (Hb.out.cell (p := ⟨w.heap.size, k, none⟩) hz1).trans (Hc1.out k hkσ)
      have hjl : σ[k] < l.length := Hσlt.out k hkσ
      have hjn : ((σ[k] : Nat) : Int) < (n : Int) := by have := Hn.out; omega
      obtain ⟨a', ha', _, hca⟩ := (Hl.out.below ((Hb1.out.trans (Hb.out.mono hsz1)).mono hB)).elem (f := Bn.cells) (m := 25) Bn.cells_len hjl (by omega)
      cases ha'
      have hsb : s[k] = l[σ[k]] := Hsk.out k hks hkσ hjl
      have Hsnoc := hide (show holeFold t (s.take (k + 1)) = holeStep t (acc, told) l[σ[k]] by
        rw [List.take_succ_eq_append_getElem hks, holeFold_snoc, HF.out, hsb])
      have hfe := Hel.out l[σ[k]] (List.getElem_mem hjl)
      have fsp := fun W => span_any l[σ[k]] t W ht hfe.2 hfe.1
      have Hca := hide hca
      clear hca hsb hfe HF
      generalize l[σ[k]] = b at *
      generalize σ[k] = j at *
      obtain ⟨f, hf⟩ : ∃ f, f = b.from_ t := ⟨_, rfl⟩
      obtain ⟨g, hg⟩ : ∃ g, g = b.end_ t := ⟨_, rfl⟩
      unfold holeStep at Hsnoc
      rw [← hf, ← hg] at Hsnoc fsp
      have hft : f ≤ t ∧ g ≤ t := by have := end_le b t; omega
      clear hf hg
      have Hk2 := Hacc.out
      by_cases hfg : f = g
      · subst hfg
        have Hs2 := hide (show holeFold t (s.take (k + 1)) = (acc, told) by rw [Hsnoc.out, if_pos rfl])
        clear Hsnoc
        go_wp2_with (first
          | (with_reducible refine wpl_load_addr rfl 33 (.tmp 21) rfl (a.add (j * 25)) _ Hca.out rfl _ Try.underlying33 rfl 25 info33 (by with_unfolding_all rfl) ?_)
          | (go_at_call 28; refine (fsp _).mono ?_; rintro e w3 ⟨rfl, hb3⟩; have Hb3 := hide (Hb.out.trans (hb3.mono hzw)); have Ho3 := hide (own_keep' Ho.out hb3); clear hb3))
        go_roundw
        case rel => exact ⟨k + 1, by omega, by go_num, Hb3.out, acc, told, _, _, _, rfl, rfl, Hs2, Ho3.out⟩
        case measure => simp [intOf]; omega
      · have hfgb : ((f : Int) == (g : Int)) = false := beq_eq_false_iff_ne.2 (by omega)
        have hfg' : ¬ (f : Int) = (g : Int) := by omega
        obtain ⟨mx, hmx⟩ : ∃ mx, mx = max told g := ⟨_, rfl⟩
        have emx : max (told : Int) (g : Int) = (mx : Int) := by omega
        by_cases htf : told < f
        · have htf' : (told : Int) < (f : Int) := by omega
          have Hs2 := hide (show holeFold t (s.take (k + 1)) = (acc ++ [(told, f)], mx) by rw [Hsnoc.out, if_neg hfg]; simp only []; rw [if_pos htf, hmx])
          clear Hsnoc hfg htf hmx
          go_wp2_with (first
            | (with_reducible refine wpl_load_addr rfl 33 (.tmp 21) rfl (a.add (j * 25)) _ Hca.out rfl _ Try.underlying33 rfl 25 info33 (by with_unfolding_all rfl) ?_)
            | (go_at_call 28; refine (fsp _).mono ?_; rintro e w3 ⟨rfl, hb3⟩; have Hb3 := hide (Hb.out.trans (hb3.mono hzw)); have Ho3 := hide (own_keep' Ho.out hb3); have hz3 := Hb3.out.size; clear hb3)
            | (at_builtin; refine wpl_app _ rfl helems (.tmp 33) (.tmp 37) rfl w1.heap.size (.slice A2 acc.length c2) acc.length (hcells acc) rfl (Ho3.out.alloc (.cells #[.int .u64 (told : Int), .int .u64 (f : Int)] 51)) (w3.heap.size + 1) (some ⟨w3.heap.size, 0, none⟩) 1 1 (hcells [(told, f)]) rfl rfl (Lies.new w3 #[.int .u64 (told : Int), .int .u64 (f : Int)] 51 (0, 0) (w3.heap.size + 1) (by omega)) (hcells_one _) (by unfold maxLen; omega) (by omega) (by simp; omega) ?_; intro A4 c4 w4 hown4 hg4 hat4; have Ho4 := hide hown4; have Hb4 := hide ((Hb3.out.alloc hz3 (.cells #[.int .u64 (told : Int), .int .u64 (f : Int)] 51)).grown hg4 (by simp; omega) (fun g hg => (Ho3.out.lt g hg).1)); clear hown4 hg4 hat4))
          go_roundw
          case rel => exact ⟨k + 1, by omega, by go_num, Hb4.out, acc ++ [(told, f)], mx, _, _, _, rfl, rfl, Hs2, by rw [List.length_append]; have := Ho4.out; rwa [show hcells acc ++ hcells [(told, f)] = hcells (acc ++ [(told, f)]) by unfold hcells; rw [List.flatMap_append]] at this⟩
          case measure => simp [intOf]; omega
        · have htf' : ¬ (told : Int) < (f : Int) := by omega
          have Hs2 := hide (show holeFold t (s.take (k + 1)) = (acc, mx) by rw [Hsnoc.out, if_neg hfg]; simp only []; rw [if_neg htf, hmx])
          clear Hsnoc hfg htf hmx
          go_wp2_with (first
            | (with_reducible refine wpl_load_addr rfl 33 (.tmp 21) rfl (a.add (j * 25)) _ Hca.out rfl _ Try.underlying33 rfl 25 info33 (by with_unfolding_all rfl) ?_)
            | (go_at_call 28; refine (fsp _).mono ?_; rintro e w3 ⟨rfl, hb3⟩; have Hb3 := hide (Hb.out.trans (hb3.mono hzw)); have Ho3 := hide (own_keep' Ho.out hb3); have hz3 := Hb3.out.size; clear hb3))
          go_roundw
          case rel => exact ⟨k + 1, by omega, by go_num, Hb3.out, acc, mx, _, _, _, rfl, rfl, Hs2, Ho3.out⟩
          case measure => simp [intOf]; omega
    · have hlt' : ¬ (k : Int) < (n : Int) := by omega
      have Hff := hide (show holeFold t s = (acc, told) by
        have := HF.out
        rwa [List.take_of_length_le (by have := Hsl.out; have := Hn.out; omega)] at this)
      have Hk2 := Hacc.out
      have Hbe := hide (Hb1.out.trans (Hb.out.mono hsz1))
      have hfin := HR.out
      clear HF
      generalize wr = w3 at *
      by_cases htt : told < t
      · have htt' : (told : Int) < (t : Int) := by omega
        have Hres := hide (show holesL t s = acc ++ [(told, t)] by unfold holesL; rw [Hff.out]; simp only []; rw [if_pos htt])
        clear htt hfin
        go_wp2_with (first
          | (at_builtin; refine wpl_app _ rfl helems (.tmp 46) (.tmp 50) rfl w1.heap.size (.slice A2 acc.length c2) acc.length (hcells acc) rfl (Ho.out.alloc (.cells #[.int .u64 (told : Int), .int .u64 (t : Int)] 51)) (w3.heap.size + 1) (some ⟨w3.heap.size, 0, none⟩) 1 1 (hcells [(told, t)]) rfl rfl (Lies.new w3 #[.int .u64 (told : Int), .int .u64 (t : Int)] 51 (0, 0) (w3.heap.size + 1) (by omega)) (hcells_one _) (by unfold maxLen; omega) (by omega) (by simp; omega) ?_; intro A4 c4 w4 hown4 hg4 hat4; have Ho4 := hide hown4; have Hb4 := hide ((Hb.out.alloc hzw (.cells #[.int .u64 (told : Int), .int .u64 (t : Int)] 51)).grown hg4 (by simp; omega) (fun g hg => (Ho.out.lt g hg).1)); clear hown4 hg4 hat4))
        go_ret
        unfold HolePost
        refine ⟨σ, s, A4, acc.length + 1, c4, HR.out, Hsl.out, Hsk.out, rfl, by rw [Hres.out]; simp, ?_, Hb1.out.trans (Hb4.out.mono hsz1)⟩
        rw [Hres.out]
        have := Lies.of_own Ho4.out
        rwa [show hcells acc ++ hcells [(told, t)] = hcells (acc ++ [(told, t)]) by unfold hcells; rw [List.flatMap_append]] at this
      · have htt' : ¬ (told : Int) < (t : Int) := by omega
        have Hres := hide (show holesL t s = acc by unfold holesL; rw [Hff.out]; simp only []; rw [if_neg htt])
        clear htt hfin
        go_wp2
        go_ret
        unfold HolePost
        exact ⟨σ, s, A2, acc.length, c2, HR.out, Hsl.out, Hsk.out, rfl, by rw [Hres.out], by rw [Hres.out]; exact Lies.of_own Ho.out, Hbe.out⟩

end Go.Proofs.Ytlbgcbekjjkokaa
