/-
  LAYER 20, THE REFERENCE: In, Other, Can, Places.
-/
import Derived.Test.YtofokljhlcdebaaPkT
import Derived.Test.YtofokljhlcdebaaPkD
import Derived.Lib.QuietBelow
namespace Go.Proofs.Ytofokljhlcdebaa
open Go.RowKit
set_option maxRecDepth 8000

set_option maxHeartbeats 4000000 in
theorem in20_any (A : Option Addr) (n c B : Nat) (L : List Pl2) (b : Int) (w : World) (hl : Lies w B A (rowQ L)) (hn : n = L.length) (hbig : n ≤ 1000) :
    Calls Try.prog 19 #[.slice A n c, .int .i64 b] w fun e w' => e = .returned (.bool (decide (b ∈ L.map Prod.fst))) ∧ w = w' := by
  have Hl := hide hl
  have Hn := hide hn
  have Hbig := hide hbig
  obtain ⟨R, hR⟩ : ∃ R, R = decide (b ∈ L.map Prod.fst) := ⟨_, rfl⟩
  rw [← hR]
  have HR := hide hR
  clear hl hn hR hbig
  go_enter Try.func19, Try.ntmps19
  go_wp2
  go_loop [5] (fun i => ∃ j : Nat, j ≤ n ∧ i = .int .i64 (j : Int) ∧ Hid (R = decide (b ∈ (L.drop j).map Prod.fst))) (fun i => n - (intOf i).toNat)
  case atStart => exact ⟨0, Nat.zero_le _, rfl, hide (by rw [HR.out]; rfl)⟩
  case round =>
    obtain ⟨j, hj, rfl, hd⟩ := hrel
    by_cases hlt : j < n
    · have hjl : j < L.length := by rw [← Hn.out]; exact hlt
      have hlt' : (j : Int) < (n : Int) := by omega
      obtain ⟨a, rfl, hab, hca⟩ := Hl.out.elem plc_len hjl (by decide)
      have Hd := hide (List.drop_eq_getElem_cons hjl)
      have e1 : wrap64 ((j : Int) + 1) = ((j + 1 : Nat) : Int) := by have := Hbig.out; unfold wrap64; omega
      generalize L[j] = u at *
      rcases u with ⟨ux, uy⟩
      have c0 : w.cell? (a.add (j * 2)) = some (.int .i64 ux) := hca 0 _ rfl
      clear hjl hca
      by_cases hz : ux = b
      · subst hz
        have hR2 : R = true := by rw [hd.out, Hd.out]; simp
        go_wp2
        go_ret
        exact ⟨by first | rfl | exact ret_bool hR2.symm, rfl⟩
      · have hb : (ux == b) = false := beq_eq_false_iff_ne.2 hz
        have Hnew := hide (show R = decide (b ∈ (L.drop (j + 1)).map Prod.fst) by rw [hd.out, Hd.out]; exact decide_eq_decide.2 (by simp [Ne.symm hz]))
        go_wp2
        go_round
        case rel => exact ⟨j + 1, hlt, congrArg (Value.int .i64) e1, Hnew⟩
        case measure => first | exact measT hlt | exact measT2 e1 hlt
    · obtain rfl : j = n := by omega
      have hR2 : R = false := by rw [hd.out, List.drop_eq_nil_of_le (by rw [Hn.out]; exact Nat.le_refl _)]; rfl
      go_wp2
      go_ret
      exact ⟨by first | rfl | exact ret_bool hR2.symm, rfl⟩
theorem okP_parts (bad : List Int) (L : List Pl2) (b x y : Int) : okP bad L b (x, y) = (decide (x ≠ b) && !decide (x ∈ bad) && decide (x ∈ L.map Prod.fst)) := by
  unfold okP
  cases decide ((x, y).1 ≠ b) <;> cases decide ((x, y).1 ∈ L.map Prod.fst) <;> cases decide ((x, y).1 ∈ bad) <;> simp_all
/-- The number of the first copy in another block that is used and not bad; below 0: there is none. -/
def othP (bad : List Int) (L : List Pl2) (b : Int) (ps : List Pl2) : Int := if ps.any (okP bad L b) then (ps.findIdx (okP bad L b) : Int) else -1
set_option maxHeartbeats 4000000 in
theorem other20_any (q : Cq) (A2 A3 : Option Addr) (n2 c2 n3 c3 : Nat) (L : List Pl2) (bad : List Int) (b : Int) (w : World) (hq : Lies w w.heap.size q.a (rowQ q.ps)) (hL : Lies w w.heap.size A2 (rowQ L)) (hb : Lies w w.heap.size A3 (nums .i64 bad)) (hn2 : n2 = L.length) (hn3 : n3 = bad.length) (h1 : q.ps.length ≤ 1000) (h2 : n2 ≤ 1000) (h3 : n3 ≤ 1000) :
    Calls Try.prog 46 #[.agg q.cells.toArray, .slice A2 n2 c2, .slice A3 n3 c3, .int .i64 b] w fun e w' => e = .returned (.int .i64 (othP bad L b q.ps)) ∧ Below w.heap.size w w' := by
  obtain ⟨z, hz⟩ : ∃ z : Int, z = othP bad L b q.ps := ⟨_, rfl⟩
  rw [← hz]
  have Hz := hide hz
  rcases q with ⟨lp, kd, A, c, l⟩
  dsimp only at *
  have FH := hide (fun (x : Int) W (h : Below w.heap.size w W) => hasQ_any A3 n3 c3 w.heap.size bad x W (hb.below h) hn3 (by omega))
  have FI := hide (fun (x : Int) W (h : Below w.heap.size w W) => in20_any A2 n2 c2 w.heap.size L x W (hL.below h) hn2 h2)
  have Hl := hide hq
  obtain ⟨n, hn⟩ : ∃ n, l.length = n := ⟨_, rfl⟩
  have Hn := hide hn
  have Hbig := hide h1
  have HX := hide (BoxV.new ⟨lp, kd, A, c, l⟩ w)
  have HB := hide ((Below.refl w.heap.size w).alloc (Nat.le_refl _) (.cells #[.int .i64 lp, .int .i64 kd, .slice A l.length c] 42))
  unfold Cq.cells
  dsimp only at *
  rw [hn] at HX HB Hbig ⊢
  have hx2 : (w.alloc (.cells #[.int .i64 lp, .int .i64 kd, .slice A n c] 42)).cell? ⟨w.heap.size, 2, none⟩ = some (.slice A n c) := by
    have := HX.out.c2
    dsimp only at this
    rwa [hn] at this
  have HC2 := hide hx2
  clear hz hq hL hb hn2 hn3 h1 h2 h3 hn hx2 HX
  go_enter Try.func46, Try.ntmps46
  go_wp2
  generalize w.alloc (.cells #[.int .i64 lp, .int .i64 kd, .slice A n c] 42) = w1 at *
  have x2 := HC2.out
  go_loop [9] (fun i => ∃ k : Nat, k ≤ n ∧ i = .int .i64 (k : Int) ∧ Hid (∀ j (hj : j < l.length), j < k → okP bad L b l[j] = false)) (fun i => n - (intOf i).toNat)
  case atStart => exact ⟨0, Nat.zero_le _, rfl, hide (fun j hj h => by omega)⟩
  case round =>
    obtain ⟨k, hk, rfl, HF⟩ := hrel
    by_cases hlt : k < n
    · have hlt' : (k : Int) < (n : Int) := by omega
      have hkl : k < l.length := by rw [Hn.out]; exact hlt
      have e7 : wrap64 ((k : Int) + 1) = ((k + 1 : Nat) : Int) := by have := Hbig.out; unfold wrap64; omega
      obtain ⟨a, rfl, _, hca⟩ := (Hl.out.below HB.out).elem (f := plc) (m := 2) plc_len hkl (by omega)
      have Hhit := hide (show okP bad L b l[k] = true → (k : Int) = z by
        intro ht
        have hany : l.any (okP bad L b) = true := List.any_eq_true.2 ⟨l[k], List.getElem_mem hkl, ht⟩
        have hidx : l.findIdx (okP bad L b) = k := by
          rw [List.findIdx_eq hkl]
          exact ⟨ht, fun j hj => HF.out j (by omega) hj⟩
        rw [Hz.out, othP, if_pos hany, hidx])
      have HF2 := hide (show okP bad L b l[k] = false → ∀ j (hj : j < l.length), j < k + 1 → okP bad L b l[j] = false by
        intro hf j hj h1
        by_cases h2 : j = k
        · subst h2; exact hf
        · exact HF.out j hj (by omega))
      generalize l[k] = f at *
      rcases f with ⟨x, y⟩
      have c0 : w1.cell? (a.add (k * 2)) = some (.int .i64 x) := hca 0 _ rfl
      rw [okP_parts] at Hhit HF2
      have F1 := hide (FH.out x w1 HB.out)
      have F2 := hide (FI.out x w1 HB.out)
      have Hlt := hide hlt
      clear hca HF hkl hlt hk
      by_cases h1 : x = b
      · have g1 : (x != b) = false := by simp [h1]
        have HN := hide (HF2.out (by simp [h1]))
        clear h1 HF2 Hhit
        go_wp2
        go_round
        case rel => exact ⟨k + 1, Hlt.out, congrArg (Value.int .i64) e7, HN⟩
        case measure => first | exact measT Hlt.out | exact measT2 e7 Hlt.out
      · have g1 : (x != b) = true := by simp [h1]
        obtain ⟨r, hr⟩ : ∃ r, decide (x ∈ bad) = r := ⟨_, rfl⟩
        rw [hr] at F1 Hhit HF2
        obtain ⟨s, hs⟩ : ∃ s, decide (x ∈ L.map Prod.fst) = s := ⟨_, rfl⟩
        rw [hs] at F2 Hhit HF2
        rw [decide_eq_true h1] at Hhit HF2
        clear hr hs h1
        cases r with
        | true =>
          have HN := hide (HF2.out rfl)
          clear HF2 Hhit
          go_wp2_with (go_at_call 21; (with_reducible refine F1.out.mono ?_); rintro e w1 ⟨rfl, rfl⟩)
          go_round
          case rel => exact ⟨k + 1, Hlt.out, congrArg (Value.int .i64) e7, HN⟩
          case measure => first | exact measT Hlt.out | exact measT2 e7 Hlt.out
        | false =>
          cases s with
          | true =>
            have hkz := Hhit.out rfl
            clear HF2 Hhit
            have Hkz := hide hkz
            clear hkz
            go_wp2_with (first
              | (go_at_call 21; (with_reducible refine F1.out.mono ?_); rintro e w1 ⟨rfl, rfl⟩)
              | (go_at_call 19; (with_reducible refine F2.out.mono ?_); rintro e w1 ⟨rfl, rfl⟩))
            go_ret
            exact ⟨by rw [← Hkz.out]; rfl, HB.out⟩
          | false =>
            have HN := hide (HF2.out rfl)
            clear HF2 Hhit
            go_wp2_with (first
              | (go_at_call 21; (with_reducible refine F1.out.mono ?_); rintro e w1 ⟨rfl, rfl⟩)
              | (go_at_call 19; (with_reducible refine F2.out.mono ?_); rintro e w1 ⟨rfl, rfl⟩))
            go_round
            case rel => exact ⟨k + 1, Hlt.out, congrArg (Value.int .i64) e7, HN⟩
            case measure => first | exact measT Hlt.out | exact measT2 e7 Hlt.out
    · have hlt' : ¬ (k : Int) < (n : Int) := by omega
      have hz1 : z = -1 := by
        have hany : l.any (okP bad L b) = false := by
          rw [List.any_eq_false]
          intro x hx
          obtain ⟨j, hj, rfl⟩ := List.getElem_of_mem hx
          rw [HF.out j hj (by have := Hn.out; omega)]; decide
        rw [Hz.out, othP, if_neg (by rw [hany]; decide)]
      subst hz1
      go_wp2
      go_ret
      exact ⟨rfl, HB.out⟩
end Go.Proofs.Ytofokljhlcdebaa
