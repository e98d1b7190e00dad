/-
  CONTRACT of the reference's Class. (Cut out of PgY.)
-/
import Derived.Test.YtfpooljpbncogaaGreatPgH
namespace Go.Proofs.YtfpooljpbncogaaGreat
open Go.RowKit

set_option maxRecDepth 4000 in
set_option maxHeartbeats 2000000 in
theorem class15_any (b : List UInt8) (w : World) (hsm : b.length ≤ 1000000) : Calls Tryz.prog 14 #[.string (str b)] w fun e w' => e = .returned (.int .i64 (classN b : Nat)) ∧ Below w.heap.size w w' := by
  have FO : Hid (Calls Tryz.prog 33 #[.int .i64 256] w fun e w' => ∃ A' c', e = .returned (.slice A' 256 c') ∧ w'.ownsRow w.heap.size 5 1 (.slice A' 256 c') 256 (bys (List.replicate 256 255)) ∧ Below w.heap.size w w') := hide (ones2_any 256 w (by omega))
  obtain ⟨r, hrep⟩ : ∃ r : List UInt8, Hid (r = List.replicate 256 255) := ⟨_, hide rfl⟩
  have hrl : Hid (r.length = 256) := hide (by rw [hrep.out, List.length_replicate])
  rw [← hrep.out] at FO
  have hbq := str_beqH b r
  have Fg := hide (fun W => get15_any b W hsm)
  by_cases h0 : b = r
  · have hr : classN b = 0 := by unfold classN; rw [if_pos (h0.trans hrep.out)]
    rw [decide_eq_true h0] at hbq
    rw [hr]
    clear h0 hr hsm Fg hrep
    go_enter Tryz.func14, Tryz.ntmps14
    go_wp2_with fail
    (with_reducible refine FO.out.mono ?_)
    rintro e w2 ⟨A2, c2, rfl, ho, hb⟩
    have hs := strU8 c2 (Lies.of_own ho) hrl.out.symm
    have HB := hide hb
    clear ho hb FO
    go_wp2
    go_ret
    exact ⟨rfl, HB.out⟩
  · rw [decide_eq_false h0] at hbq
    have hr : classN b = if rightB b = true then 1 else 2 := by unfold classN; rw [if_neg (by rw [← hrep.out]; exact h0)]
    rw [hr]
    generalize (get15 b).1 = h at *
    generalize (get15 b).2 = d at *
    rcases h with ⟨kd, ix, ct, bt, op, lp, ln⟩
    clear h0 hr hsm hrep
    unfold Hd.val at Fg
    dsimp only at Fg
    cases hrb : rightB b with
    | true =>
      rw [hrb] at Fg
      go_enter Tryz.func14, Tryz.ntmps14
      go_wp2_with fail
      (with_reducible refine FO.out.mono ?_)
      rintro e w2 ⟨A2, c2, rfl, ho, hb⟩
      have hs := strU8 c2 (Lies.of_own ho) hrl.out.symm
      have HB := hide hb
      clear ho hb FO hrb
      go_wp2_with fail
      (with_reducible refine (Fg.out _).mono ?_)
      rintro e w3 ⟨rfl, hb⟩
      have hb3 := HB.out.trans (hb.mono HB.out.size)
      have HB3 := hide (hb3.alloc hb3.size (.cells #[.int .i64 kd, .int .i64 ix, .int .i64 ct, .int .u64 (bt : Int), .int .u64 (op : Int), .int .i64 lp, .int .i64 ln] 52))
      clear hb hb3 hs Fg HB
      go_wp2
      go_ret
      exact ⟨rfl, HB3.out⟩
    | false =>
      rw [hrb] at Fg
      go_enter Tryz.func14, Tryz.ntmps14
      go_wp2_with fail
      (with_reducible refine FO.out.mono ?_)
      rintro e w2 ⟨A2, c2, rfl, ho, hb⟩
      have hs := strU8 c2 (Lies.of_own ho) hrl.out.symm
      have HB := hide hb
      clear ho hb FO hrb
      go_wp2_with fail
      (with_reducible refine (Fg.out _).mono ?_)
      rintro e w3 ⟨rfl, hb⟩
      have hb3 := HB.out.trans (hb.mono HB.out.size)
      have HB3 := hide (hb3.alloc hb3.size (.cells #[.int .i64 kd, .int .i64 ix, .int .i64 ct, .int .u64 (bt : Int), .int .u64 (op : Int), .int .i64 lp, .int .i64 ln] 52))
      clear hb hb3 hs Fg HB
      go_wp2
      go_ret
      exact ⟨rfl, HB3.out⟩


end Go.Proofs.YtfpooljpbncogaaGreat
