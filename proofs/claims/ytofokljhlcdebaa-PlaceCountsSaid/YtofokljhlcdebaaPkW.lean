/-
  LAYER 20: awake.
-/
import Derived.Test.YtofokljhlcdebaaPkR
import Derived.Test.YtofokljhlcdebaaPkL
namespace Go.Proofs.Ytofokljhlcdebaa
open Go.RowKit Go.Sort
set_option maxRecDepth 8000

theorem new20 (w : World) (cs : Array Value) (t : TypeId) : Lies (w.alloc (.cells cs t)) (w.alloc (.cells cs t)).heap.size (some ⟨w.heap.size, 0, none⟩) cs.toList ∧ Below w.heap.size w (w.alloc (.cells cs t)) := ⟨Lies.new w cs t (0, 0) _ (by simp), (Below.refl _ _).alloc (Nat.le_refl _) _⟩
theorem Lies.go {w w' : World} {A : Option Addr} {xs : List Value} (h : Lies w w.heap.size A xs) (hb : Below w.heap.size w w') : Lies w' w'.heap.size A xs := (h.below hb).up hb.size
theorem awOk : ∀ q ∈ [((3 : Int), (0 : Int)), (3, 1), (3, 2)], Ok64 q.1 := by
  intro q hq
  simp only [List.mem_cons, List.not_mem_nil, or_false] at hq
  rcases hq with rfl | rfl | rfl <;> exact ⟨by decide, by decide⟩
theorem awOk2 : ∀ b ∈ [(2 : Int), 3, 4], Ok64 b := by
  intro q hq
  simp only [List.mem_cons, List.not_mem_nil, or_false] at hq
  rcases hq with rfl | rfl | rfl <;> exact ⟨by decide, by decide⟩
theorem awRun : runP [[((4 : Int), (0 : Int)), (3, 0)], [(4, 1), (3, 1)], [(3, 2)]] [] [3, 4] [(4, 0), (4, 1), (3, 2)] = [(3, 0), (3, 1), (3, 2)] := by decide
theorem awBl : IsBl [3, 4] [((4 : Int), (0 : Int)), (4, 1), (3, 2)] := ⟨by decide, fun x => by simp; omega⟩
theorem awBl2 : IsBl [3] [((3 : Int), (0 : Int)), (3, 1), (3, 2)] := ⟨by decide, fun x => by simp⟩
set_option maxHeartbeats 8000000 in
theorem awake20_any (w : World) :
    Calls Try.prog 14 #[] w fun e w' => e = .returned (.bool true) ∧ Below w.heap.size w w' := by
  go_enter Try.func14, Try.ntmps14
  go_wp2_with fail
  (refine (at20_any _ _ _).mono ?_); rintro e w1 ⟨rfl, b1⟩
  have B1 := hide b1
  clear b1
  go_wp2_with fail
  (refine (at20_any _ _ _).mono ?_); rintro e w2 ⟨rfl, b2⟩
  have B2 := hide (Below.trans B1.out (b2.mono B1.out.size))
  clear b2
  go_wp2_with fail
  obtain ⟨n3, b3⟩ := new20 w2 #[.int .i64 4, .int .i64 0, .int .i64 3, .int .i64 0] 30
  generalize w2.alloc (.cells #[.int .i64 4, .int .i64 0, .int .i64 3, .int .i64 0] 30) = w3 at *
  have B3 := hide (Below.trans B2.out (b3.mono B2.out.size))
  generalize hq3 : w2.heap.size = q3 at n3 ⊢
  have L1 := hide n3
  clear n3 b3 hq3
  (refine (at20_any _ _ _).mono ?_); rintro e w4 ⟨rfl, b4⟩
  have B4 := hide (Below.trans B3.out (b4.mono B3.out.size))
  replace L1 := hide (L1.out.go b4)
  clear b4
  go_wp2_with fail
  (refine (at20_any _ _ _).mono ?_); rintro e w5 ⟨rfl, b5⟩
  have B5 := hide (Below.trans B4.out (b5.mono B4.out.size))
  replace L1 := hide (L1.out.go b5)
  clear b5
  go_wp2_with fail
  obtain ⟨n6, b6⟩ := new20 w5 #[.int .i64 4, .int .i64 1, .int .i64 3, .int .i64 1] 30
  generalize w5.alloc (.cells #[.int .i64 4, .int .i64 1, .int .i64 3, .int .i64 1] 30) = w6 at *
  have B6 := hide (Below.trans B5.out (b6.mono B5.out.size))
  replace L1 := hide (L1.out.go b6)
  generalize hq6 : w5.heap.size = q6 at n6 ⊢
  have L2 := hide n6
  clear n6 b6 hq6
  (refine (at20_any _ _ _).mono ?_); rintro e w7 ⟨rfl, b7⟩
  have B7 := hide (Below.trans B6.out (b7.mono B6.out.size))
  replace L1 := hide (L1.out.go b7)
  replace L2 := hide (L2.out.go b7)
  clear b7
  go_wp2_with fail
  obtain ⟨n8, b8⟩ := new20 w7 #[.int .i64 3, .int .i64 2] 30
  have z8 : (w7.alloc (.cells #[.int .i64 3, .int .i64 2] 30)).heap.size = w7.heap.size + 1 := by simp
  generalize w7.alloc (.cells #[.int .i64 3, .int .i64 2] 30) = w8 at *
  have B8 := hide (Below.trans B7.out (b8.mono B7.out.size))
  replace L1 := hide (L1.out.go b8)
  replace L2 := hide (L2.out.go b8)
  generalize hq8 : w7.heap.size = q8 at n8 z8 ⊢
  have L3 := hide n8
  clear n8 b8 hq8
  obtain ⟨n9, b9⟩ := new20 w8 #[.int .i64 1, .int .i64 0, .slice (some ⟨q3, 0, none⟩) 2 2, .int .i64 2, .int .i64 0, .slice (some ⟨q6, 0, none⟩) 2 2, .int .i64 3, .int .i64 0, .slice (some ⟨q8, 0, none⟩) 1 1] 42
  rw [z8] at n9
  clear z8
  generalize w8.alloc (.cells #[.int .i64 1, .int .i64 0, .slice (some ⟨q3, 0, none⟩) 2 2, .int .i64 2, .int .i64 0, .slice (some ⟨q6, 0, none⟩) 2 2, .int .i64 3, .int .i64 0, .slice (some ⟨q8, 0, none⟩) 1 1] 42) = w9 at *
  have B9 := hide (Below.trans B8.out (b9.mono B8.out.size))
  replace L1 := hide (L1.out.go b9)
  replace L2 := hide (L2.out.go b9)
  replace L3 := hide (L3.out.go b9)
  have L0 := hide n9
  clear n9 b9
  have F := choose_any (some ⟨q8 + 1, 0, none⟩) none 3 3 0 0 [⟨1, 0, some ⟨q3, 0, none⟩, 2, [(4, 0), (3, 0)]⟩, ⟨2, 0, some ⟨q6, 0, none⟩, 2, [(4, 1), (3, 1)]⟩, ⟨3, 0, some ⟨q8, 0, none⟩, 1, [(3, 2)]⟩] [] w9 ⟨L0.out, fun q hq => by
    simp only [List.mem_cons, List.not_mem_nil, or_false] at hq
    rcases hq with rfl | rfl | rfl
    · exact L1.out
    · exact L2.out
    · exact L3.out⟩ (.inl rfl) rfl rfl (by decide) (by decide) (fun q hq => by
    simp only [List.mem_cons, List.not_mem_nil, or_false] at hq
    rcases hq with rfl | rfl | rfl
    · exact ⟨(show (2 : Nat) ≤ 1000 by decide), fun p hp => by simp only [List.mem_cons, List.not_mem_nil, or_false] at hp; rcases hp with rfl | rfl <;> exact ⟨by decide, by decide⟩⟩
    · exact ⟨(show (2 : Nat) ≤ 1000 by decide), fun p hp => by simp only [List.mem_cons, List.not_mem_nil, or_false] at hp; rcases hp with rfl | rfl <;> exact ⟨by decide, by decide⟩⟩
    · exact ⟨(show (1 : Nat) ≤ 1000 by decide), fun p hp => by simp only [List.mem_cons, List.not_mem_nil, or_false] at hp; rcases hp with rfl; exact ⟨by decide, by decide⟩⟩)
  rw [show ([⟨1, 0, some ⟨q3, 0, none⟩, 2, [(4, 0), (3, 0)]⟩, ⟨2, 0, some ⟨q6, 0, none⟩, 2, [(4, 1), (3, 1)]⟩, ⟨3, 0, some ⟨q8, 0, none⟩, 1, [(3, 2)]⟩] : List Cq).filter hasPl = [⟨1, 0, some ⟨q3, 0, none⟩, 2, [(4, 0), (3, 0)]⟩, ⟨2, 0, some ⟨q6, 0, none⟩, 2, [(4, 1), (3, 1)]⟩, ⟨3, 0, some ⟨q8, 0, none⟩, 1, [(3, 2)]⟩] from rfl] at F
  dsimp only [List.length_cons, List.length_nil, Nat.reduceAdd] at F
  have F2 := hide F
  clear F
  go_wp2_with fail
  (refine F2.out.mono ?_); rintro e w10 ⟨A3, c3, Bl, rfl, hbl, hl, b10⟩
  have hBl : Bl = [3, 4] := hbl.same awBl
  subst hBl
  have L := hide (show Lies w10 w10.heap.size A3 (rowQ [((3 : Int), (0 : Int)), (3, 1), (3, 2)]) from by rw [← awRun]; exact hl)
  clear hl hbl F2 L0 L1 L2 L3
  have B10 := hide (Below.trans B9.out (b10.mono B9.out.size))
  clear b10
  go_wp2_with fail
  (refine (at20_any _ _ _).mono ?_); rintro e w11 ⟨rfl, b11⟩
  have B11 := hide (Below.trans B10.out (b11.mono B10.out.size))
  replace L := hide (L.out.go b11)
  clear b11
  go_wp2_with fail
  (refine (at20_any _ _ _).mono ?_); rintro e w12 ⟨rfl, b12⟩
  have B12 := hide (Below.trans B11.out (b12.mono B11.out.size))
  replace L := hide (L.out.go b12)
  clear b12
  go_wp2_with fail
  (refine (at20_any _ _ _).mono ?_); rintro e w13 ⟨rfl, b13⟩
  have B13 := hide (Below.trans B12.out (b13.mono B12.out.size))
  replace L := hide (L.out.go b13)
  clear b13
  go_wp2_with fail
  obtain ⟨n14, b14⟩ := new20 w13 #[.int .i64 3, .int .i64 0, .int .i64 3, .int .i64 1, .int .i64 3, .int .i64 2] 30
  generalize w13.alloc (.cells #[.int .i64 3, .int .i64 0, .int .i64 3, .int .i64 1, .int .i64 3, .int .i64 2] 30) = w14 at *
  have B14 := hide (Below.trans B13.out (b14.mono B13.out.size))
  replace L := hide (L.out.go b14)
  generalize hq14 : w13.heap.size = q14 at n14 ⊢
  have M := hide n14
  clear n14 b14 hq14
  (refine (places20_same A3 (some ⟨q14, 0, none⟩) 3 c3 3 _ [((3 : Int), (0 : Int)), (3, 1), (3, 2)] w14 L.out M.out rfl (by decide) (Nat.le_refl _)).mono ?_); rintro e w15 ⟨rfl, b15⟩
  have B15 := hide (Below.trans B14.out (b15.mono B14.out.size))
  replace L := hide (L.out.go b15)
  replace M := hide (M.out.go b15)
  clear b15
  go_wp2_with fail
  (refine (used_any A3 3 c3 _ [((3 : Int), (0 : Int)), (3, 1), (3, 2)] w15 L.out (Nat.le_refl _) rfl (by decide) awOk).mono ?_); rintro e w16 ⟨A4, c4, Bl, rfl, _, hbl, _, hlb, b16⟩
  have hBl : Bl = [3] := hbl.same awBl2
  subst hBl
  have B16 := hide (Below.trans B15.out (b16.mono B15.out.size))
  replace L := hide (L.out.go b16)
  replace M := hide (M.out.go b16)
  have U := hide hlb.lies
  clear hbl hlb b16
  go_wp2_with fail
  obtain ⟨n17, b17⟩ := new20 w16 #[.int .i64 3] 3
  generalize w16.alloc (.cells #[.int .i64 3] 3) = w17 at *
  have B17 := hide (Below.trans B16.out (b17.mono B16.out.size))
  replace L := hide (L.out.go b17)
  replace M := hide (M.out.go b17)
  replace U := hide (U.out.go b17)
  generalize hq17 : w16.heap.size = q17 at n17 ⊢
  have U2 := hide n17
  clear n17 b17 hq17
  (refine (intsQ_any A4 (some ⟨q17, 0, none⟩) 1 c4 1 1 _ [3] [3] w17 U.out rfl U2.out rfl (by decide) (Nat.le_refl _)).mono ?_); rintro e w18 ⟨rfl, b18⟩
  have B18 := hide (Below.trans B17.out (b18.mono B17.out.size))
  replace L := hide (L.out.go b18)
  replace M := hide (M.out.go b18)
  replace U := hide (U.out.go b18)
  replace U2 := hide (U2.out.go b18)
  clear b18 U U2
  go_wp2_with fail
  (refine (count_any A3 3 c3 _ [((3 : Int), (0 : Int)), (3, 1), (3, 2)] 3 w18 L.out (Nat.le_refl _) rfl (by decide)).mono ?_); rintro e w19 ⟨rfl, b19⟩
  have B19 := hide (Below.trans B18.out (b19.mono B18.out.size))
  replace L := hide (L.out.go b19)
  replace M := hide (M.out.go b19)
  clear b19
  rw [show cntB 3 [((3 : Int), (0 : Int)), (3, 1), (3, 2)] = 3 from rfl]
  go_wp2_with fail
  obtain ⟨n20, b20⟩ := new20 w19 #[.int .i64 2, .int .i64 3, .int .i64 4] 3
  have z20 : (w19.alloc (.cells #[.int .i64 2, .int .i64 3, .int .i64 4] 3)).heap.size = w19.heap.size + 1 := by simp
  generalize w19.alloc (.cells #[.int .i64 2, .int .i64 3, .int .i64 4] 3) = w20 at *
  have B20 := hide (Below.trans B19.out (b20.mono B19.out.size))
  replace L := hide (L.out.go b20)
  replace M := hide (M.out.go b20)
  generalize hq20 : w19.heap.size = q20 at n20 z20 ⊢
  have X1 := hide n20
  clear n20 b20 hq20
  obtain ⟨n21, b21⟩ := new20 w20 #[.int .i64 2] 3
  rw [z20] at n21
  clear z20
  generalize w20.alloc (.cells #[.int .i64 2] 3) = w21 at *
  have B21 := hide (Below.trans B20.out (b21.mono B20.out.size))
  replace L := hide (L.out.go b21)
  replace M := hide (M.out.go b21)
  replace X1 := hide (X1.out.go b21)
  have X2 := hide n21
  clear n21 b21
  (refine (free20_any (some ⟨q20, 0, none⟩) (some ⟨q20 + 1, 0, none⟩) A3 3 3 1 1 3 c3 [2, 3, 4] [2] [((3 : Int), (0 : Int)), (3, 1), (3, 2)] w21 X1.out X2.out L.out rfl rfl rfl (by decide) (by decide) (by decide) awOk awOk2).mono ?_); rintro e w22 ⟨A5, c5, rfl, hf, b22⟩
  have B22 := hide (Below.trans B21.out (b22.mono B21.out.size))
  replace L := hide (L.out.go b22)
  replace M := hide (M.out.go b22)
  replace X1 := hide (X1.out.go b22)
  replace X2 := hide (X2.out.go b22)
  have X := hide hf
  rw [show [(2 : Int), 3, 4].filter (freeQ [2] [((3 : Int), (0 : Int)), (3, 1), (3, 2)]) = [4] from by decide] at X ⊢
  clear hf b22 X1 X2
  go_wp2_with fail
  obtain ⟨n23, b23⟩ := new20 w22 #[.int .i64 4] 3
  generalize w22.alloc (.cells #[.int .i64 4] 3) = w23 at *
  have B23 := hide (Below.trans B22.out (b23.mono B22.out.size))
  replace L := hide (L.out.go b23)
  replace M := hide (M.out.go b23)
  replace X := hide (X.out.go b23)
  generalize hq23 : w22.heap.size = q23 at n23 ⊢
  have X3 := hide n23
  clear n23 b23 hq23
  (refine (intsQ_any A5 (some ⟨q23, 0, none⟩) 1 c5 1 1 _ [4] [4] w23 X.out rfl X3.out rfl (by decide) (Nat.le_refl _)).mono ?_); rintro e w24 ⟨rfl, b24⟩
  have B24 := hide (Below.trans B23.out (b24.mono B23.out.size))
  replace L := hide (L.out.go b24)
  replace M := hide (M.out.go b24)
  replace X := hide (X.out.go b24)
  replace X3 := hide (X3.out.go b24)
  clear b24 X X3
  go_wp2_with fail
  obtain ⟨n25, b25⟩ := new20 w24 #[.int .i64 3] 3
  generalize w24.alloc (.cells #[.int .i64 3] 3) = w25 at *
  have B25 := hide (Below.trans B24.out (b25.mono B24.out.size))
  replace L := hide (L.out.go b25)
  replace M := hide (M.out.go b25)
  generalize hq25 : w24.heap.size = q25 at n25 ⊢
  have Y := hide n25
  clear n25 b25 hq25
  (refine (stuck_any A3 (some ⟨q25, 0, none⟩) 3 c3 1 1 [((3 : Int), (0 : Int)), (3, 1), (3, 2)] [3] w25 L.out Y.out rfl rfl (by decide) (by decide)).mono ?_); rintro e w26 ⟨A6, c6, rfl, _, b26⟩
  have B26 := hide (Below.trans B25.out (b26.mono B25.out.size))
  replace L := hide (L.out.go b26)
  replace M := hide (M.out.go b26)
  replace Y := hide (Y.out.go b26)
  clear b26 L Y
  rw [show [((3 : Int), (0 : Int)), (3, 1), (3, 2)].filter (stuckQ [3]) = [(3, 0), (3, 1), (3, 2)] from by decide]
  go_wp2
  go_ret
  exact ⟨rfl, B26.out⟩
end Go.Proofs.Ytofokljhlcdebaa
