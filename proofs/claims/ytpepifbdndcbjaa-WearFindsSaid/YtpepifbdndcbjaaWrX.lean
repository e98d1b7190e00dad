/-
  LAYER 21: WearFinds.
-/
import Derived.Test.YtpepifbdndcbjaaWrW
import Derived.Lib.QuietBelow
namespace Go.Proofs.Ytpepifbdndcbjaa
open Go.RowKit Go.Sort
set_option maxRecDepth 8000

theorem fourBox21 {v0 v1 v2 v3 : Value} (w : World) (wb : World) (e : w.alloc (.cells #[v0, v1, v2, v3] 24) = wb) : (wb.cell? ⟨w.heap.size, 0, none⟩ = some v0 ∧ wb.cell? ⟨w.heap.size, 1, none⟩ = some v1 ∧ wb.cell? ⟨w.heap.size, 2, none⟩ = some v2 ∧ wb.cell? ⟨w.heap.size, 3, none⟩ = some v3) ∧ Below w.heap.size w wb := by
  have h : wb.heap[w.heap.size]? = some (.cells #[v0, v1, v2, v3] 24) := by rw [← e]; exact heap_alloc_new w _
  have hb : Below w.heap.size w wb := by rw [← e]; exact (Below.refl _ _).alloc (Nat.le_refl _) _
  refine ⟨⟨?_, ?_, ?_, ?_⟩, hb⟩ <;> simp [World.cell?, h]
theorem light21 (A A2 : Option Addr) (n c n2 c2 : Nat) (w : World) :
    Calls Try.prog 5 #[.slice A n c, .slice A2 n2 c2] w fun e w' => e = .returned (.bool (decide (n ≤ 60 ∧ n2 ≤ 100))) ∧ w = w' := by
  by_cases h1 : n ≤ 60
  · have g1 : decide ((n : Int) ≤ 60) = true := decide_eq_true (by omega)
    by_cases h2 : n2 ≤ 100
    · have g2 : decide ((n2 : Int) ≤ 100) = true := decide_eq_true (by omega)
      rw [decide_eq_true ⟨h1, h2⟩]
      clear h1 h2
      go_enter Try.func5, Try.ntmps5
      go_wp2
      go_ret
      exact ⟨rfl, rfl⟩
    · have g2 : decide ((n2 : Int) ≤ 100) = false := decide_eq_false (by omega)
      rw [decide_eq_false (fun h => h2 h.2)]
      clear h1 h2
      go_enter Try.func5, Try.ntmps5
      go_wp2
      go_ret
      exact ⟨rfl, rfl⟩
  · have g1 : decide ((n : Int) ≤ 60) = false := decide_eq_false (by omega)
    rw [decide_eq_false (fun h => h1 h.1)]
    clear h1
    go_enter Try.func5, Try.ntmps5
    go_wp2
    go_ret
    exact ⟨rfl, rfl⟩
set_option maxHeartbeats 4000000 in
theorem wearFinds_off (A A2 : Option Addr) (n c n2 c2 : Nat) (b gap : Int) (w : World) (h : ¬ (n ≤ 60 ∧ n2 ≤ 100)) :
    Calls Try.prog 3 #[.agg #[.slice A n c, .slice A2 n2 c2, .int .i64 b, .int .i64 gap]] w fun e w' => e = .returned (.bool true) ∧ Below w.heap.size w w' := by
  have FA := hide awake21_any
  have F0 := hide (fun W => light21 A A2 n c n2 c2 W)
  rw [decide_eq_false h] at F0
  have HX := hide (fourBox21 (v0 := .slice A n c) (v1 := .slice A2 n2 c2) (v2 := .int .i64 b) (v3 := .int .i64 gap) w _ rfl)
  clear h
  go_enter Try.func3, Try.ntmps3
  go_upto_region 1 with fail
  generalize w.alloc (.cells #[.slice A n c, .slice A2 n2 c2, .int .i64 b, .int .i64 gap] 24) = wb at *
  obtain ⟨⟨x0, x1, x2, x3⟩, _⟩ := HX.out
  go_quiet (fail)
  have WZ := hide (show Below w.heap.size w (wb.drewN nq) from HX.out.2.trans ⟨rfl, rfl, rfl, Nat.le_refl _, fun _ _ => rfl⟩)
  clear x0 x1 x2 x3 HX
  generalize wb.drewN nq = wz at *
  go_wp2_with fail
  (with_reducible refine (F0.out _).mono ?_); rintro e w2 ⟨rfl, rfl⟩
  go_wp2_with fail
  (with_reducible refine (FA.out _).mono ?_); rintro e w2 ⟨rfl, hb⟩
  have W2 := hide (WZ.out.trans (hb.mono WZ.out.size))
  clear hb WZ FA F0
  go_wp2
  go_ret
  exact ⟨rfl, W2.out⟩
set_option maxHeartbeats 8000000 in
theorem wearFinds_nil (A A2 : Option Addr) (c n2 c2 : Nat) (b gap : Int) (cs : List Int) (w : World) (hc : Lies w w.heap.size A2 (nums .i64 cs)) (hn2 : n2 = cs.length) (h2 : n2 ≤ 100) (hT : Top cs) :
    Calls Try.prog 3 #[.agg #[.slice A 0 c, .slice A2 n2 c2, .int .i64 b, .int .i64 gap]] w fun e w' => e = .returned (.bool true) ∧ Below w.heap.size w w' := by
  have FA := hide awake21_any
  have F0 := hide (fun W => light21 A A2 0 c n2 c2 W)
  rw [decide_eq_true (⟨Nat.zero_le _, h2⟩ : (0 : Nat) ≤ 60 ∧ n2 ≤ 100)] at F0
  have h2' : n2 ≤ 1000000 := Nat.le_trans h2 (by decide)
  have hl : ∀ W : World, Lies W W.heap.size A (nums .i64 []) := fun W => .inl rfl
  have F1 := hide (fun W (h : Below w.heap.size w W) => least21 A A2 0 c n2 c2 [] cs W (hl W) (hc.go21 h) rfl hn2 (by decide) h2')
  have F2 := hide (fun W (h : Below w.heap.size w W) => most21 A A2 0 c n2 c2 [] cs W (hl W) (hc.go21 h) rfl hn2 (by decide) h2')
  have F3 := hide (fun W (h : Below w.heap.size w W) => leastR21 A A2 0 c n2 c2 [] cs W (hl W) (hc.go21 h) rfl hn2 (by decide) h2')
  have F4 := hide (fun W (h : Below w.heap.size w W) => mostR21 A A2 0 c n2 c2 [] cs W (hl W) (hc.go21 h) rfl hn2 (by decide) h2')
  have F5 := hide (fun W (h : Below w.heap.size w W) => of21 A2 n2 c2 W.heap.size cs b W (hc.go21 h) hn2 h2')
  have F6 := hide (fun W (h : Below w.heap.size w W) => ofR21 A2 n2 c2 W.heap.size cs b W (hc.go21 h) hn2 h2')
  have F7 := hide (fun W (h : Below w.heap.size w W) => gap21 A A2 0 c n2 c2 [] cs W (hl W) (hc.go21 h) rfl hn2 (by decide) h2' hT)
  have F8 := hide (fun W (h : Below w.heap.size w W) => may21 A A2 0 c n2 c2 [] cs W b gap (hl W) (hc.go21 h) rfl hn2 (by decide) h2' hT)
  rw [show bstZ (ahL cs) [] = 0 from rfl, show decide (0 < 0) = false from rfl] at F1
  rw [show bstZ (ahM cs) [] = 0 from rfl, show decide (0 < 0) = false from rfl] at F2
  rw [show idxZ (ahL cs) [] 0 = -1 from rfl] at F3
  rw [show idxZ (ahM cs) [] 0 = -1 from rfl] at F4
  rw [show gapZ cs [] = 0 by unfold gapZ; rw [show bstZ (ahM cs) [] = 0 from rfl, show bstZ (ahL cs) [] = 0 from rfl]; omega] at F7
  rw [show mayZ cs [] b gap = false from rfl] at F8
  generalize ofZ cs b = u at *
  have HX := hide (fourBox21 (v0 := .slice A 0 c) (v1 := .slice A2 n2 c2) (v2 := .int .i64 b) (v3 := .int .i64 gap) w _ rfl)
  clear hc hn2 h2 hT h2' hl
  go_enter Try.func3, Try.ntmps3
  go_upto_region 1 with fail
  generalize w.alloc (.cells #[.slice A 0 c, .slice A2 n2 c2, .int .i64 b, .int .i64 gap] 24) = wb at *
  obtain ⟨⟨x0, x1, x2, x3⟩, _⟩ := HX.out
  go_quiet (fail)
  have W1 := hide (show Below w.heap.size w (wb.drewN nq) from HX.out.2.trans ⟨rfl, rfl, rfl, Nat.le_refl _, fun _ _ => rfl⟩)
  clear x0 x1 x2 x3 HX
  generalize wb.drewN nq = wz at *
  go_wp2_with fail
  (with_reducible refine (F0.out _).mono ?_); rintro e w2 ⟨rfl, rfl⟩
  go_wp2_with fail
  (with_reducible refine (F1.out _ W1.out).mono ?_); rintro e w2 ⟨rfl, hb⟩
  have W2 := hide (W1.out.trans (hb.mono W1.out.size))
  clear hb W1 F0 F1
  go_wp2_with fail
  (with_reducible refine (F2.out _ W2.out).mono ?_); rintro e w3 ⟨rfl, hb⟩
  have W3 := hide (W2.out.trans (hb.mono W2.out.size))
  clear hb W2 F2
  go_wp2_with fail
  (with_reducible refine (F3.out _ W3.out).mono ?_); rintro e w4 ⟨rfl, hb⟩
  have W4 := hide (W3.out.trans (hb.mono W3.out.size))
  clear hb W3 F3
  go_wp2_with fail
  (with_reducible refine (F4.out _ W4.out).mono ?_); rintro e w5 ⟨rfl, hb⟩
  have W5 := hide (W4.out.trans (hb.mono W4.out.size))
  clear hb W4 F4
  go_wp2_with fail
  (with_reducible refine (F5.out _ W5.out).mono ?_); rintro e w6 ⟨rfl, rfl⟩
  go_wp2_with fail
  (with_reducible refine (F6.out _ W5.out).mono ?_); rintro e w6 ⟨rfl, rfl⟩
  clear F5 F6
  go_wp2_with fail
  (with_reducible refine (FA.out _).mono ?_); rintro e w6 ⟨rfl, hb⟩
  have W6 := hide (W5.out.trans (hb.mono W5.out.size))
  clear hb W5 FA
  go_wp2_with fail
  (with_reducible refine (F7.out _ W6.out).mono ?_); rintro e w7 ⟨rfl, hb⟩
  have W7 := hide (W6.out.trans (hb.mono W6.out.size))
  clear hb W6 F7
  go_wp2_with fail
  (with_reducible refine (F8.out _ W7.out).mono ?_); rintro e w8 ⟨rfl, hb⟩
  have W8 := hide (W7.out.trans (hb.mono W7.out.size))
  clear hb W7 F8
  go_wp2
  go_ret
  exact ⟨rfl, W8.out⟩
theorem of_below21 {f : Nat} {args : Array Value} {W : World} {v : Value} (h : Calls Try.prog f args W fun e w' => e = .returned v ∧ W = w') : Calls Try.prog f args W fun e w' => e = .returned v ∧ Below W.heap.size W w' := h.mono fun e w' ⟨h1, h2⟩ => ⟨h1, by rw [← h2]; exact Below.refl _ _⟩
set_option maxHeartbeats 16000000 in
theorem wearFinds_on (A A2 : Option Addr) (n c n2 c2 : Nat) (b gap : Int) (l cs : List Int) (w : World) (hl : Lies w w.heap.size A (nums .i64 l)) (hc : Lies w w.heap.size A2 (nums .i64 cs)) (hn : n = l.length) (hn2 : n2 = cs.length) (h0 : 0 < n) (h1 : n ≤ 60) (h2 : n2 ≤ 100) (hT : Top cs) :
    Calls Try.prog 3 #[.agg #[.slice A n c, .slice A2 n2 c2, .int .i64 b, .int .i64 gap]] w fun e w' => e = .returned (.bool true) ∧ Below w.heap.size w w' := by
  have FA := hide awake21_any
  have F0 := hide (fun W => light21 A A2 n c n2 c2 W)
  rw [decide_eq_true (⟨h1, h2⟩ : n ≤ 60 ∧ n2 ≤ 100)] at F0
  have h1' : n ≤ 1000000 := Nat.le_trans h1 (by decide)
  have h2' : n2 ≤ 1000000 := Nat.le_trans h2 (by decide)
  have F1 := hide (fun W (h : Below w.heap.size w W) => least21 A A2 n c n2 c2 l cs W (hl.go21 h) (hc.go21 h) hn hn2 h1' h2')
  have F2 := hide (fun W (h : Below w.heap.size w W) => most21 A A2 n c n2 c2 l cs W (hl.go21 h) (hc.go21 h) hn hn2 h1' h2')
  have F3 := hide (fun W (h : Below w.heap.size w W) => leastR21 A A2 n c n2 c2 l cs W (hl.go21 h) (hc.go21 h) hn hn2 h1' h2')
  have F4 := hide (fun W (h : Below w.heap.size w W) => mostR21 A A2 n c n2 c2 l cs W (hl.go21 h) (hc.go21 h) hn hn2 h1' h2')
  have F5 := hide (fun W (h : Below w.heap.size w W) => of21 A2 n2 c2 W.heap.size cs b W (hc.go21 h) hn2 h2')
  have F6 := hide (fun W z (h : Below w.heap.size w W) => ofR21 A2 n2 c2 W.heap.size cs z W (hc.go21 h) hn2 h2')
  have F7 := hide (fun W (h : Below w.heap.size w W) => gap21 A A2 n c n2 c2 l cs W (hl.go21 h) (hc.go21 h) hn hn2 h1' h2' hT)
  have F8 := hide (fun W (h : Below w.heap.size w W) => may21 A A2 n c n2 c2 l cs W b gap (hl.go21 h) (hc.go21 h) hn hn2 h1' h2' hT)
  have F9 := hide (fun W (h : Below w.heap.size w W) => has21 A n c W.heap.size l b W (hl.go21 h) hn h1')
  have F10 := hide (fun W => high_any gap 1 W)
  have Hw := hide (wr21 hT)
  have HL := hide hl
  have Hn := hide hn
  have HGZ : Hid (ofZ cs (bstZ (ahM cs) l) - ofZ cs (bstZ (ahL cs) l) = gapZ cs l) := hide rfl
  have HM : Hid ((decide (b ∈ l) && decide (ofZ cs b - ofZ cs (bstZ (ahL cs) l) < max gap 1)) = mayZ cs l b gap) := hide rfl
  obtain ⟨k1, k2, k3⟩ := idxZ_lt (p := ahL cs) (l := l) n (by rw [idxZ_neg]; omega)
  obtain ⟨m1, m2, m3⟩ := idxZ_lt (p := ahM cs) (l := l) n (by rw [idxZ_neg]; omega)
  rw [show pickZ (ahL cs) l (n - 1) = bstZ (ahL cs) l by unfold bstZ; rw [hn]] at k3
  rw [show pickZ (ahM cs) l (n - 1) = bstZ (ahM cs) l by unfold bstZ; rw [hn]] at m3
  rw [decide_eq_true h0] at F1 F2
  generalize idxZ (ahL cs) l n = ki at *
  generalize idxZ (ahM cs) l n = mi at *
  obtain ⟨k, rfl⟩ : ∃ k : Nat, ki = (k : Int) := ⟨ki.toNat, by omega⟩
  obtain ⟨m, rfl⟩ : ∃ m : Nat, mi = (m : Int) := ⟨mi.toNat, by omega⟩
  rw [Int.toNat_natCast] at k2 k3 m2 m3
  obtain ⟨a, rfl, hab, ck⟩ := hl.num (i := k) (by omega)
  have Hab := hide hab
  clear hab
  obtain ⟨a2, ha2, _, cm⟩ := hl.num (i := m) (by omega)
  obtain rfl : a = a2 := by injection ha2
  rw [k3] at ck
  rw [m3] at cm
  have hx0 := Hw.out b (bstZ (ahL cs) l)
  have hx1 := Hw.out (bstZ (ahM cs) l) (bstZ (ahL cs) l)
  have F61 := hide (fun W h => F6.out W b h)
  have F62 := hide (fun W h => F6.out W (bstZ (ahL cs) l) h)
  have F63 := hide (fun W h => F6.out W (bstZ (ahM cs) l) h)
  generalize bstZ (ahL cs) l = x at *
  generalize bstZ (ahM cs) l = y at *
  generalize ofZ cs b = u at *
  generalize ofZ cs x = v at *
  generalize ofZ cs y = z at *
  generalize gapZ cs l = gz at *
  generalize max gap 1 = G at *
  generalize mayZ cs l b gap = M at *
  have HX0 := hide hx0
  have HX1 := hide (hx1.trans HGZ.out)
  have CK := hide ck
  have CM := hide cm
  have gk : decide ((k : Int) < 0) = false := decide_eq_false (by omega)
  have hk0 : (0 : Int) ≤ (k : Int) := by omega
  have hm0 : (0 : Int) ≤ (m : Int) := by omega
  have hkn : (k : Int) < (n : Int) := by omega
  have hmn : (m : Int) < (n : Int) := by omega
  have HX := hide (fourBox21 (v0 := .slice (some a) n c) (v1 := .slice A2 n2 c2) (v2 := .int .i64 b) (v3 := .int .i64 gap) w _ rfl)
  clear hl hc hn hn2 h0 h1 h2 hT h1' h2' F6 Hw k1 k2 k3 m1 m2 m3 ha2 hx0 hx1 ck cm HGZ Hn
  go_enter Try.func3, Try.ntmps3
  go_upto_region 1 with fail
  generalize w.alloc (.cells #[.slice (some a) n c, .slice A2 n2 c2, .int .i64 b, .int .i64 gap] 24) = wb at *
  obtain ⟨⟨x0, x1, x2, x3⟩, _⟩ := HX.out
  go_quiet (fail)
  have W1 := hide (show Below w.heap.size w (wb.drewN nq) from HX.out.2.trans ⟨rfl, rfl, rfl, Nat.le_refl _, fun _ _ => rfl⟩)
  clear x0 x1 x2 x3 HX
  generalize wb.drewN nq = wz at *
  go_wp2_with fail
  (with_reducible refine (F0.out _).mono ?_); rintro e w2 ⟨rfl, rfl⟩
  go_wp2_with fail
  (with_reducible refine (F1.out _ W1.out).mono ?_); rintro e w2 ⟨rfl, hb⟩
  have W2 := hide (W1.out.trans (hb.mono W1.out.size))
  clear hb W1 F0 F1
  go_wp2_with fail
  (with_reducible refine (F2.out _ W2.out).mono ?_); rintro e w3 ⟨rfl, hb⟩
  have W3 := hide (W2.out.trans (hb.mono W2.out.size))
  clear hb W2 F2
  go_wp2_with fail
  (with_reducible refine (F3.out _ W3.out).mono ?_); rintro e w4 ⟨rfl, hb⟩
  have W4 := hide (W3.out.trans (hb.mono W3.out.size))
  clear hb W3 F3
  go_wp2_with fail
  (with_reducible refine (F4.out _ W4.out).mono ?_); rintro e w5 ⟨rfl, hb⟩
  have W5 := hide (W4.out.trans (hb.mono W4.out.size))
  clear hb W4 F4
  go_wp2_with fail
  (with_reducible refine (F5.out _ W5.out).mono ?_); rintro e w6 ⟨rfl, rfl⟩
  go_wp2_with fail
  (with_reducible refine (F61.out _ W5.out).mono ?_); rintro e w6 ⟨rfl, rfl⟩
  clear F5
  go_upto_region 11 with fail
  go_cut [13] from 85 to 102 (fun s wx => s = .bool M ∧ Hid (Below w.heap.size w wx))
  case first =>
    have ck : w5.cell? (a.add k) = some (.int .i64 x) := (W5.out.cell (by rw [Addr.add_block21]; exact Hab.out)).trans CK.out
    have G1 := fun q => of_back (F9.out (w5.drewN q) (bel_drewN W5.out q))
    have G2 := fun q => of_back (F61.out (w5.drewN q) (bel_drewN W5.out q))
    have G3 := fun q => of_back (F62.out (w5.drewN q) (bel_drewN W5.out q))
    have G4 := fun q => of_back (F10.out (w5.drewN q))
    clear CK CM F61 F62 F63 F7 F8 F9 F10 FA HL HX1
    cases hin : decide (b ∈ l) with
    | false =>
      rw [hin] at G1 HM
      clear hin G2 G3 G4 HX0
      go_quiet (first | (go_at_call 15; exact Calls.quiet_of_same (G1 _)))
      go_wp2_with fail
      go_meet
      exact ⟨congrArg Value.bool HM.out, hide (bel_drewN W5.out nq)⟩
    | true =>
      rw [hin, Bool.true_and] at HM
      rw [hin] at G1
      clear hin
      go_quiet (first
        | (go_at_call 15; exact Calls.quiet_of_same (G1 _))
        | (go_at_call 12; first | (with_reducible exact Calls.quiet_of_same (G2 _)) | (with_reducible exact Calls.quiet_of_same (G3 _)))
        | (go_at_call 16; exact Calls.quiet_of_same (G4 _)))
      go_wp2_with fail
      go_meet
      exact ⟨congrArg Value.bool (by first | exact HM.out | (rw [HX0.out]; exact HM.out)), hide (bel_drewN W5.out nq)⟩
  case rest =>
    obtain ⟨rfl, W6⟩ := hcut
    have ck : wc.cell? (a.add k) = some (.int .i64 x) := (W6.out.cell (by rw [Addr.add_block21]; exact Hab.out)).trans CK.out
    have cm : wc.cell? (a.add m) = some (.int .i64 y) := (W6.out.cell (by rw [Addr.add_block21]; exact Hab.out)).trans CM.out
    have q0 := fun d os => cell_regrown ck d os
    have q1 := fun d os => cell_regrown cm d os
    have hB := fun d os => (W6.out.trans ((below_regrown wc d os).mono W6.out.size))
    have G1 := fun d os => FA.out (grow (redrawn wc d) os)
    have G2 := fun d os => F7.out (grow (redrawn wc d) os) (hB d os)
    have G3 := fun d os => of_below21 (F63.out (grow (redrawn wc d) os) (hB d os))
    have G4 := fun d os => of_below21 (F62.out (grow (redrawn wc d) os) (hB d os))
    have G5 := fun d os => F8.out (grow (redrawn wc d) os) (hB d os)
    have hx1 := HX1.out
    have e1 : (x == x) = true := beq_self_eq_true x
    have e2 : (y == y) = true := beq_self_eq_true y
    have e3 : (gz == gz) = true := beq_self_eq_true gz
    have e4 : (M == M) = true := beq_self_eq_true M
    clear CK CM F61 F62 F63 F7 F8 F9 F10 FA HL HX1 HX0 HM ck cm hB W5
    go_upto_region 12 with fail
    refine wp_region_quiet_below (by kernel_rfl) (by kernel_rfl) ?_
    repeat (go_big_quiet_step (first
      | (with_reducible exact Calls.regrown_of (G1 _ _))
      | (with_reducible exact Calls.regrown_of (G2 _ _))
      | (with_reducible exact Calls.regrown_of (G3 _ _))
      | (with_reducible exact Calls.regrown_of (G4 _ _))
      | (with_reducible exact Calls.regrown_of (G5 _ _))))
    refine wpQuiet_nil ?_
    intro _ hw'
    obtain ⟨⟨dq, osq⟩, hw''⟩ := hw'
    subst hw''
    have WE := hide (W6.out.trans ((below_regrown wc dq osq).mono W6.out.size))
    clear G1 G2 G3 G4 G5 q0 q1 W6
    go_wp2
    go_ret
    exact ⟨rfl, WE.out⟩
theorem wearFinds_any (A A2 : Option Addr) (n c n2 c2 : Nat) (b gap : Int) (l cs : List Int) (w : World) (hl : Lies w w.heap.size A (nums .i64 l)) (hc : Lies w w.heap.size A2 (nums .i64 cs)) (hn : n = l.length) (hn2 : n2 = cs.length) (hT : Top cs) :
    Calls Try.prog 3 #[.agg #[.slice A n c, .slice A2 n2 c2, .int .i64 b, .int .i64 gap]] w fun e w' => e = .returned (.bool true) ∧ Below w.heap.size w w' := by
  by_cases h : n ≤ 60 ∧ n2 ≤ 100
  · by_cases h0 : 0 < n
    · exact wearFinds_on A A2 n c n2 c2 b gap l cs w hl hc hn hn2 h0 h.1 h.2 hT
    · obtain rfl : n = 0 := by omega
      exact wearFinds_nil A A2 c n2 c2 b gap cs w hc hn2 h.2 hT
  · exact wearFinds_off A A2 n c n2 c2 b gap w h
end Go.Proofs.Ytpepifbdndcbjaa
