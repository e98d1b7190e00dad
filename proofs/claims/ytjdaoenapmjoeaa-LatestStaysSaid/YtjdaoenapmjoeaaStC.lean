/-
  A STABLE SORT, walks at finds: symMergeCmpFunc: one element on a side. (By gen/StC.gen.py.)
-/
import Derived.Test.YtjdaoenapmjoeaaStB
import Derived.Test.YtjdaoenapmjoeaaSuS
namespace Go.Proofs.Ytjdaoenapmjoeaa
open Go.RowKit Go.Sort
set_option maxRecDepth 8000
namespace St
section
variable {enc : Fo → List Value} {k : Nat} {w0 : World} {blk off : Nat} {d0 : Array Fo} {g : Nat} {cb : Array Value} {cf : Fo → Fo → Int}
theorem _root_.Go.Proofs.Ytjdaoenapmjoeaa.So.wU {x : Nat} (h : x ≤ 100000) : IntKind.u64.wrap (x : Int) = (x : Int) := by rw [IntKind.wrap_u64]; omega
set_option maxHeartbeats 8000000 in
theorem sym1_any (zE : ∀ w, (Go.sizeOf 34).run Try.prog w = .ok k w) (eg : ∀ args w, (callFunc g args).run Try.prog w = .ok (.enter g args) w) (hcmp : CmpLays Try.prog g cb enc k cf blk off d0.size w0) (R : RowK enc k w0 blk off d0) (f : Nat) (d : Array Fo) (w : World) (hs : d.size = d0.size) (S : SWK enc k w0 blk off d w) (a m b cap : Nat) (ham : a + 1 = m) (hmb : m < b) (hb : b ≤ d.size) (hsz : d.size ≤ 2000) :
    Calls Try.prog 62 #[.slice (some ⟨blk, off, none⟩) d.size cap, .int .i64 (a : Int), .int .i64 (m : Int), .int .i64 (b : Int), .func (.func g) #[] cb] w fun e w' => e = .returned (.tuple #[]) ∧ SWK enc k w0 blk off (upS (bs (fun h => ltOf cf d[h]! d[a]!) m b - 1) (b - a) a d) w' := by
  have aE := Try.isAgg34
  have mixed : Try.prog.follows .mixedOrders = true := by kernel_rfl
  have HC : Aside _ := hcmp
  have S0 : Aside (SWK enc k w0 blk off d w) := S
  have Hs := hide hs
  obtain ⟨N, hN⟩ : ∃ N, d.size = N := ⟨_, rfl⟩
  rw [hN] at hb hsz Hs ⊢
  have HN := hide hN
  obtain ⟨Z, hZ⟩ : ∃ Z, upS (bs (fun h => ltOf cf d[h]! d[a]!) m b - 1) (b - a) a d = Z := ⟨_, rfl⟩
  rw [hZ]
  obtain ⟨I, hI⟩ : ∃ I, bs (fun h => ltOf cf d[h]! d[a]!) m b = I := ⟨_, rfl⟩
  rw [hI] at hZ
  have HZ := hide hZ
  have HI := hide hI
  have HIb := hide (show m ≤ I ∧ I ≤ b by rw [← hI]; exact ⟨bs_ge _ (Nat.le_of_lt hmb), bs_le _ (Nat.le_of_lt hmb)⟩)
  have HB := hide (show a + 1 = m ∧ m < b ∧ b ≤ N ∧ N ≤ 2000 from ⟨ham, hmb, hb, hsz⟩)
  have r0 : (m : Int) - (a : Int) = 1 := by omega
  have HD : Hid (d.size = N) := HN
  clear hcmp S hs hmb hb hsz hN hZ hI HN
  have e0 : wrap64 ((m : Int) - (a : Int)) = 1 := by rw [r0]; exact w6b (x := 1) (by decide)
  clear r0 ham
  generalize d = dk at *
  go_enter Try.func62, Try.ntmps62
  go_wp2_with fail
  clear e0
  go_loopw [10, 11, 12] (fun s t _ wr => ∃ i j : Nat, s = .int .i64 (i : Int) ∧ t = .int .i64 (j : Int) ∧ Hid (m ≤ i ∧ i ≤ j ∧ j ≤ b) ∧ Hid (bs (fun h => ltOf cf dk[h]! dk[a]!) i j = I) ∧ Hid (SWK enc k w0 blk off dk wr)) (fun s t _ _ => (intOf t).toNat - (intOf s).toNat)
  case atStart => exact ⟨m, b, rfl, rfl, hide ⟨Nat.le_refl _, by have := HB.out; omega, Nat.le_refl _⟩, HI, S0⟩
  case round =>
    clear S0 HI
    obtain ⟨i, j, rfl, rfl, HIJ, HI, S1⟩ := hrel
    have kij := HIJ.out
    have kb := HB.out
    by_cases hlt : i < j
    · have g1 : decide ((i : Int) < (j : Int)) = true := decide_eq_true (Int.ofNat_lt.2 hlt)
      have g1' : decide (i < j) = true := decide_eq_true hlt
      obtain ⟨h, hh⟩ : ∃ z, (i + j) / 2 = z := ⟨_, rfl⟩
      obtain ⟨s, hs9⟩ : ∃ z, i + j = z := ⟨_, rfl⟩
      rw [hs9] at hh
      have hhj : i ≤ h ∧ h < j ∧ h ≤ 2000 ∧ s ≤ 4000 ∧ h + 1 ≤ 2001 := by omega
      have r1 : (i : Int) + (j : Int) = (s : Int) := by omega
      have r2 : (s : Int) / 2 = (h : Int) := by omega
      have r3 : (s : Int).toNat = s := Int.toNat_natCast s
      have HI2 := hide (show (if (ltOf cf dk[h]! dk[a]!) = true then bs (fun h => ltOf cf dk[h]! dk[a]!) (h + 1) j else bs (fun h => ltOf cf dk[h]! dk[a]!) i h) = I by
        have := HI.out
        rw [bs, dif_pos hlt, hs9, hh] at this
        exact this)
      have Hh := hide hhj
      have hx : h < N := by omega
      have hy : a < N := by omega
      have hx9 : h < dk.size := by rw [HD.out]; exact hx
      have hy9 : a < dk.size := by rw [HD.out]; exact hy
      have hds : dk.size = d0.size := by rw [HD.out]; exact Hs.out
      have bx : (h : Int) < (N : Int) := Int.ofNat_lt.2 hx
      have by_ : (a : Int) < (N : Int) := Int.ofNat_lt.2 hy
      have l1 := fun n os => S1.out.ld R hds Try.prog h hx9 n os
      have l2 := fun n os => S1.out.ld R hds Try.prog a hy9 n os
      have hc := fun n os => S1.out.cmp HC.out hds dk[h]! dk[a]! n os
      have HZ := hide (show ∀ z, cf dk[h]! dk[a]! = z → ltOf cf dk[h]! dk[a]! = decide (z < 0) from fun z h => by rw [← h]; rfl)
      have HP := HI2.out
      obtain ⟨tl, htl⟩ : ∃ t, ltOf cf dk[h]! dk[a]! = t := ⟨_, rfl⟩
      have HI3 := hide (show (if (tl) = true then bs (fun h => ltOf cf dk[h]! dk[a]!) (h + 1) j else bs (fun h => ltOf cf dk[h]! dk[a]!) i h) = I by rw [← htl]; exact HP)
      have HT : Hid (∀ z, cf dk[h]! dk[a]! = z → tl = decide (z < 0)) := hide (fun z h => by rw [← htl]; exact HZ.out z h)
      generalize hfp : (fun h : Nat => ltOf cf dk[h]! dk[a]!) = fp at *
      generalize enc dk[h]! = cX at l1 hc
      generalize enc dk[a]! = cY at l2 hc
      generalize cf dk[h]! dk[a]! = z at *
      have Htl := hide (HT.out z rfl)
      have HIJ2 := hide kij
      clear HI2 HP htl HZ HT hfp HI kij kb hh hs9 hx hy hx9 hy9 hds hlt
      have u1 : wrap64 ((i : Int) + (j : Int)) = (s : Int) := by rw [r1]; exact w6b (Nat.le_trans hhj.2.2.2.1 (by decide))
      have u2 : IntKind.u64.wrap (s : Int) = (s : Int) := So.wU (Nat.le_trans hhj.2.2.2.1 (by decide))
      have u3 : wrap64 (h : Int) = (h : Int) := w6b (Nat.le_trans hhj.2.2.1 (by decide))
      have u4 : wrap64 ((h : Int) + 1) = ((h + 1 : Nat) : Int) := w6b (Nat.le_trans hhj.2.2.2.2 (by decide))
      clear r1 hhj
      go_wp2_with fail
      by_cases hz : z < 0
      · have g2 : decide (z < 0) = true := decide_eq_true hz
        have HI4 := hide (show bs fp (h + 1) j = I by have := HI3.out; rwa [Htl.out, g2, if_pos rfl] at this)
        clear HI3 Htl
        go_quiet_grown (first | (go_at_fn g; refine Calls.grown_of (hc _ _)))
        have S2 := hide (S1.out.grown nq osq)
        clear l1 l2 hc S1
        generalize grow (wr.drewN nq) osq = w2 at *
        go_wp2
        exact ⟨⟨h + 1, j, congrArg _ u4, rfl, hide (by have := HIJ2.out; have := Hh.out; clear u1 u2 u3 u4; omega), HI4, S2⟩, by first | (rw [u4]; exact So.measN Hh.out.1 Hh.out.2.1) | exact So.measN Hh.out.1 Hh.out.2.1⟩
      · have g2 : decide (z < 0) = false := decide_eq_false hz
        have HI4 := hide (show bs fp i h = I by have := HI3.out; rwa [Htl.out, g2, if_neg (by decide)] at this)
        clear HI3 Htl
        go_quiet_grown (first | (go_at_fn g; refine Calls.grown_of (hc _ _)))
        have S2 := hide (S1.out.grown nq osq)
        clear l1 l2 hc S1
        generalize grow (wr.drewN nq) osq = w2 at *
        go_wp2
        exact ⟨⟨i, h, rfl, by first | rfl | exact congrArg _ u3, hide (by have := HIJ2.out; have := Hh.out; clear u1 u2 u3 u4; omega), HI4, S2⟩, by first | exact So.measM Hh.out.1 Hh.out.2.1 | (rw [u3]; exact So.measM Hh.out.1 Hh.out.2.1)⟩
    · have hij : i = j := by omega
      subst hij
      have hI : i = I := by have := HI.out; rwa [bs, dif_neg (by omega)] at this
      subst hI
      have g1 : decide ((i : Int) < (i : Int)) = false := decide_eq_false (by omega)
      have g1' : decide (i < i) = false := decide_eq_false (by omega)
      obtain ⟨i1, hi1⟩ : ∃ z, i - 1 = z := ⟨_, rfl⟩
      have kI := HIb.out
      have r1 : (i : Int) - 1 = (i1 : Int) := by omega
      have q1 : i1 ≤ 2000 := by omega
      have HI1 := hide (show a ≤ i1 ∧ i1 < b ∧ b ≤ N ∧ N ≤ 2000 by omega)
      have HZ2 : Hid (upS i1 (b - a) a dk = Z) := hide (by rw [← hi1]; exact HZ.out)
      have Hba := hide (show i1 - a ≤ b - a by omega)
      generalize b - a = f0 at *
      clear hlt kij kb HI HIb HIJ HB hi1 kI HZ
      have e1 : wrap64 ((i : Int) - 1) = (i1 : Int) := by rw [r1]; exact w6b (Nat.le_trans q1 (by decide))
      clear r1 q1
      have HD0 := hide HD.out
      clear HD
      go_wp2_with fail
      go_loopw [13] (fun s wr => ∃ (fl x : Nat) (dk : Array Fo), s = .int .i64 (x : Int) ∧ Hid (a ≤ x ∧ i1 - x ≤ fl) ∧ Hid (dk.size = N) ∧ Hid (upS i1 fl x dk = Z) ∧ Hid (SWK enc k w0 blk off dk wr)) (fun s _ => i1 - (intOf s).toNat)
      case atStart => exact ⟨f0, a, dk, rfl, hide ⟨Nat.le_refl _, Hba.out⟩, HD0, HZ2, S1⟩
      case round =>
        clear S1 HZ2 HD0 Hba
        obtain ⟨fl, x, dk, rfl, HX, HD, HZ, S1⟩ := hrel
        by_cases hlt : x < i1
        · have g2 : decide ((x : Int) < (i1 : Int)) = true := decide_eq_true (Int.ofNat_lt.2 hlt)
          have g2' : decide (x < i1) = true := decide_eq_true hlt
          have kX := HX.out
          have k1 := HI1.out
          cases fl with
          | zero => omega
          | succ fl =>
          obtain ⟨y, hy0⟩ : ∃ z, x + 1 = z := ⟨_, rfl⟩
          have HZ2 := hide (show upS i1 fl y (swp dk x y) = Z by have := HZ.out; rwa [upS, if_pos hlt, hy0] at this)
          have hx : x < N := by omega
          have hy : y < N := by omega
          have q1 : y ≤ 2000 := by omega
          have r1 : (x : Int) + 1 = (y : Int) := by omega
          have HX2 := hide (show a ≤ y ∧ i1 - y ≤ fl by omega)
          have Hms := hide (show i1 - y < i1 - x by omega)
          have hxy : x ≠ y := by omega
          have hx9 : x < dk.size := by rw [HD.out]; exact hx
          have hy9 : y < dk.size := by rw [HD.out]; exact hy
          have hds : dk.size = d0.size := by rw [HD.out]; exact Hs.out
          have bx : (x : Int) < (N : Int) := Int.ofNat_lt.2 hx
          have by_ : (y : Int) < (N : Int) := Int.ofNat_lt.2 hy
          have S2 : Aside (SWK enc k w0 blk off (swp dk x y) ((wr.drew.setCells blk (off + x * k) (enc dk[y]!)).setCells blk (off + y * k) (enc dk[x]!))) := S1.out.swapped R x y hx9 hy9
          have l1 := S1.out.ld1 R hds Try.prog x hx9
          have l2 := S1.out.ld1 R hds Try.prog y hy9
          have s1 := S1.out.st1 R hds Try.prog x hx9 dk[y]!
          have s2 := S1.out.st2 R hds Try.prog x y hx9 hy9 dk[y]! dk[x]!
          have n1 : (enc dk[x]!).length = k := R.hk _
          have n2 : (enc dk[y]!).length = k := R.hk _
          have HD2 := hide (show (swp dk x y).size = N by rw [size_swp]; exact HD.out)
          generalize enc dk[x]! = cX at S2 l1 s2 n1
          generalize enc dk[y]! = cY at S2 l2 s1 s2 n2
          clear kX k1 hlt hx hy hx9 hy9 hds hy0 HZ HD S1
          have e2 : wrap64 ((x : Int) + 1) = (y : Int) := by rw [r1]; exact w6b (Nat.le_trans q1 (by decide))
          have e2' : IntKind.i64.wrap ((x : Int) + 1) = (y : Int) := by rw [r1]; exact w6j (Nat.le_trans q1 (by decide))
          clear r1 q1
          go_wp2_with fail
          go_big_region_o
          clear l1 l2 s1 s2 n1 n2
          generalize (wr.drew.setCells blk (off + x * k) cY).setCells blk (off + y * k) cX = w2 at S2 ⊢
          have S3 : Hid (SWK enc k w0 blk off (swp dk x y) w2) := S2
          clear S2
          go_wp2
          exact ⟨⟨fl, y, _, by first | rfl | exact congrArg _ e2, HX2, HD2, HZ2, S3⟩, by first | exact Hms.out | (rw [e2]; exact Hms.out)⟩
        · have g2 : decide ((x : Int) < (i1 : Int)) = false := decide_eq_false (fun h => hlt (Int.ofNat_lt.1 h))
          have g2' : decide (x < i1) = false := decide_eq_false hlt
          have hst : dk = Z := by
            have := HZ.out
            cases fl with
            | zero => rwa [upS] at this
            | succ fl => rwa [upS, if_neg hlt] at this
          clear hlt
          go_wp2
          first | go_end0 | ((try simp only [Exit.inBlock, Exit.then]); refine bodyPost_ret (results_none rfl _ _ _) rfl ?_)
          exact ⟨rfl, by rw [← hst]; exact S1.out⟩
set_option maxHeartbeats 8000000 in
theorem sym2_any (zE : ∀ w, (Go.sizeOf 34).run Try.prog w = .ok k w) (eg : ∀ args w, (callFunc g args).run Try.prog w = .ok (.enter g args) w) (hcmp : CmpLays Try.prog g cb enc k cf blk off d0.size w0) (R : RowK enc k w0 blk off d0) (d : Array Fo) (w : World) (hs : d.size = d0.size) (S : SWK enc k w0 blk off d w) (a m b cap : Nat) (ham : a < m) (ham2 : m - a ≠ 1) (hmb : m + 1 = b) (hb : b ≤ d.size) (hsz : d.size ≤ 2000) :
    Calls Try.prog 62 #[.slice (some ⟨blk, off, none⟩) d.size cap, .int .i64 (a : Int), .int .i64 (m : Int), .int .i64 (b : Int), .func (.func g) #[] cb] w fun e w' => e = .returned (.tuple #[]) ∧ SWK enc k w0 blk off (dnS (bs (fun h => !ltOf cf d[m]! d[h]!) a m) m d) w' := by
  have aE := Try.isAgg34
  have mixed : Try.prog.follows .mixedOrders = true := by kernel_rfl
  have HC : Aside _ := hcmp
  have S0 : Aside (SWK enc k w0 blk off d w) := S
  have Hs := hide hs
  obtain ⟨N, hN⟩ : ∃ N, d.size = N := ⟨_, rfl⟩
  rw [hN] at hb hsz Hs ⊢
  have HN := hide hN
  obtain ⟨Z, hZ⟩ : ∃ Z, dnS (bs (fun h => !ltOf cf d[m]! d[h]!) a m) m d = Z := ⟨_, rfl⟩
  rw [hZ]
  obtain ⟨I, hI⟩ : ∃ I, bs (fun h => !ltOf cf d[m]! d[h]!) a m = I := ⟨_, rfl⟩
  rw [hI] at hZ
  have HZ := hide hZ
  have HI := hide hI
  have HB := hide (show a < m ∧ m + 1 = b ∧ b ≤ N ∧ N ≤ 2000 from ⟨ham, hmb, hb, hsz⟩)
  obtain ⟨L, hL⟩ : ∃ z, m - a = z := ⟨_, rfl⟩
  have r0 : (m : Int) - (a : Int) = (L : Int) := by omega
  have r1 : (b : Int) - (m : Int) = 1 := by omega
  have q0 : L ≤ 2000 := by omega
  have g0 : ((L : Int) == 1) = false := beq_eq_false_iff_ne.2 (by omega)
  have HD : Hid (d.size = N) := HN
  clear hcmp S hs hmb hb hsz hN hZ hI HN hL ham2
  have e0 : wrap64 ((m : Int) - (a : Int)) = (L : Int) := by rw [r0]; exact w6b (Nat.le_trans q0 (by decide))
  have e1 : wrap64 ((b : Int) - (m : Int)) = 1 := by rw [r1]; exact w6b (x := 1) (by decide)
  clear r0 r1 q0 ham
  generalize d = dk at *
  go_enter Try.func62, Try.ntmps62
  go_wp2_with fail
  clear e0 e1 g0
  go_loopw [14, 15, 16] (fun s t _ wr => ∃ i j : Nat, s = .int .i64 (i : Int) ∧ t = .int .i64 (j : Int) ∧ Hid (a ≤ i ∧ i ≤ j ∧ j ≤ m) ∧ Hid (bs (fun h => !ltOf cf dk[m]! dk[h]!) i j = I) ∧ Hid (SWK enc k w0 blk off dk wr)) (fun s t _ _ => (intOf t).toNat - (intOf s).toNat)
  case atStart => exact ⟨a, m, rfl, rfl, hide ⟨Nat.le_refl _, by have := HB.out; omega, Nat.le_refl _⟩, HI, S0⟩
  case round =>
    clear S0 HI
    obtain ⟨i, j, rfl, rfl, HIJ, HI, S1⟩ := hrel
    have kij := HIJ.out
    have kb := HB.out
    by_cases hlt : i < j
    · have g1 : decide ((i : Int) < (j : Int)) = true := decide_eq_true (Int.ofNat_lt.2 hlt)
      have g1' : decide (i < j) = true := decide_eq_true hlt
      obtain ⟨h, hh⟩ : ∃ z, (i + j) / 2 = z := ⟨_, rfl⟩
      obtain ⟨s, hs9⟩ : ∃ z, i + j = z := ⟨_, rfl⟩
      rw [hs9] at hh
      have hhj : i ≤ h ∧ h < j ∧ h ≤ 2000 ∧ s ≤ 4000 ∧ h + 1 ≤ 2001 := by omega
      have r1 : (i : Int) + (j : Int) = (s : Int) := by omega
      have r2 : (s : Int) / 2 = (h : Int) := by omega
      have r3 : (s : Int).toNat = s := Int.toNat_natCast s
      have HI2 := hide (show (if (!ltOf cf dk[m]! dk[h]!) = true then bs (fun h => !ltOf cf dk[m]! dk[h]!) (h + 1) j else bs (fun h => !ltOf cf dk[m]! dk[h]!) i h) = I by
        have := HI.out
        rw [bs, dif_pos hlt, hs9, hh] at this
        exact this)
      have Hh := hide hhj
      have hx : m < N := by omega
      have hy : h < N := by omega
      have hx9 : m < dk.size := by rw [HD.out]; exact hx
      have hy9 : h < dk.size := by rw [HD.out]; exact hy
      have hds : dk.size = d0.size := by rw [HD.out]; exact Hs.out
      have bx : (m : Int) < (N : Int) := Int.ofNat_lt.2 hx
      have by_ : (h : Int) < (N : Int) := Int.ofNat_lt.2 hy
      have l1 := fun n os => S1.out.ld R hds Try.prog m hx9 n os
      have l2 := fun n os => S1.out.ld R hds Try.prog h hy9 n os
      have hc := fun n os => S1.out.cmp HC.out hds dk[m]! dk[h]! n os
      have HZ := hide (show ∀ z, cf dk[m]! dk[h]! = z → ltOf cf dk[m]! dk[h]! = decide (z < 0) from fun z h => by rw [← h]; rfl)
      have HP := HI2.out
      obtain ⟨tl, htl⟩ : ∃ t, ltOf cf dk[m]! dk[h]! = t := ⟨_, rfl⟩
      have HI3 := hide (show (if (!tl) = true then bs (fun h => !ltOf cf dk[m]! dk[h]!) (h + 1) j else bs (fun h => !ltOf cf dk[m]! dk[h]!) i h) = I by rw [← htl]; exact HP)
      have HT : Hid (∀ z, cf dk[m]! dk[h]! = z → tl = decide (z < 0)) := hide (fun z h => by rw [← htl]; exact HZ.out z h)
      generalize hfp : (fun h : Nat => !ltOf cf dk[m]! dk[h]!) = fp at *
      generalize enc dk[m]! = cX at l1 hc
      generalize enc dk[h]! = cY at l2 hc
      generalize cf dk[m]! dk[h]! = z at *
      have Htl := hide (HT.out z rfl)
      have HIJ2 := hide kij
      clear HI2 HP htl HZ HT hfp HI kij kb hh hs9 hx hy hx9 hy9 hds hlt
      have u1 : wrap64 ((i : Int) + (j : Int)) = (s : Int) := by rw [r1]; exact w6b (Nat.le_trans hhj.2.2.2.1 (by decide))
      have u2 : IntKind.u64.wrap (s : Int) = (s : Int) := So.wU (Nat.le_trans hhj.2.2.2.1 (by decide))
      have u3 : wrap64 (h : Int) = (h : Int) := w6b (Nat.le_trans hhj.2.2.1 (by decide))
      have u4 : wrap64 ((h : Int) + 1) = ((h + 1 : Nat) : Int) := w6b (Nat.le_trans hhj.2.2.2.2 (by decide))
      clear r1 hhj
      go_wp2_with fail
      by_cases hz : z < 0
      · have g2 : decide (z < 0) = true := decide_eq_true hz
        have HI4 := hide (show bs fp i h = I by have := HI3.out; rwa [Htl.out, g2, if_neg (by decide)] at this)
        clear HI3 Htl
        go_quiet_grown (first | (go_at_fn g; refine Calls.grown_of (hc _ _)))
        have S2 := hide (S1.out.grown nq osq)
        clear l1 l2 hc S1
        generalize grow (wr.drewN nq) osq = w2 at *
        go_wp2
        exact ⟨⟨i, h, rfl, by first | rfl | exact congrArg _ u3, hide (by have := HIJ2.out; have := Hh.out; clear u1 u2 u3 u4; omega), HI4, S2⟩, by first | exact So.measM Hh.out.1 Hh.out.2.1 | (rw [u3]; exact So.measM Hh.out.1 Hh.out.2.1)⟩
      · have g2 : decide (z < 0) = false := decide_eq_false hz
        have HI4 := hide (show bs fp (h + 1) j = I by have := HI3.out; rwa [Htl.out, g2, if_pos (by decide)] at this)
        clear HI3 Htl
        go_quiet_grown (first | (go_at_fn g; refine Calls.grown_of (hc _ _)))
        have S2 := hide (S1.out.grown nq osq)
        clear l1 l2 hc S1
        generalize grow (wr.drewN nq) osq = w2 at *
        go_wp2
        exact ⟨⟨h + 1, j, congrArg _ u4, rfl, hide (by have := HIJ2.out; have := Hh.out; clear u1 u2 u3 u4; omega), HI4, S2⟩, by first | (rw [u4]; exact So.measN Hh.out.1 Hh.out.2.1) | exact So.measN Hh.out.1 Hh.out.2.1⟩
    · have hij : i = j := by omega
      subst hij
      have hI : i = I := by have := HI.out; rwa [bs, dif_neg (by omega)] at this
      subst hI
      have g1 : decide ((i : Int) < (i : Int)) = false := decide_eq_false (by omega)
      have g1' : decide (i < i) = false := decide_eq_false (by omega)
      clear hlt kij kb HI HIJ
      have HD0 := hide HD.out
      clear HD
      go_wp2_with fail
      go_loopw [17] (fun s wr => ∃ (x : Nat) (dk : Array Fo), s = .int .i64 (x : Int) ∧ Hid (x ≤ m) ∧ Hid (dk.size = N) ∧ Hid (dnS i x dk = Z) ∧ Hid (SWK enc k w0 blk off dk wr)) (fun s _ => (intOf s).toNat)
      case atStart => exact ⟨m, dk, rfl, hide (Nat.le_refl _), HD0, HZ, S1⟩
      case round =>
        clear S1 HZ HD0
        obtain ⟨x, dk, rfl, HX, HD, HZ, S1⟩ := hrel
        by_cases hlt : i < x
        · have g2 : decide ((i : Int) < (x : Int)) = true := decide_eq_true (Int.ofNat_lt.2 hlt)
          have g2' : decide (i < x) = true := decide_eq_true hlt
          have kX := HX.out
          have k1 := HB.out
          obtain ⟨y, hy0⟩ : ∃ z, x = z + 1 := ⟨x - 1, by omega⟩
          have HZ2 := hide (show dnS i y (swp dk x y) = Z by have := HZ.out; rw [hy0] at this hlt; rw [dnS, if_pos hlt] at this; rw [hy0]; exact this)
          have hx : x < N := by omega
          have hy : y < N := by omega
          have q1 : y ≤ 2000 := by omega
          have r1 : (x : Int) - 1 = (y : Int) := by omega
          have HX2 := hide (show y ≤ m by omega)
          have Hms := hide (show y < x by omega)
          have hxy : x ≠ y := by omega
          have hx9 : x < dk.size := by rw [HD.out]; exact hx
          have hy9 : y < dk.size := by rw [HD.out]; exact hy
          have hds : dk.size = d0.size := by rw [HD.out]; exact Hs.out
          have bx : (x : Int) < (N : Int) := Int.ofNat_lt.2 hx
          have by_ : (y : Int) < (N : Int) := Int.ofNat_lt.2 hy
          have S2 : Aside (SWK enc k w0 blk off (swp dk x y) ((wr.drew.setCells blk (off + x * k) (enc dk[y]!)).setCells blk (off + y * k) (enc dk[x]!))) := S1.out.swapped R x y hx9 hy9
          have l1 := S1.out.ld1 R hds Try.prog x hx9
          have l2 := S1.out.ld1 R hds Try.prog y hy9
          have s1 := S1.out.st1 R hds Try.prog x hx9 dk[y]!
          have s2 := S1.out.st2 R hds Try.prog x y hx9 hy9 dk[y]! dk[x]!
          have n1 : (enc dk[x]!).length = k := R.hk _
          have n2 : (enc dk[y]!).length = k := R.hk _
          have HD2 := hide (show (swp dk x y).size = N by rw [size_swp]; exact HD.out)
          generalize enc dk[x]! = cX at S2 l1 s2 n1
          generalize enc dk[y]! = cY at S2 l2 s1 s2 n2
          clear kX k1 hlt hx hy hx9 hy9 hds hy0 HZ HD S1
          have e2 : wrap64 ((x : Int) - 1) = (y : Int) := by rw [r1]; exact w6b (Nat.le_trans q1 (by decide))
          have e2' : IntKind.i64.wrap ((x : Int) - 1) = (y : Int) := by rw [r1]; exact w6j (Nat.le_trans q1 (by decide))
          clear r1 q1
          go_wp2_with fail
          go_big_region_o
          clear l1 l2 s1 s2 n1 n2
          generalize (wr.drew.setCells blk (off + x * k) cY).setCells blk (off + y * k) cX = w2 at S2 ⊢
          have S3 : Hid (SWK enc k w0 blk off (swp dk x y) w2) := S2
          clear S2
          go_wp2
          exact ⟨⟨y, _, by first | rfl | exact congrArg _ e2, HX2, HD2, HZ2, S3⟩, by first | exact Hms.out | (rw [e2]; exact Hms.out)⟩
        · have g2 : decide ((i : Int) < (x : Int)) = false := decide_eq_false (fun h => hlt (Int.ofNat_lt.1 h))
          have g2' : decide (i < x) = false := decide_eq_false hlt
          have hst : dk = Z := by
            have := HZ.out
            cases x with
            | zero => rwa [dnS] at this
            | succ x => rwa [dnS, if_neg hlt] at this
          clear hlt
          go_wp2
          first | go_end0 | ((try simp only [Exit.inBlock, Exit.then]); refine bodyPost_ret (results_none rfl _ _ _) rfl ?_)
          exact ⟨rfl, by rw [← hst]; exact S1.out⟩
end
end St
end Go.Proofs.Ytjdaoenapmjoeaa
