/-
  A STABLE SORT, walks at finds: symMergeCmpFunc: the rest. (By gen/StC.gen.py.)
-/
import Derived.Test.YtjdaoenapmjoeaaStC
namespace Go.Proofs.Ytjdaoenapmjoeaa
open Go.RowKit Go.Sort
set_option maxRecDepth 8000
namespace St
section
variable {enc : Fo → List Value} {k : Nat} {w0 : World} {blk off : Nat} {d0 : Array Fo} {g : Nat} {cb : Array Value} {cf : Fo → Fo → Int}
theorem sym_nums {a m b N : Nat} (ham : a < m) (hmb : m < b) (hb : b ≤ N) (hsz : N ≤ 2000) (h1 : m - a ≠ 1) (h2 : b - m ≠ 1) {mid n P1 st0 r0 : Nat} (hm : (a + b) / 2 = mid) (hn : mid + m = n) (hP : n - 1 = P1) (h0 : (if mid < m then n - b else a) = st0) (hr : (if mid < m then mid else m) = r0) :
    a < mid ∧ mid < b ∧ n ≤ 4000 ∧ 0 < n ∧ P1 + 1 = n ∧ st0 ≤ r0 ∧ a ≤ st0 ∧ r0 ≤ m ∧ r0 ≤ mid ∧ (mid < m → st0 + b = n) ∧ (∀ c, st0 ≤ c → c < r0 → c ≤ P1 ∧ P1 - c < N ∧ c < N) ∧ (∀ s, st0 ≤ s → s ≤ r0 → s ≤ n ∧ n - s ≤ b ∧ m ≤ n - s ∨ s ≤ n ∧ n - s ≤ b ∧ mid ≤ n - s) := by
  by_cases h : mid < m
  · rw [if_pos h] at h0 hr
    refine ⟨by omega, by omega, by omega, by omega, by omega, by omega, by omega, by omega, by omega, fun _ => by omega, fun c h1 h2 => by omega, fun s h1 h2 => by omega⟩
  · rw [if_neg h] at h0 hr
    refine ⟨by omega, by omega, by omega, by omega, by omega, by omega, by omega, by omega, by omega, fun q => absurd q h, fun c h1 h2 => by omega, fun s h1 h2 => by omega⟩
set_option maxHeartbeats 16000000 in
theorem sym3_any (zE : ∀ w, (Go.sizeOf 34).run Try.prog w = .ok k w) (eg : ∀ args w, (callFunc g args).run Try.prog w = .ok (.enter g args) w) (hcmp : CmpLays Try.prog g cb enc k cf blk off d0.size w0) (R : RowK enc k w0 blk off d0) (f : Nat)
    (FR : ∀ (d : Array Fo) (w : World) (a m b cap : Nat), b - a ≤ f → d.size = d0.size → SWK enc k w0 blk off d w → a < m → m < b → b ≤ d.size → d.size ≤ 2000 → Calls Try.prog 62 #[.slice (some ⟨blk, off, none⟩) d.size cap, .int .i64 (a : Int), .int .i64 (m : Int), .int .i64 (b : Int), .func (.func g) #[] cb] w fun e w' => e = .returned (.tuple #[]) ∧ SWK enc k w0 blk off (symM (ltOf cf) f a m b d) w')
    (d : Array Fo) (w : World) (a m b cap : Nat) (hf : b - a ≤ f + 1) (hs : d.size = d0.size) (S : SWK enc k w0 blk off d w) (ham : a < m) (hmb : m < b) (hb : b ≤ d.size) (hsz : d.size ≤ 2000) (h1 : m - a ≠ 1) (h2 : b - m ≠ 1) :
    Calls Try.prog 62 #[.slice (some ⟨blk, off, none⟩) d.size cap, .int .i64 (a : Int), .int .i64 (m : Int), .int .i64 (b : Int), .func (.func g) #[] cb] w fun e w' => e = .returned (.tuple #[]) ∧ SWK enc k w0 blk off (symM (ltOf cf) (f + 1) a m b d) w' := by
  have FROT := hide (fun (E : Array Fo) W (he : E.size = d.size) (h : SWK enc k w0 blk off E W) x y z (h1 : x < y) (h2 : y < z) (h3 : z ≤ d.size) => rotate_any zE R E W (by rw [he]; exact hs) h x y z cap h1 h2 (by rw [he]; exact h3) (by rw [he]; exact hsz) (.func (.func g) #[] cb))
  have FSYM := hide (fun (E : Array Fo) W x y z (h0 : z - x ≤ f) (he : E.size = d.size) (h : SWK enc k w0 blk off E W) (h1 : x < y) (h2 : y < z) (h3 : z ≤ d.size) => FR E W x y z cap h0 (by rw [he]; exact hs) h h1 h2 (by rw [he]; exact h3) (by rw [he]; exact hsz))
  have aE := Try.isAgg34
  have mixed : Try.prog.follows .mixedOrders = true := by kernel_rfl
  have HC : Aside _ := hcmp
  have S0 : Aside (SWK enc k w0 blk off d w) := S
  have Hs := hide hs
  obtain ⟨N, hN⟩ : ∃ N, d.size = N := ⟨_, rfl⟩
  rw [hN] at hb hsz Hs FROT FSYM ⊢
  have HN := hide hN
  obtain ⟨mid, hmid⟩ : ∃ z, (a + b) / 2 = z := ⟨_, rfl⟩
  obtain ⟨n, hn⟩ : ∃ z, mid + m = z := ⟨_, rfl⟩
  obtain ⟨P1, hP1⟩ : ∃ z, n - 1 = z := ⟨_, rfl⟩
  obtain ⟨st0, hst0⟩ : ∃ z, (if mid < m then n - b else a) = z := ⟨_, rfl⟩
  obtain ⟨r0, hr0⟩ : ∃ z, (if mid < m then mid else m) = z := ⟨_, rfl⟩
  obtain ⟨I, hI⟩ : ∃ z, bs (fun c => !ltOf cf d[P1 - c]! d[c]!) st0 r0 = z := ⟨_, rfl⟩
  obtain ⟨en, hen⟩ : ∃ z, n - I = z := ⟨_, rfl⟩
  obtain ⟨Z1, hZ1⟩ : ∃ z, (if I < m ∧ m < en then rot I m en d else d) = z := ⟨_, rfl⟩
  obtain ⟨Z2, hZ2⟩ : ∃ z, (if a < I ∧ I < mid then symM (ltOf cf) f a I mid Z1 else Z1) = z := ⟨_, rfl⟩
  obtain ⟨Z, hZ⟩ : ∃ z, (if mid < en ∧ en < b then symM (ltOf cf) f mid en b Z2 else Z2) = z := ⟨_, rfl⟩
  have hZZ : symM (ltOf cf) (f + 1) a m b d = Z := by
    rw [symM, if_neg h1, if_neg h2]
    simp only [hmid, hn, hP1, hst0, hr0, hI, hen, hZ1, hZ2, hZ]
  rw [hZZ]
  have q := sym_nums ham hmb hb hsz h1 h2 hmid hn hP1 hst0 hr0
  have kI : st0 ≤ I ∧ I ≤ r0 := by rw [← hI]; exact ⟨bs_ge _ q.2.2.2.2.2.1, bs_le _ q.2.2.2.2.2.1⟩
  have kE := q.2.2.2.2.2.2.2.2.2.2.2 I kI.1 kI.2
  have HK := hide (show I ≤ n ∧ en ≤ b ∧ en ≤ N ∧ en ≤ 2000 ∧ a < mid ∧ mid < b ∧ mid ≤ N ∧ mid - a ≤ f ∧ b - mid ≤ f ∧ b ≤ N ∧ N ≤ 2000 by omega)
  have HC2 := hide q.2.2.2.2.2.2.2.2.2.2.1
  have HB : Hid (st0 ≤ r0 ∧ r0 ≤ 2000) := hide (by have := q; omega)
  have HI : Hid (bs (fun c => !ltOf cf d[P1 - c]! d[c]!) st0 r0 = I) := hide hI
  have Hen := hide hen
  have HZ1 := hide hZ1
  have HZ2 := hide hZ2
  have HZ := hide hZ
  obtain ⟨L1, hL1⟩ : ∃ z, m - a = z := ⟨_, rfl⟩
  obtain ⟨L2, hL2⟩ : ∃ z, b - m = z := ⟨_, rfl⟩
  obtain ⟨sab, hsab⟩ : ∃ z, a + b = z := ⟨_, rfl⟩
  rw [hsab] at hmid
  have c1 : (m : Int) - (a : Int) = (L1 : Int) := by omega
  have c2 : (b : Int) - (m : Int) = (L2 : Int) := by omega
  have c3 : (a : Int) + (b : Int) = (sab : Int) := by omega
  have c4 : (sab : Int) / 2 = (mid : Int) := by omega
  have c5 : (sab : Int).toNat = sab := Int.toNat_natCast sab
  have c6 : (mid : Int) + (m : Int) = (n : Int) := by omega
  have c7 : (n : Int) - 1 = (P1 : Int) := by omega
  have c8 : (n : Int) - (I : Int) = (en : Int) := by omega
  have g1 : ((L1 : Int) == 1) = false := beq_eq_false_iff_ne.2 (by omega)
  have g2 : ((L2 : Int) == 1) = false := beq_eq_false_iff_ne.2 (by omega)
  have C9 : Hid (mid < m → (n : Int) - (b : Int) = (st0 : Int) ∧ st0 ≤ 2000) := hide (fun h => by have := q.2.2.2.2.2.2.2.2.2.1 h; have := HB.out; omega)
  have HS0 : Hid ((mid < m → r0 = mid) ∧ (¬ mid < m → st0 = a ∧ r0 = m)) := hide ⟨fun h => by rw [← hr0, if_pos h], fun h => by rw [← hr0, ← hst0, if_neg h, if_neg h]; exact ⟨rfl, rfl⟩⟩
  have kk : L1 ≤ 2000 ∧ L2 ≤ 2000 ∧ sab ≤ 4000 ∧ mid ≤ 2000 ∧ n ≤ 4000 ∧ P1 ≤ 4000 ∧ en ≤ 2000 := by have := HK.out; omega
  have HD : Hid (d.size = N) := HN
  clear hcmp S hs hmb hb hsz hN hZ hI HN hmid hn hP1 hst0 hr0 hen hZ1 hZ2 hZZ hf h1 h2 hL1 hL2 hsab q kI kE ham FR
  have e1 : wrap64 ((m : Int) - (a : Int)) = (L1 : Int) := by rw [c1]; exact w6b (Nat.le_trans kk.1 (by decide))
  have e2 : wrap64 ((b : Int) - (m : Int)) = (L2 : Int) := by rw [c2]; exact w6b (Nat.le_trans kk.2.1 (by decide))
  have e3 : wrap64 ((a : Int) + (b : Int)) = (sab : Int) := by rw [c3]; exact w6b (Nat.le_trans kk.2.2.1 (by decide))
  have e4 : IntKind.u64.wrap (sab : Int) = (sab : Int) := So.wU (Nat.le_trans kk.2.2.1 (by decide))
  have e5 : wrap64 (mid : Int) = (mid : Int) := w6b (Nat.le_trans kk.2.2.2.1 (by decide))
  have e6 : wrap64 ((mid : Int) + (m : Int)) = (n : Int) := by rw [c6]; exact w6b (Nat.le_trans kk.2.2.2.2.1 (by decide))
  have e7 : wrap64 ((n : Int) - 1) = (P1 : Int) := by rw [c7]; exact w6b (Nat.le_trans kk.2.2.2.2.2.1 (by decide))
  have E8 := hide (show wrap64 ((n : Int) - (I : Int)) = (en : Int) by rw [c8]; exact w6b (Nat.le_trans kk.2.2.2.2.2.2 (by decide)))
  clear c1 c2 c3 c6 c7 c8 kk
  generalize d = dk at *
  go_enter Try.func62, Try.ntmps62
  go_upto_region 27 with fail
  simp only [e1, e2, e3, e5, e6]
  clear e1 e2 e3 e4 e5 e6 g1 g2 c4 c5
  go_upto_if 140 with fail
  go_cut [20, 21] from 138 to 146 (fun s t wx => s = .int .i64 (st0 : Int) ∧ t = .int .i64 (r0 : Int) ∧ wx = w)
  case first =>
    by_cases h : mid < m
    · have g3 : decide ((mid : Int) < (m : Int)) = true := decide_eq_true (Int.ofNat_lt.2 h)
      have g4 : (mid : Int) < (m : Int) := Int.ofNat_lt.2 h
      have g3' : decide (mid < m) = true := decide_eq_true h
      have e9 : wrap64 ((n : Int) - (b : Int)) = (st0 : Int) := by rw [(C9.out h).1]; exact w6b (Nat.le_trans (C9.out h).2 (by decide))
      have Hr := hide (HS0.out.1 h)
      clear h
      go_wp2
      go_meet
      exact ⟨by first | rfl | exact congrArg _ e9, by rw [Hr.out], rfl⟩
    · have g3 : decide ((mid : Int) < (m : Int)) = false := decide_eq_false (fun q => h (Int.ofNat_lt.1 q))
      have g4 : ¬ (mid : Int) < (m : Int) := fun q => h (Int.ofNat_lt.1 q)
      have g3' : decide (mid < m) = false := decide_eq_false h
      have Hr := hide (HS0.out.2 h)
      clear h
      go_wp2
      go_meet
      exact ⟨by rw [Hr.out.1], by rw [Hr.out.2], rfl⟩
  obtain ⟨rfl, rfl, rfl⟩ := hcut
  go_wp2_with fail
  simp only [e7]
  clear e7
  go_loopw [20, 21, 23] (fun s t _ wr => ∃ i j : Nat, s = .int .i64 (i : Int) ∧ t = .int .i64 (j : Int) ∧ Hid (st0 ≤ i ∧ i ≤ j ∧ j ≤ r0) ∧ Hid (bs (fun h => !ltOf cf dk[P1 - h]! dk[h]!) i j = I) ∧ Hid (SWK enc k w0 blk off dk wr)) (fun s t _ _ => (intOf t).toNat - (intOf s).toNat)
  case atStart => exact ⟨st0, r0, rfl, rfl, hide ⟨Nat.le_refl _, by have := HB.out; omega, Nat.le_refl _⟩, HI, S0⟩
  case round =>
    clear S0 HI
    obtain ⟨i, j, rfl, rfl, HIJ, HI, S1⟩ := hrel
    have kij := HIJ.out
    have kb := HB.out
    by_cases hlt : i < j
    · have g1 : decide ((i : Int) < (j : Int)) = true := decide_eq_true (Int.ofNat_lt.2 hlt)
      have g1' : decide (i < j) = true := decide_eq_true hlt
      obtain ⟨h, hh⟩ : ∃ z, (i + j) / 2 = z := ⟨_, rfl⟩
      obtain ⟨s, hs9⟩ : ∃ z, i + j = z := ⟨_, rfl⟩
      rw [hs9] at hh
      have hhj : i ≤ h ∧ h < j ∧ h ≤ 2000 ∧ s ≤ 4000 ∧ h + 1 ≤ 2001 := by omega
      have r1 : (i : Int) + (j : Int) = (s : Int) := by omega
      have r2 : (s : Int) / 2 = (h : Int) := by omega
      have r3 : (s : Int).toNat = s := Int.toNat_natCast s
      have kc := HC2.out h (by omega) (by omega)
      obtain ⟨x, hx0⟩ : ∃ z, P1 - h = z := ⟨_, rfl⟩
      have rx : (P1 : Int) - (h : Int) = (x : Int) := by omega
      have qx : x ≤ 2000 := by have := HK.out; omega
      have HI2 := hide (show (if (!ltOf cf dk[P1 - h]! dk[h]!) = true then bs (fun h => !ltOf cf dk[P1 - h]! dk[h]!) (h + 1) j else bs (fun h => !ltOf cf dk[P1 - h]! dk[h]!) i h) = I by
        have := HI.out
        rw [bs, dif_pos hlt, hs9, hh] at this
        exact this)
      have Hh := hide hhj
      rw [hx0] at kc
      have hx : x < N := kc.2.1
      have hy : h < N := kc.2.2
      have HP0 := HI2.out
      rw [hx0] at HP0
      have HI2 := hide HP0
      have hx9 : x < dk.size := by rw [HD.out]; exact hx
      have hy9 : h < dk.size := by rw [HD.out]; exact hy
      have hds : dk.size = d0.size := by rw [HD.out]; exact Hs.out
      have bx : (x : Int) < (N : Int) := Int.ofNat_lt.2 hx
      have by_ : (h : Int) < (N : Int) := Int.ofNat_lt.2 hy
      have l1 := fun n os => S1.out.ld R hds Try.prog x hx9 n os
      have l2 := fun n os => S1.out.ld R hds Try.prog h hy9 n os
      have hc := fun n os => S1.out.cmp HC.out hds dk[x]! dk[h]! n os
      have HZ := hide (show ∀ z, cf dk[x]! dk[h]! = z → ltOf cf dk[x]! dk[h]! = decide (z < 0) from fun z h => by rw [← h]; rfl)
      have HP := HI2.out
      obtain ⟨tl, htl⟩ : ∃ t, ltOf cf dk[x]! dk[h]! = t := ⟨_, rfl⟩
      have HI3 := hide (show (if (!tl) = true then bs (fun h => !ltOf cf dk[P1 - h]! dk[h]!) (h + 1) j else bs (fun h => !ltOf cf dk[P1 - h]! dk[h]!) i h) = I by rw [← htl]; exact HP)
      have HT : Hid (∀ z, cf dk[x]! dk[h]! = z → tl = decide (z < 0)) := hide (fun z h => by rw [← htl]; exact HZ.out z h)
      generalize hfp : (fun h : Nat => !ltOf cf dk[P1 - h]! dk[h]!) = fp at *
      generalize enc dk[x]! = cX at l1 hc
      generalize enc dk[h]! = cY at l2 hc
      generalize cf dk[x]! dk[h]! = z at *
      have Htl := hide (HT.out z rfl)
      have HIJ2 := hide kij
      have ex : wrap64 ((P1 : Int) - (h : Int)) = (x : Int) := by rw [rx]; exact w6b (Nat.le_trans qx (by decide))
      have ex' : IntKind.i64.wrap ((P1 : Int) - (h : Int)) = (x : Int) := by rw [rx]; exact w6j (Nat.le_trans qx (by decide))
      clear HP0 kc hx0 rx qx
      clear HI2 HP htl HZ HT hfp HI kij kb hh hs9 hx hy hx9 hy9 hds hlt
      have u1 : wrap64 ((i : Int) + (j : Int)) = (s : Int) := by rw [r1]; exact w6b (Nat.le_trans hhj.2.2.2.1 (by decide))
      have u2 : IntKind.u64.wrap (s : Int) = (s : Int) := So.wU (Nat.le_trans hhj.2.2.2.1 (by decide))
      have u3 : wrap64 (h : Int) = (h : Int) := w6b (Nat.le_trans hhj.2.2.1 (by decide))
      have u4 : wrap64 ((h : Int) + 1) = ((h + 1 : Nat) : Int) := w6b (Nat.le_trans hhj.2.2.2.2 (by decide))
      clear r1 hhj
      go_wp2_with fail
      by_cases hz : z < 0
      · have g2 : decide (z < 0) = true := decide_eq_true hz
        have HI4 := hide (show bs fp i h = I by have := HI3.out; rwa [Htl.out, g2, if_neg (by decide)] at this)
        clear HI3 Htl
        go_quiet_grown (first | (go_at_fn g; refine Calls.grown_of (hc _ _)))
        have S2 := hide (S1.out.grown nq osq)
        clear l1 l2 hc S1
        generalize grow (wr.drewN nq) osq = w2 at *
        go_wp2
        exact ⟨⟨i, h, rfl, by first | rfl | exact congrArg _ u3, hide (by have := HIJ2.out; have := Hh.out; clear u1 u2 u3 u4; omega), HI4, S2⟩, by first | exact So.measM Hh.out.1 Hh.out.2.1 | (rw [u3]; exact So.measM Hh.out.1 Hh.out.2.1)⟩
      · have g2 : decide (z < 0) = false := decide_eq_false hz
        have HI4 := hide (show bs fp (h + 1) j = I by have := HI3.out; rwa [Htl.out, g2, if_pos (by decide)] at this)
        clear HI3 Htl
        go_quiet_grown (first | (go_at_fn g; refine Calls.grown_of (hc _ _)))
        have S2 := hide (S1.out.grown nq osq)
        clear l1 l2 hc S1
        generalize grow (wr.drewN nq) osq = w2 at *
        go_wp2
        exact ⟨⟨h + 1, j, congrArg _ u4, rfl, hide (by have := HIJ2.out; have := Hh.out; clear u1 u2 u3 u4; omega), HI4, S2⟩, by first | (rw [u4]; exact So.measN Hh.out.1 Hh.out.2.1) | exact So.measN Hh.out.1 Hh.out.2.1⟩
    · have hij : i = j := by omega
      subst hij
      have hI : i = I := by have := HI.out; rwa [bs, dif_neg (by omega)] at this
      subst hI
      have g1 : decide ((i : Int) < (i : Int)) = false := decide_eq_false (by omega)
      have g1' : decide (i < i) = false := decide_eq_false (by omega)
      clear hlt kij kb HI HIJ
      have e8 := E8.out
      obtain ⟨t1, ht1⟩ : ∃ t, (decide (i < m) && decide (m < en)) = t := ⟨_, rfl⟩
      obtain ⟨t2, ht2⟩ : ∃ t, (decide (a < i) && decide (i < mid)) = t := ⟨_, rfl⟩
      obtain ⟨t3, ht3⟩ : ∃ t, (decide (mid < en) && decide (en < b)) = t := ⟨_, rfl⟩
      have T1 := hide ht1
      have T2 := hide ht2
      have T3 := hide ht3
      clear ht1 ht2 ht3
      go_upto_region 39 with fail
      simp only [e8]
      clear e8 g1 g1'
      go_cut [185] from 178 to 185 (fun s wx => s = .bool t1 ∧ wx = wr)
      case first =>
        have ht := T1.out
        by_cases h1 : i < m
        · have g1 : decide ((i : Int) < (m : Int)) = true := decide_eq_true (Int.ofNat_lt.2 h1)
          have g1' : decide (i < m) = true := decide_eq_true h1
          rw [decide_eq_true h1, Bool.true_and] at ht
          by_cases h2 : m < en
          · have g2 : decide ((m : Int) < (en : Int)) = true := decide_eq_true (Int.ofNat_lt.2 h2)
            have g2' : decide (m < en) = true := decide_eq_true h2
            rw [decide_eq_true h2] at ht
            subst ht
            clear h1 h2
            go_wp2
            go_meet
            exact ⟨rfl, rfl⟩
          · have g2 : decide ((m : Int) < (en : Int)) = false := decide_eq_false (fun h => h2 (Int.ofNat_lt.1 h))
            have g2' : decide (m < en) = false := decide_eq_false h2
            rw [decide_eq_false h2] at ht
            subst ht
            clear h1 h2
            go_wp2
            go_meet
            exact ⟨rfl, rfl⟩
        · have g1 : decide ((i : Int) < (m : Int)) = false := decide_eq_false (fun h => h1 (Int.ofNat_lt.1 h))
          have g1' : decide (i < m) = false := decide_eq_false h1
          rw [decide_eq_false h1, Bool.false_and] at ht
          subst ht
          clear h1
          go_wp2
          go_meet
          exact ⟨rfl, rfl⟩
      obtain ⟨rfl, rfl⟩ := hcut
      go_upto_if 185 with fail
      go_cut [] from 186 to 191 (fun wx => Hid (SWK enc k w0 blk off Z1 wx))
      case first =>
        cases t1 with
        | false =>
          have hz : dk = Z1 := by
            have := HZ1.out
            rwa [if_neg (fun h => by have := T1.out; rw [decide_eq_true h.1, decide_eq_true h.2] at this; cases this)] at this
          go_wp2
          go_meet
          exact hide (by rw [← hz]; exact S1.out)
        | true =>
          have ht := T1.out
          rw [Bool.and_eq_true, decide_eq_true_eq, decide_eq_true_eq] at ht
          have hz : rot i m en dk = Z1 := by have := HZ1.out; rwa [if_pos ht] at this
          have F2 := hide (FROT.out dk wc HD.out S1.out i m en ht.1 ht.2 HK.out.2.2.1)
          rw [hz, HD.out] at F2
          clear ht hz
          go_wp2_with fail
          (with_reducible refine F2.out.mono ?_)
          rintro e w2 ⟨rfl, h⟩
          have HT := hide h
          clear h F2
          go_wp2
          go_meet
          exact HT
      have HD1 : Hid (Z1.size = N) := hide (by
        rw [← HZ1.out]
        split
        · exact (rotL_size _ _ _ _ _).trans HD.out
        · exact HD.out)
      clear S1 HZ1 T1 FROT
      have S1 := hide hcut.out
      clear hcut
      go_upto_region 41 with fail
      go_cut [199] from 192 to 199 (fun s wx => s = .bool t2 ∧ wx = wc)
      case first =>
        have ht := T2.out
        by_cases h1 : a < i
        · have g1 : decide ((a : Int) < (i : Int)) = true := decide_eq_true (Int.ofNat_lt.2 h1)
          have g1' : decide (a < i) = true := decide_eq_true h1
          rw [decide_eq_true h1, Bool.true_and] at ht
          by_cases h2 : i < mid
          · have g2 : decide ((i : Int) < (mid : Int)) = true := decide_eq_true (Int.ofNat_lt.2 h2)
            have g2' : decide (i < mid) = true := decide_eq_true h2
            rw [decide_eq_true h2] at ht
            subst ht
            clear h1 h2
            go_wp2
            go_meet
            exact ⟨rfl, rfl⟩
          · have g2 : decide ((i : Int) < (mid : Int)) = false := decide_eq_false (fun h => h2 (Int.ofNat_lt.1 h))
            have g2' : decide (i < mid) = false := decide_eq_false h2
            rw [decide_eq_false h2] at ht
            subst ht
            clear h1 h2
            go_wp2
            go_meet
            exact ⟨rfl, rfl⟩
        · have g1 : decide ((a : Int) < (i : Int)) = false := decide_eq_false (fun h => h1 (Int.ofNat_lt.1 h))
          have g1' : decide (a < i) = false := decide_eq_false h1
          rw [decide_eq_false h1, Bool.false_and] at ht
          subst ht
          clear h1
          go_wp2
          go_meet
          exact ⟨rfl, rfl⟩
      obtain ⟨rfl, rfl⟩ := hcut
      go_upto_if 199 with fail
      go_cut [] from 200 to 205 (fun wx => Hid (SWK enc k w0 blk off Z2 wx))
      case first =>
        cases t2 with
        | false =>
          have hz : Z1 = Z2 := by
            have := HZ2.out
            rwa [if_neg (fun h => by have := T2.out; rw [decide_eq_true h.1, decide_eq_true h.2] at this; cases this)] at this
          go_wp2
          go_meet
          exact hide (by rw [← hz]; exact S1.out)
        | true =>
          have ht := T2.out
          rw [Bool.and_eq_true, decide_eq_true_eq, decide_eq_true_eq] at ht
          have hz : symM (ltOf cf) f a i mid Z1 = Z2 := by have := HZ2.out; rwa [if_pos ht] at this
          have F2 := hide (FSYM.out Z1 wc a i mid HK.out.2.2.2.2.2.2.2.1 HD1.out S1.out ht.1 ht.2 HK.out.2.2.2.2.2.2.1)
          rw [hz, HD1.out] at F2
          clear ht hz
          go_wp2_with fail
          (with_reducible refine F2.out.mono ?_)
          rintro e w2 ⟨rfl, h⟩
          have HT := hide h
          clear h F2
          go_wp2
          go_meet
          exact HT
      have HD2 : Hid (Z2.size = N) := hide (by
        rw [← HZ2.out]
        split
        · exact (symM_size _ _ _ _ _ _).trans HD1.out
        · exact HD1.out)
      clear S1 HZ2 T2
      have S1 := hide hcut.out
      clear hcut
      go_upto_region 43 with fail
      go_cut [213] from 206 to 213 (fun s wx => s = .bool t3 ∧ wx = wc)
      case first =>
        have ht := T3.out
        by_cases h1 : mid < en
        · have g1 : decide ((mid : Int) < (en : Int)) = true := decide_eq_true (Int.ofNat_lt.2 h1)
          have g1' : decide (mid < en) = true := decide_eq_true h1
          rw [decide_eq_true h1, Bool.true_and] at ht
          by_cases h2 : en < b
          · have g2 : decide ((en : Int) < (b : Int)) = true := decide_eq_true (Int.ofNat_lt.2 h2)
            have g2' : decide (en < b) = true := decide_eq_true h2
            rw [decide_eq_true h2] at ht
            subst ht
            clear h1 h2
            go_wp2
            go_meet
            exact ⟨rfl, rfl⟩
          · have g2 : decide ((en : Int) < (b : Int)) = false := decide_eq_false (fun h => h2 (Int.ofNat_lt.1 h))
            have g2' : decide (en < b) = false := decide_eq_false h2
            rw [decide_eq_false h2] at ht
            subst ht
            clear h1 h2
            go_wp2
            go_meet
            exact ⟨rfl, rfl⟩
        · have g1 : decide ((mid : Int) < (en : Int)) = false := decide_eq_false (fun h => h1 (Int.ofNat_lt.1 h))
          have g1' : decide (mid < en) = false := decide_eq_false h1
          rw [decide_eq_false h1, Bool.false_and] at ht
          subst ht
          clear h1
          go_wp2
          go_meet
          exact ⟨rfl, rfl⟩
      obtain ⟨rfl, rfl⟩ := hcut
      cases t3 with
      | false =>
        have hz : Z2 = Z := by
          have := HZ.out
          rwa [if_neg (fun h => by have := T3.out; rw [decide_eq_true h.1, decide_eq_true h.2] at this; cases this)] at this
        go_wp2
        first | go_end0 | ((try simp only [Exit.inBlock, Exit.then]); refine bodyPost_ret (results_none rfl _ _ _) rfl ?_)
        exact ⟨rfl, by rw [← hz]; exact S1.out⟩
      | true =>
        have ht := T3.out
        rw [Bool.and_eq_true, decide_eq_true_eq, decide_eq_true_eq] at ht
        have hz : symM (ltOf cf) f mid en b Z2 = Z := by have := HZ.out; rwa [if_pos ht] at this
        have F2 := hide (FSYM.out Z2 wc mid en b HK.out.2.2.2.2.2.2.2.2.1 HD2.out S1.out ht.1 ht.2 HK.out.2.2.2.2.2.2.2.2.2.1)
        rw [hz, HD2.out] at F2
        clear ht hz
        go_wp2_with fail
        (with_reducible refine F2.out.mono ?_)
        rintro e w2 ⟨rfl, h⟩
        have HT := hide h
        clear h F2
        go_wp2
        first | go_end0 | ((try simp only [Exit.inBlock, Exit.then]); refine bodyPost_ret (results_none rfl _ _ _) rfl ?_)
        exact ⟨rfl, HT.out⟩
/-- symMerge of any two stretches. -/
theorem symM_any (zE : ∀ w, (Go.sizeOf 34).run Try.prog w = .ok k w) (eg : ∀ args w, (callFunc g args).run Try.prog w = .ok (.enter g args) w) (hcmp : CmpLays Try.prog g cb enc k cf blk off d0.size w0) (R : RowK enc k w0 blk off d0) : ∀ (f : Nat) (d : Array Fo) (w : World) (a m b cap : Nat), b - a ≤ f → d.size = d0.size → SWK enc k w0 blk off d w → a < m → m < b → b ≤ d.size → d.size ≤ 2000 →
    Calls Try.prog 62 #[.slice (some ⟨blk, off, none⟩) d.size cap, .int .i64 (a : Int), .int .i64 (m : Int), .int .i64 (b : Int), .func (.func g) #[] cb] w fun e w' => e = .returned (.tuple #[]) ∧ SWK enc k w0 blk off (symM (ltOf cf) f a m b d) w' := by
  intro f
  induction f with
  | zero => intro d w a m b cap h _ _ h1 h2; omega
  | succ f ih =>
    intro d w a m b cap hf hs S ham hmb hb hsz
    by_cases h1 : m - a = 1
    · have := sym1_any zE eg hcmp R f d w hs S a m b cap (by omega) hmb hb hsz
      rw [symM, if_pos h1]
      exact this
    · by_cases h2 : b - m = 1
      · have := sym2_any zE eg hcmp R d w hs S a m b cap ham h1 (by omega) hb hsz
        rw [symM, if_neg h1, if_pos h2]
        exact this
      · exact sym3_any zE eg hcmp R f ih d w a m b cap hf hs S ham hmb hb hsz h1 h2
end
end St
end Go.Proofs.Ytjdaoenapmjoeaa
