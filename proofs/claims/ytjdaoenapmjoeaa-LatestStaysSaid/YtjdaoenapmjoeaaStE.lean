/-
  A STABLE SORT, walks at finds: stableCmpFunc, SortStableFunc.
-/
import Derived.Test.YtjdaoenapmjoeaaStD
import Derived.Test.YtjdaoenapmjoeaaStA
import Derived.Test.YtjdaoenapmjoeaaShelf
namespace Go.Proofs.Ytjdaoenapmjoeaa
open Go.RowKit Go.Sort
set_option maxRecDepth 8000
namespace St
section
variable {enc : Fo → List Value} {k : Nat} {w0 : World} {blk off : Nat} {d0 : Array Fo} {g : Nat} {cb : Array Value} {cf : Fo → Fo → Int}
theorem insS_size (lt : Fo → Fo → Bool) (a b : Nat) (d : Array Fo) : (Sort.insertionSort lt d a b).size = d.size := by
  unfold Sort.insertionSort
  have h1 : ∀ (a j : Nat) (d : Array Fo), (Sort.insInner lt a j d).size = d.size := by
    intro a j
    induction j with
    | zero => intro d; rw [Sort.insInner]
    | succ j ih =>
      intro d
      rw [Sort.insInner]
      split
      · rw [ih, size_swp]
      · rfl
  have h2 : ∀ (n i : Nat) (d : Array Fo), b - i = n → (Sort.insOuter lt a b i d).size = d.size := by
    intro n
    induction n with
    | zero => intro i d h; rw [Sort.insOuter, if_neg (by omega)]
    | succ n ih => intro i d h; rw [Sort.insOuter, if_pos (by omega), ih _ _ (by omega), h1]
  exact h2 _ _ _ rfl
theorem blkS_size (lt : Fo → Fo → Bool) (n : Nat) : ∀ (f a : Nat) (d : Array Fo), (blkS lt n f a d).size = d.size
  | 0, _, _ => rfl
  | f + 1, a, d => by
    rw [blkS]
    split
    · rw [blkS_size lt n f, insS_size]
    · exact insS_size _ _ _ _
theorem mrg_size (lt : Fo → Fo → Bool) (n s : Nat) : ∀ (f a : Nat) (d : Array Fo), (mrg lt n s f a d).size = d.size
  | 0, _, _ => rfl
  | f + 1, a, d => by
    rw [mrg]
    split
    · rw [mrg_size lt n s f, symM_size]
    · split
      · exact symM_size _ _ _ _ _ _
      · rfl
theorem lvl_size (lt : Fo → Fo → Bool) (n : Nat) : ∀ (f s : Nat) (d : Array Fo), (lvl lt n f s d).size = d.size
  | 0, _, _ => rfl
  | f + 1, s, d => by
    rw [lvl]
    split
    · rw [lvl_size lt n f, mrg_size]
    · rfl
theorem stab_size (lt : Fo → Fo → Bool) (d : Array Fo) : (stab lt d).size = d.size := by
  unfold stab
  rw [lvl_size, blkS_size]
theorem swk_lays {W : World} {dk : Array Fo} (h : SWK enc k w0 blk off dk W) (hC : CmpLays Try.prog g cb enc k cf blk off d0.size w0) (hblk : blk < w0.heap.size) (hs : dk.size = d0.size) : CmpLays Try.prog g cb enc k cf blk off dk.size W := by
  intro m os E hE x y
  obtain ⟨n, os2, e⟩ := h.on hblk m E os (by rw [hE])
  rw [e]
  exact hC n os2 E (by rw [hE, hs]) x y
set_option maxHeartbeats 4000000 in
theorem ins_any (aE : ∀ w, (isAgg 34).run Try.prog w = .ok true w) (zE : ∀ w, (Go.sizeOf 34).run Try.prog w = .ok k w) (eg : ∀ args w, (callFunc g args).run Try.prog w = .ok (.enter g args) w) (hcmp : CmpLays Try.prog g cb enc k cf blk off d0.size w0) (R : RowK enc k w0 blk off d0) (d : Array Fo) (w : World) (hs : d.size = d0.size) (S : SWK enc k w0 blk off d w) (a b cap : Nat) (hab : a ≤ b) (hb : b ≤ d.size) (hsz : d.size ≤ 2000) :
    Calls Try.prog 61 #[.slice (some ⟨blk, off, none⟩) d.size cap, .int .i64 (a : Int), .int .i64 (b : Int), .func (.func g) #[] cb] w fun e w' => e = .returned (.tuple #[]) ∧ SWK enc k w0 blk off (Sort.insertionSort (ltOf cf) d a b) w' := by
  have := AnyQ.insertionSortCmpFunc Try.layInsF k aE zE enc R.hk R.h1 cf g cb blk off cap a b d w eg (swk_lays S hcmp R.hblk hs) (S.holds R.hblk R.hH hs) (S.lt R.hblk) hab hb (by omega)
  change Calls Try.prog 61 _ _ _ at this
  refine this.mono ?_
  rintro e w' ⟨rfl, n, os, rfl⟩
  exact ⟨rfl, S.on R.hblk n _ os (insS_size _ _ _ _)⟩
set_option maxHeartbeats 8000000 in
theorem stable_any (zE : ∀ w, (Go.sizeOf 34).run Try.prog w = .ok k w) (eg : ∀ args w, (callFunc g args).run Try.prog w = .ok (.enter g args) w) (hcmp : CmpLays Try.prog g cb enc k cf blk off d0.size w0) (R : RowK enc k w0 blk off d0) (d : Array Fo) (w : World) (hs : d.size = d0.size) (S : SWK enc k w0 blk off d w) (cap : Nat) (hsz : d.size ≤ 1000) :
    Calls Try.prog 38 #[.slice (some ⟨blk, off, none⟩) d.size cap, .int .i64 (d.size : Int), .func (.func g) #[] cb] w fun e w' => e = .returned (.tuple #[]) ∧ SWK enc k w0 blk off (stab (ltOf cf) d) w' := by
  have aE := Try.isAgg34
  have FI := hide (fun (E : Array Fo) W (he : E.size = d.size) (h : SWK enc k w0 blk off E W) a b (h1 : a ≤ b) (h2 : b ≤ d.size) => ins_any aE zE eg hcmp R E W (by rw [he]; exact hs) h a b cap h1 (by rw [he]; exact h2) (by omega))
  have FS := hide (fun (E : Array Fo) W f a m b (he : E.size = d.size) (h : SWK enc k w0 blk off E W) (h0 : b - a ≤ f) (h1 : a < m) (h2 : m < b) (h3 : b ≤ d.size) => symM_any zE eg hcmp R f E W a m b cap h0 (by rw [he]; exact hs) h h1 h2 (by rw [he]; exact h3) (by omega))
  obtain ⟨Z, hZ⟩ : ∃ Z, stab (ltOf cf) d = Z := ⟨_, rfl⟩
  rw [hZ]
  obtain ⟨Y, hY⟩ : ∃ Y, blkS (ltOf cf) d.size (d.size + 1) 0 d = Y := ⟨_, rfl⟩
  have HY := hide hY
  have HZ : Hid (lvl (ltOf cf) d.size (d.size + 1) 20 Y = Z) := hide (by rw [← hY, ← hZ]; rfl)
  have HYs : Hid (Y.size = d.size) := hide (by rw [← hY, blkS_size])
  have S0 := hide S
  obtain ⟨N, hN⟩ : ∃ N, d.size = N := ⟨_, rfl⟩
  rw [hN] at FI FS HY HZ HYs hsz ⊢
  have HD : Hid (d.size = N) := hide hN
  have HN := hide hsz
  clear hcmp R hs S hsz hZ hY hN aE
  go_enter Try.func38, Try.ntmps38
  go_wp2
  go_loopw [7, 8] (fun s t wr => ∃ (f a b : Nat) (dk : Array Fo), s = .int .i64 (a : Int) ∧ t = .int .i64 (b : Int) ∧ Hid (b = a + 20 ∧ a ≤ N ∧ N < a + f ∧ dk.size = N) ∧ Hid (blkS (ltOf cf) N f a dk = Y) ∧ Hid (SWK enc k w0 blk off dk wr)) (fun s _ _ => N - (intOf s).toNat)
  case atStart => exact ⟨N + 1, 0, 20, d, rfl, rfl, hide ⟨rfl, Nat.zero_le _, by omega, HD.out⟩, HY, S0⟩
  case round =>
    clear S0 HY
    obtain ⟨f, a, b, dk, rfl, rfl, HA, HY, S1⟩ := hrel
    have kA := HA.out
    have kN := HN.out
    cases f with
    | zero => omega
    | succ f =>
    by_cases hlt : b ≤ N
    · have g1 : decide ((b : Int) ≤ (N : Int)) = true := decide_eq_true (Int.ofNat_le.2 hlt)
      have g1' : decide (b ≤ N) = true := decide_eq_true hlt
      obtain ⟨b2, hb2⟩ : ∃ z, b + 20 = z := ⟨_, rfl⟩
      have r1 : (b : Int) + 20 = (b2 : Int) := by omega
      have q1 : b2 ≤ 2000 := by omega
      have F2 := hide (FI.out dk wr kA.2.2.2 S1.out a b (by omega) hlt)
      rw [kA.2.2.2] at F2
      have HY2 := hide (show blkS (ltOf cf) N f b (Sort.insertionSort (ltOf cf) dk a b) = Y by
        have := HY.out
        rw [blkS, if_pos (by omega), ← kA.1] at this
        exact this)
      have HA2 := hide (show b2 = b + 20 ∧ b ≤ N ∧ N < b + f ∧ (Sort.insertionSort (ltOf cf) dk a b).size = N from ⟨hb2.symm, hlt, by omega, by rw [insS_size]; exact kA.2.2.2⟩)
      have Hms := hide (show N - b < N - a by omega)
      generalize Sort.insertionSort (ltOf cf) dk a b = dn at *
      clear HY HA S1 kA kN hlt hb2
      have e1 : wrap64 ((b : Int) + 20) = (b2 : Int) := by rw [r1]; exact w6b (Nat.le_trans q1 (by decide))
      clear r1 q1
      go_wp2_with fail
      (with_reducible refine F2.out.mono ?_)
      rintro e w2 ⟨rfl, h⟩
      have HT := hide h
      clear h F2
      go_wp2
      exact ⟨⟨f, b, b2, dn, rfl, by first | rfl | exact congrArg _ e1, HA2, HY2, HT⟩, Hms.out⟩
    · have g1 : decide ((b : Int) ≤ (N : Int)) = false := decide_eq_false (fun h => hlt (Int.ofNat_le.1 h))
      have g1' : decide (b ≤ N) = false := decide_eq_false hlt
      have F2 := hide (FI.out dk wr kA.2.2.2 S1.out a N kA.2.1 (Nat.le_refl _))
      have hy : Sort.insertionSort (ltOf cf) dk a N = Y := by
        have := HY.out
        rwa [blkS, if_neg (by omega)] at this
      rw [kA.2.2.2, hy] at F2
      clear HY HA S1 kA kN hlt hy FI
      go_wp2_with fail
      (with_reducible refine F2.out.mono ?_)
      rintro e w2 ⟨rfl, h⟩
      have S2 := hide h
      clear h F2
      go_wp2_with fail
      go_loopw [6, 7, 8, 9] (fun s _ _ _ wr => ∃ (f s0 : Nat) (dk : Array Fo), s = .int .i64 (s0 : Int) ∧ Hid (20 ≤ s0 ∧ s0 ≤ 4000 ∧ N < s0 + f ∧ dk.size = N) ∧ Hid (lvl (ltOf cf) N f s0 dk = Z) ∧ Hid (SWK enc k w0 blk off dk wr)) (fun s _ _ _ _ => N - (intOf s).toNat)
      case atStart => exact ⟨N + 1, 20, Y, rfl, hide ⟨Nat.le_refl _, by decide, by omega, HYs.out⟩, HZ, S2⟩
      case round =>
        clear S2 HZ HYs g1 g1'
        obtain ⟨fl, s0, dk, rfl, HA, HZ, S1⟩ := hrel
        have kA := HA.out
        have kN := HN.out
        by_cases hlt : s0 < N
        · have g1 : decide ((s0 : Int) < (N : Int)) = true := decide_eq_true (Int.ofNat_lt.2 hlt)
          have g1' : decide (s0 < N) = true := decide_eq_true hlt
          cases fl with
          | zero => omega
          | succ fl =>
          obtain ⟨s2, hs2⟩ : ∃ z, 2 * s0 = z := ⟨_, rfl⟩
          have r1 : 2 * (s0 : Int) = (s2 : Int) := by omega
          have r1' : (s0 : Int) * 2 = (s2 : Int) := by omega
          have q1 : s2 ≤ 4000 := by omega
          obtain ⟨M, hM⟩ : ∃ M, mrg (ltOf cf) N s0 (N + 1) 0 dk = M := ⟨_, rfl⟩
          have HM := hide hM
          have HZ2 := hide (show lvl (ltOf cf) N fl s2 M = Z by have := HZ.out; rwa [lvl, if_pos hlt, hM, hs2] at this)
          have HMs : Hid (M.size = N) := hide (by rw [← hM, mrg_size]; exact kA.2.2.2)
          have HA2 := hide (show 20 ≤ s2 ∧ s2 ≤ 4000 ∧ N < s2 + fl ∧ M.size = N from ⟨by omega, q1, by omega, HMs.out⟩)
          have Hms := hide (show N - s2 < N - s0 by omega)
          have HS := hide (show 20 ≤ s0 ∧ s0 < N ∧ 2 * s0 = s2 ∧ N ≤ 1000 by omega)
          have HA0 := hide (show s2 = 0 + 2 * s0 ∧ 0 ≤ N ∧ N < 0 + (N + 1) ∧ dk.size = N from ⟨by omega, Nat.zero_le _, by omega, kA.2.2.2⟩)
          clear HZ HA kA kN hlt hs2 hM
          have e1 : wrap64 (2 * (s0 : Int)) = (s2 : Int) := by rw [r1]; exact w6b (Nat.le_trans q1 (by decide))
          have e1' : wrap64 ((s0 : Int) * 2) = (s2 : Int) := by rw [r1']; exact w6b (Nat.le_trans q1 (by decide))
          clear r1 r1' q1
          go_upto_block 4 with fail
          simp only [e1]
          go_cut [7, 8] from 33 to 48 (fun s _ wx => ∃ (a : Nat) (E : Array Fo), s = .int .i64 (a : Int) ∧ Hid (a ≤ N ∧ E.size = N ∧ (if a + s0 < N then symM (ltOf cf) (N - a) a (a + s0) N E else E) = M) ∧ Hid (SWK enc k w0 blk off E wx))
          case first =>
            go_wp2_with fail
            go_loopw [7, 8] (fun s t wy => ∃ (f a b : Nat) (E : Array Fo), s = .int .i64 (a : Int) ∧ t = .int .i64 (b : Int) ∧ Hid (b = a + 2 * s0 ∧ a ≤ N ∧ N < a + f ∧ E.size = N) ∧ Hid (mrg (ltOf cf) N s0 f a E = M) ∧ Hid (SWK enc k w0 blk off E wy)) (fun s _ _ => N - (intOf s).toNat)
            case atStart => exact ⟨N + 1, 0, s2, dk, rfl, by first | rfl | exact congrArg _ e1, HA0, HM, S1⟩
            case round =>
              clear S1 HM HA0
              obtain ⟨f, a, b, E, rfl, rfl, HA, HM, S1⟩ := hrel
              have kA := HA.out
              have kS := HS.out
              cases f with
              | zero => omega
              | succ f =>
              by_cases hlt : b ≤ N
              · have g2 : decide ((b : Int) ≤ (N : Int)) = true := decide_eq_true (Int.ofNat_le.2 hlt)
                have g2' : decide (b ≤ N) = true := decide_eq_true hlt
                obtain ⟨m, hm⟩ : ∃ z, a + s0 = z := ⟨_, rfl⟩
                obtain ⟨b2, hb2⟩ : ∃ z, b + s2 = z := ⟨_, rfl⟩
                have r1 : (a : Int) + (s0 : Int) = (m : Int) := by omega
                have r2 : (b : Int) + (s2 : Int) = (b2 : Int) := by omega
                have q1 : m ≤ 4000 ∧ b2 ≤ 4000 := by omega
                have F2 := hide (FS.out E wr (2 * s0) a m b kA.2.2.2 S1.out (by omega) (by omega) (by omega) hlt)
                rw [kA.2.2.2] at F2
                have HM2 := hide (show mrg (ltOf cf) N s0 f b (symM (ltOf cf) (2 * s0) a m b E) = M by
                  have := HM.out
                  rw [mrg, if_pos (by omega), ← kA.1, hm] at this
                  exact this)
                have HA2 := hide (show b2 = b + 2 * s0 ∧ b ≤ N ∧ N < b + f ∧ (symM (ltOf cf) (2 * s0) a m b E).size = N from ⟨by omega, hlt, by omega, by rw [symM_size]; exact kA.2.2.2⟩)
                have Hms2 := hide (show N - b < N - a by omega)
                generalize symM (ltOf cf) (2 * s0) a m b E = dn at *
                clear HM HA S1 kA kS hlt hb2 hm
                have e2 : wrap64 ((a : Int) + (s0 : Int)) = (m : Int) := by rw [r1]; exact w6b (Nat.le_trans q1.1 (by decide))
                have e3 : wrap64 ((b : Int) + (s2 : Int)) = (b2 : Int) := by rw [r2]; exact w6b (Nat.le_trans q1.2 (by decide))
                clear r1 r2 q1
                go_wp2_with fail
                (with_reducible refine F2.out.mono ?_)
                rintro e w2 ⟨rfl, h⟩
                have HT := hide h
                clear h F2
                go_wp2
                exact ⟨⟨f, b, b2, dn, rfl, by first | rfl | exact congrArg _ e3, HA2, HM2, HT⟩, Hms2.out⟩
              · have g2 : decide ((b : Int) ≤ (N : Int)) = false := decide_eq_false (fun h => hlt (Int.ofNat_le.1 h))
                have g2' : decide (b ≤ N) = false := decide_eq_false hlt
                have HE := hide (show a ≤ N ∧ E.size = N ∧ (if a + s0 < N then symM (ltOf cf) (N - a) a (a + s0) N E else E) = M from ⟨kA.2.1, kA.2.2.2, by
                  have := HM.out
                  rwa [mrg, if_neg (by omega)] at this⟩)
                clear HM HA kA kS hlt
                go_wp2
                go_meet
                exact ⟨a, E, rfl, HE, S1⟩
          clear S1 HM HA0
          obtain ⟨a, E, rfl, HE, S1⟩ := hcut
          have kE := HE.out
          have kS := HS.out
          obtain ⟨m, hm⟩ : ∃ z, a + s0 = z := ⟨_, rfl⟩
          rw [hm] at kE
          have r1 : (a : Int) + (s0 : Int) = (m : Int) := by omega
          have q1 : m ≤ 4000 := by omega
          by_cases hmn : m < N
          · have g2 : decide ((m : Int) < (N : Int)) = true := decide_eq_true (Int.ofNat_lt.2 hmn)
            have g2' : decide (m < N) = true := decide_eq_true hmn
            have hz := kE.2.2
            rw [if_pos hmn] at hz
            have F2 := hide (FS.out E wc (N - a) a m N kE.2.1 S1.out (Nat.le_refl _) (by omega) hmn (Nat.le_refl _))
            rw [kE.2.1, hz] at F2
            clear hz kE kS hm hmn HE S1
            have e2 : wrap64 ((a : Int) + (s0 : Int)) = (m : Int) := by rw [r1]; exact w6b (Nat.le_trans q1 (by decide))
            clear r1 q1
            go_wp2_with fail
            (with_reducible refine F2.out.mono ?_)
            rintro e w2 ⟨rfl, h⟩
            have HT := hide h
            clear h F2
            go_wp2
            exact ⟨⟨fl, s2, M, by first | rfl | exact congrArg _ e1', HA2, HZ2, HT⟩, by first | exact Hms.out | (rw [e1']; exact Hms.out)⟩
          · have g2 : decide ((m : Int) < (N : Int)) = false := decide_eq_false (fun h => hmn (Int.ofNat_lt.1 h))
            have g2' : decide (m < N) = false := decide_eq_false hmn
            have hz := kE.2.2
            rw [if_neg hmn] at hz
            have HT := hide (show SWK enc k w0 blk off M wc by rw [← hz]; exact S1.out)
            clear hz kE kS hm hmn HE S1
            have e2 : wrap64 ((a : Int) + (s0 : Int)) = (m : Int) := by rw [r1]; exact w6b (Nat.le_trans q1 (by decide))
            clear r1 q1
            go_wp2
            exact ⟨⟨fl, s2, M, by first | rfl | exact congrArg _ e1', HA2, HZ2, HT⟩, by first | exact Hms.out | (rw [e1']; exact Hms.out)⟩
        · have g1 : decide ((s0 : Int) < (N : Int)) = false := decide_eq_false (fun h => hlt (Int.ofNat_lt.1 h))
          have g1' : decide (s0 < N) = false := decide_eq_false hlt
          have hst : dk = Z := by
            have := HZ.out
            cases fl with
            | zero => rwa [lvl] at this
            | succ fl => rwa [lvl, if_neg hlt] at this
          clear hlt kA kN
          go_wp2
          go_end0
          exact ⟨rfl, by rw [← hst]; exact S1.out⟩
set_option maxHeartbeats 4000000 in
theorem sortStable_any (zE : ∀ w, (Go.sizeOf 34).run Try.prog w = .ok k w) (eg : ∀ args w, (callFunc g args).run Try.prog w = .ok (.enter g args) w) (hcmp : CmpLays Try.prog g cb enc k cf blk off d0.size w0) (R : RowK enc k w0 blk off d0) (cap : Nat) (hsz : d0.size ≤ 1000) :
    Calls Try.prog 28 #[.slice (some ⟨blk, off, none⟩) d0.size cap, .func (.func g) #[] cb] w0 fun e w' => e = .returned (.tuple #[]) ∧ SWK enc k w0 blk off (stab (ltOf cf) d0) w' := by
  have F := hide (stable_any zE eg hcmp R d0 w0 rfl (SWK.start R.hH) cap hsz)
  generalize stab (ltOf cf) d0 = Z at *
  generalize d0.size = N at *
  clear zE eg hcmp R hsz
  go_enter Try.func28, Try.ntmps28
  go_wp2_with fail
  (with_reducible refine F.out.mono ?_)
  rintro e w2 ⟨rfl, h⟩
  have HT := hide h
  clear h F
  go_wp2
  go_end0
  exact ⟨rfl, HT.out⟩
end
end St
end Go.Proofs.Ytjdaoenapmjoeaa
