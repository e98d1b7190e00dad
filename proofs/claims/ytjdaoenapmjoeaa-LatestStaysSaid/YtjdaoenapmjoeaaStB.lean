/-
  A STABLE SORT, walks at finds: swapRangeCmpFunc, rotateCmpFunc.
-/
import Derived.Test.YtjdaoenapmjoeaaStM
import Derived.Test.YtjdaoenapmjoeaaLtM
import Derived.Test.YtjdaoenapmjoeaaSoC
import Derived.Sort.WalkB2
import Derived.Sort.WalkB12
namespace Go.Proofs.Ytjdaoenapmjoeaa
open Go.RowKit Go.Sort
set_option maxRecDepth 8000
namespace St
section
variable {enc : Fo → List Value} {k : Nat} {w0 : World} {blk off : Nat} {d0 : Array Fo}
theorem w6b {x : Nat} (h : x ≤ 100000) : wrap64 (x : Int) = (x : Int) := by unfold wrap64; omega
theorem w6j {x : Nat} (h : x ≤ 100000) : IntKind.i64.wrap (x : Int) = (x : Int) := IntWalk.i64_in _ (by omega)
set_option maxHeartbeats 4000000 in
theorem swapRange_any (zE : ∀ w, (Go.sizeOf 34).run Try.prog w = .ok k w) (R : RowK enc k w0 blk off d0) (d : Array Fo) (w : World) (hs : d.size = d0.size) (S : SWK enc k w0 blk off d w) (a b n cap : Nat) (ha : a + n ≤ d.size) (hb : b + n ≤ d.size) (hsz : d.size ≤ 2000) (fv : Value) :
    Calls Try.prog 75 #[.slice (some ⟨blk, off, none⟩) d.size cap, .int .i64 (a : Int), .int .i64 (b : Int), .int .i64 (n : Int), fv] w fun e w' => e = .returned (.tuple #[]) ∧ SWK enc k w0 blk off (swapR a b n 0 d) w' := by
  have aE := Try.isAgg34
  have mixed : Try.prog.follows .mixedOrders = true := by kernel_rfl
  have S0 := hide S
  have HB := hide (show a + n ≤ d.size ∧ b + n ≤ d.size ∧ d.size ≤ 2000 from ⟨ha, hb, hsz⟩)
  obtain ⟨Z, hZ⟩ : ∃ Z, swapR a b n 0 d = Z := ⟨_, rfl⟩
  rw [hZ]
  have HZ := hide hZ
  have Hs := hide hs
  obtain ⟨N, hN⟩ : ∃ N, d.size = N := ⟨_, rfl⟩
  rw [hN] at HB Hs ⊢
  have HN := hide hN
  clear ha hb hsz S hZ hs hN
  go_enter Try.func75, Try.ntmps75
  go_wp2
  go_loopw [10] (fun s wr => ∃ (i : Nat) (dk : Array Fo), i ≤ n ∧ s = .int .i64 (i : Int) ∧ Hid (dk.size = N ∧ swapR a b (n - i) i dk = Z) ∧ Hid (SWK enc k w0 blk off dk wr)) (fun s _ => n - (intOf s).toNat)
  case atStart => exact ⟨0, d, Nat.zero_le _, rfl, hide ⟨HN.out, HZ.out⟩, S0⟩
  case round =>
    clear S0 HZ
    obtain ⟨i, dk, hi, rfl, HD, S1⟩ := hrel
    by_cases hlt : i < n
    · have hlt' : (i : Int) < (n : Int) := by omega
      have kb := HB.out
      obtain ⟨x, hx⟩ : ∃ x, a + i = x := ⟨_, rfl⟩
      obtain ⟨y, hy⟩ : ∃ y, b + i = y := ⟨_, rfl⟩
      have hxN : x < N := by omega
      have hyN : y < N := by omega
      have hx2 : x ≤ 2000 := by omega
      have hy2 : y ≤ 2000 := by omega
      have k1 : (a : Int) + (i : Int) = (x : Int) := by omega
      have k2 : (b : Int) + (i : Int) = (y : Int) := by omega
      have px : (0 : Int) ≤ (x : Int) := by omega
      have py : (0 : Int) ≤ (y : Int) := by omega
      have bx : (x : Int) < (N : Int) := by omega
      have by_ : (y : Int) < (N : Int) := by omega
      have HD2 := hide (show (swp dk x y).size = N ∧ swapR a b (n - (i + 1)) (i + 1) (swp dk x y) = Z from ⟨by rw [size_swp]; exact HD.out.1, by
        have := HD.out.2
        rw [show n - i = (n - (i + 1)) + 1 by omega, swapR, hx, hy] at this
        exact this⟩)
      have q7 : i + 1 ≤ 2000 := by omega
      have e7 : wrap64 ((i : Int) + 1) = ((i + 1 : Nat) : Int) := w6b (Nat.le_trans q7 (by decide))
      clear q7
      have hk1 : x < dk.size := by rw [HD.out.1]; exact hxN
      have hk2 : y < dk.size := by rw [HD.out.1]; exact hyN
      have hds : dk.size = d0.size := by rw [HD.out.1]; exact Hs.out
      have ra : wrap64 ((a : Int) + (i : Int)) = (x : Int) := by rw [k1]; exact w6b (Nat.le_trans hx2 (by decide))
      have rb : wrap64 ((b : Int) + (i : Int)) = (y : Int) := by rw [k2]; exact w6b (Nat.le_trans hy2 (by decide))
      have ra' : IntKind.i64.wrap ((a : Int) + (i : Int)) = (x : Int) := by rw [k1]; exact w6j (Nat.le_trans hx2 (by decide))
      have rb' : IntKind.i64.wrap ((b : Int) + (i : Int)) = (y : Int) := by rw [k2]; exact w6j (Nat.le_trans hy2 (by decide))
      have S2 : Aside (SWK enc k w0 blk off (swp dk x y) ((wr.drew.setCells blk (off + x * k) (enc dk[y]!)).setCells blk (off + y * k) (enc dk[x]!))) := S1.out.swapped R x y hk1 hk2
      have l1 := S1.out.ld1 R hds Try.prog x hk1
      have l2 := S1.out.ld1 R hds Try.prog y hk2
      have s1 := S1.out.st1 R hds Try.prog x hk1 dk[y]!
      have s2 := S1.out.st2 R hds Try.prog x y hk1 hk2 dk[y]! dk[x]!
      have n1 : (enc dk[x]!).length = k := R.hk _
      have n2 : (enc dk[y]!).length = k := R.hk _
      generalize enc dk[x]! = cX at S2 l1 s2 n1
      generalize enc dk[y]! = cY at S2 l2 s1 s2 n2
      have Hlt := hide hlt
      clear S1 HD hx hy hxN hyN hx2 hy2 k1 k2 hk1 hk2 hds kb hlt hi
      go_wp2_with fail
      go_big_region_o
      clear l1 l2 s1 s2 n1 n2
      generalize (wr.drew.setCells blk (off + x * k) cY).setCells blk (off + y * k) cX = w2 at S2 ⊢
      have S3 : Hid (SWK enc k w0 blk off (swp dk x y) w2) := S2
      clear S2 ra rb ra' rb'
      go_wp2
      exact ⟨⟨i + 1, _, Hlt.out, congrArg _ e7, HD2, S3⟩, by rw [e7]; exact So.measS Hlt.out⟩
    · obtain rfl : i = n := by omega
      have hst : dk = Z := by have := HD.out.2; rwa [Nat.sub_self, swapR] at this
      go_wp2
      go_end0
      exact ⟨rfl, by rw [← hst]; exact S1.out⟩
set_option maxHeartbeats 4000000 in
theorem rotate_any (zE : ∀ w, (Go.sizeOf 34).run Try.prog w = .ok k w) (R : RowK enc k w0 blk off d0) (d : Array Fo) (w : World) (hs : d.size = d0.size) (S : SWK enc k w0 blk off d w) (a m b cap : Nat) (ham : a < m) (hmb : m < b) (hb : b ≤ d.size) (hsz : d.size ≤ 2000) (fv : Value) :
    Calls Try.prog 72 #[.slice (some ⟨blk, off, none⟩) d.size cap, .int .i64 (a : Int), .int .i64 (m : Int), .int .i64 (b : Int), fv] w fun e w' => e = .returned (.tuple #[]) ∧ SWK enc k w0 blk off (rot a m b d) w' := by
  obtain ⟨Z, hZ⟩ : ∃ Z, rot a m b d = Z := ⟨_, rfl⟩
  rw [hZ]
  have S0 := hide S
  have Hs := hide hs
  obtain ⟨N, hN⟩ : ∃ N, d.size = N := ⟨_, rfl⟩
  have F := hide (fun (E : Array Fo) W (he : E.size = N) (h : SWK enc k w0 blk off E W) x y n (h1 : x + n ≤ N) (h2 : y + n ≤ N) => swapRange_any zE R E W (by rw [he, ← hN]; exact hs) h x y n cap (by rw [he]; exact h1) (by rw [he]; exact h2) (by rw [he, ← hN]; exact hsz) fv)
  rw [hN] at Hs ⊢
  obtain ⟨i0, hi0⟩ : ∃ i, m - a = i := ⟨_, rfl⟩
  obtain ⟨j0, hj0⟩ : ∃ j, b - m = j := ⟨_, rfl⟩
  have HB := hide (show m < N ∧ N ≤ 2000 by omega)
  have HS := hide (show 0 < i0 ∧ 0 < j0 ∧ i0 ≤ m ∧ m + j0 ≤ N ∧ i0 + j0 ≤ b - a ∧ d.size = N by omega)
  have HZ : Hid (rotL m (b - a) i0 j0 d = Z) := hide (by rw [← hZ, ← hi0, ← hj0]; rfl)
  have r1 : (m : Int) - (a : Int) = (i0 : Int) := by omega
  have r2 : (b : Int) - (m : Int) = (j0 : Int) := by omega
  have q1 : i0 ≤ 2000 ∧ j0 ≤ 2000 := by omega
  generalize b - a = f0 at *
  clear ham hmb hb hsz S hZ hs hN hi0 hj0
  have e1 : wrap64 ((m : Int) - (a : Int)) = (i0 : Int) := by rw [r1]; exact w6b (Nat.le_trans q1.1 (by decide))
  have e2 : wrap64 ((b : Int) - (m : Int)) = (j0 : Int) := by rw [r2]; exact w6b (Nat.le_trans q1.2 (by decide))
  clear r1 r2 q1
  go_enter Try.func72, Try.ntmps72
  go_wp2_with fail
  go_loopw [10, 11] (fun s t wr => ∃ (f i j : Nat) (dk : Array Fo), s = .int .i64 (i : Int) ∧ t = .int .i64 (j : Int) ∧ Hid (0 < i ∧ 0 < j ∧ i ≤ m ∧ m + j ≤ N ∧ i + j ≤ f ∧ dk.size = N) ∧ Hid (rotL m f i j dk = Z) ∧ Hid (SWK enc k w0 blk off dk wr)) (fun s t _ => (intOf s).toNat + (intOf t).toNat)
  case atStart => exact ⟨f0, i0, j0, d, by first | rfl | exact congrArg _ e1, by first | rfl | exact congrArg _ e2, HS, HZ, S0⟩
  case round =>
    clear S0 HZ HS e1 e2
    obtain ⟨f, i, j, dk, rfl, rfl, HS, HZ, S1⟩ := hrel
    have q := HS.out
    have kb := HB.out
    cases f with
    | zero => omega
    | succ f =>
    by_cases hij : i = j
    · subst hij
      have HZ2 := hide (show swapR (m - i) m i 0 dk = Z by have := HZ.out; rwa [rotL, if_pos rfl] at this)
      obtain ⟨mi, hmi⟩ : ∃ z, m - i = z := ⟨_, rfl⟩
      have r1 : (m : Int) - (i : Int) = (mi : Int) := by omega
      have q1 : mi ≤ 2000 := by omega
      rw [hmi] at HZ2
      have F2 := hide (F.out dk wr q.2.2.2.2.2 S1.out mi m i (by omega) (by omega))
      rw [q.2.2.2.2.2, HZ2.out] at F2
      have g1 : ((i : Int) != (i : Int)) = false := by simp
      clear q kb hmi S1 HZ HZ2 F HS
      have e3 : wrap64 ((m : Int) - (i : Int)) = (mi : Int) := by rw [r1]; exact w6b (Nat.le_trans q1 (by decide))
      clear r1 q1
      go_wp2_with fail
      (with_reducible refine F2.out.mono ?_)
      rintro e w2 ⟨rfl, h⟩
      have HT := hide h
      clear h F2
      go_wp2
      go_end0
      exact ⟨rfl, HT.out⟩
    · have g1 : ((i : Int) != (j : Int)) = true := bne_iff_ne.2 (by omega)
      by_cases hlt : j < i
      · have HZ2 := hide (show rotL m f (i - j) j (swapR (m - i) m j 0 dk) = Z by have := HZ.out; rwa [rotL, if_neg hij, if_pos hlt] at this)
        obtain ⟨mi, hmi⟩ : ∃ z, m - i = z := ⟨_, rfl⟩
        obtain ⟨i2, hi2⟩ : ∃ z, i - j = z := ⟨_, rfl⟩
        have r1 : (m : Int) - (i : Int) = (mi : Int) := by omega
        have r2 : (i : Int) - (j : Int) = (i2 : Int) := by omega
        have q1 : mi ≤ 2000 ∧ i2 ≤ 2000 := by omega
        rw [hmi, hi2] at HZ2
        have F2 := hide (F.out dk wr q.2.2.2.2.2 S1.out mi m j (by omega) (by omega))
        rw [q.2.2.2.2.2] at F2
        have HS2 := hide (show 0 < i2 ∧ 0 < j ∧ i2 ≤ m ∧ m + j ≤ N ∧ i2 + j ≤ f ∧ (swapR mi m j 0 dk).size = N from ⟨by omega, by omega, by omega, by omega, by omega, by rw [swapR_size]; exact q.2.2.2.2.2⟩)
        have Hms := hide (show i2 + j < i + j by omega)
        have g2 : decide ((j : Int) < (i : Int)) = true := decide_eq_true (by omega)
        have g2' : decide (j < i) = true := decide_eq_true hlt
        generalize swapR mi m j 0 dk = dn at *
        clear q kb hmi hi2 S1 HZ F HS hij hlt
        have e3 : wrap64 ((m : Int) - (i : Int)) = (mi : Int) := by rw [r1]; exact w6b (Nat.le_trans q1.1 (by decide))
        have e4 : wrap64 ((i : Int) - (j : Int)) = (i2 : Int) := by rw [r2]; exact w6b (Nat.le_trans q1.2 (by decide))
        clear r1 r2 q1
        go_wp2_with fail
        (with_reducible refine F2.out.mono ?_)
        rintro e w2 ⟨rfl, h⟩
        have HT := hide h
        clear h F2
        go_wp2
        exact ⟨⟨f, i2, j, dn, congrArg _ e4, rfl, HS2, HZ2, HT⟩, by rw [e4]; exact Hms.out⟩
      · have HZ2 := hide (show rotL m f i (j - i) (swapR (m - i) (m + j - i) i 0 dk) = Z by have := HZ.out; rwa [rotL, if_neg hij, if_neg hlt] at this)
        obtain ⟨mi, hmi⟩ : ∃ z, m - i = z := ⟨_, rfl⟩
        obtain ⟨mj, hmj⟩ : ∃ z, m + j = z := ⟨_, rfl⟩
        obtain ⟨mk, hmk⟩ : ∃ z, mj - i = z := ⟨_, rfl⟩
        obtain ⟨j2, hj2⟩ : ∃ z, j - i = z := ⟨_, rfl⟩
        have r1 : (m : Int) - (i : Int) = (mi : Int) := by omega
        have r2 : (j : Int) - (i : Int) = (j2 : Int) := by omega
        have r3 : (m : Int) + (j : Int) = (mj : Int) := by omega
        have r4 : (mj : Int) - (i : Int) = (mk : Int) := by omega
        have q1 : mi ≤ 2000 ∧ j2 ≤ 2000 ∧ mj ≤ 2000 ∧ mk ≤ 2000 := by omega
        rw [hmi, hj2, hmj, hmk] at HZ2
        have F2 := hide (F.out dk wr q.2.2.2.2.2 S1.out mi mk i (by omega) (by omega))
        rw [q.2.2.2.2.2] at F2
        have HS2 := hide (show 0 < i ∧ 0 < j2 ∧ i ≤ m ∧ m + j2 ≤ N ∧ i + j2 ≤ f ∧ (swapR mi mk i 0 dk).size = N from ⟨by omega, by omega, by omega, by omega, by omega, by rw [swapR_size]; exact q.2.2.2.2.2⟩)
        have Hms := hide (show i + j2 < i + j by omega)
        have g2 : decide ((j : Int) < (i : Int)) = false := decide_eq_false (by omega)
        have g2' : decide (j < i) = false := decide_eq_false hlt
        generalize swapR mi mk i 0 dk = dn at *
        clear q kb hmi hmj hmk hj2 S1 HZ F HS hij hlt
        have e3 : wrap64 ((m : Int) - (i : Int)) = (mi : Int) := by rw [r1]; exact w6b (Nat.le_trans q1.1 (by decide))
        have e4 : wrap64 ((j : Int) - (i : Int)) = (j2 : Int) := by rw [r2]; exact w6b (Nat.le_trans q1.2.1 (by decide))
        have e5 : wrap64 ((m : Int) + (j : Int)) = (mj : Int) := by rw [r3]; exact w6b (Nat.le_trans q1.2.2.1 (by decide))
        have e6 : wrap64 ((mj : Int) - (i : Int)) = (mk : Int) := by rw [r4]; exact w6b (Nat.le_trans q1.2.2.2 (by decide))
        clear r1 r2 r3 r4 q1
        go_wp2_with fail
        (with_reducible refine F2.out.mono ?_)
        rintro e w2 ⟨rfl, h⟩
        have HT := hide h
        clear h F2
        go_wp2
        exact ⟨⟨f, i, j2, dn, rfl, congrArg _ e4, HS2, HZ2, HT⟩, by rw [e4]; exact Hms.out⟩
end
end St
end Go.Proofs.Ytjdaoenapmjoeaa
