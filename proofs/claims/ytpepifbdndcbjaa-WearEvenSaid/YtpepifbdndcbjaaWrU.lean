/-
  LAYER 21, CONTRACTS: erase, counted, Add, upTo.
-/
import Derived.Test.YtpepifbdndcbjaaWrA
namespace Go.Proofs.Ytpepifbdndcbjaa
open Go.RowKit
set_option maxRecDepth 8000

theorem own_at21 {W : World} {B n : Nat} {e1 : TypeId} {v : Value} {xs : List Value} (h1 : W.ownsRow B e1 1 v n xs) : ∀ q, v.ownBlock = some q → B ≤ q := by
  intro q hq
  rcases h1.2 with ⟨rfl, _⟩ | ⟨g, cap, cur, rfl, hB, hg, _⟩
  · simp [Value.ownBlock] at hq
  · simp only [Value.ownBlock, Option.some.injEq] at hq
    subst hq
    exact hB
/-- One more of a count, unless it is the greatest one. -/
def incZ (l : List Int) (j : Nat) : List Int := if l.getD j 0 < 65535 then l.set j (l.getD j 0 + 1) else l
theorem incZ_era {l : List Int} {j : Nat} (h : l.getD j 0 < 65535) : incZ l j = eraZ l j := if_pos h
set_option maxHeartbeats 4000000 in
theorem erase21 (g n c j base : Nat) (l : List Int) (w : World) (ho : w.ownsRow base 3 1 (.slice (some ⟨g, 0, none⟩) n c) n (nums .i64 l)) (hn : n = l.length) (hj : j < n) (hbig : n ≤ 1000000) (h0 : 0 ≤ l.getD j 0) :
    Calls Try.prog 26 #[.slice (some ⟨g, 0, none⟩) n c, .int .i64 (j : Int)] w fun e w' => e = .returned (.tuple #[]) ∧ w'.ownsRow base 3 1 (.slice (some ⟨g, 0, none⟩) n c) n (nums .i64 (incZ l j)) ∧ w.grownBy w' (some g) := by
  have hjn : (j : Int) < (n : Int) := by omega
  have hc : w.cell? ⟨g, j, none⟩ = some (.int .i64 (l.getD j 0)) := by rw [ho.cellAt j (by omega)]; exact nums_at .i64 l j (by omega)
  have hf := ho.frozenAt j
  have Ho := hide ho
  have HS := hide (ho.stored j (.int .i64 (l.getD j 0 + 1)))
  rw [nums_set] at HS
  have HI : Hid (incZ l j = if l.getD j 0 < 65535 then l.set j (l.getD j 0 + 1) else l) := hide rfl
  have H0 := hide h0
  clear ho hn h0
  generalize l.getD j 0 = z at *
  by_cases hz : z < 65535
  · have g1 : decide (z < 65535) = true := decide_eq_true hz
    have e1 : wrap64 (z + 1) = z + 1 := by have := H0.out; unfold wrap64; omega
    have hi := HI.out
    rw [if_pos hz] at hi
    rw [hi]
    clear hz HI hi
    go_enter Try.func26, Try.ntmps26
    go_wp2
    go_end0
    exact ⟨rfl, HS.out.1, HS.out.2⟩
  · have g1 : decide (z < 65535) = false := decide_eq_false hz
    have hi := HI.out
    rw [if_neg hz] at hi
    rw [hi]
    clear hz HI hi HS
    go_enter Try.func26, Try.ntmps26
    go_wp2
    go_end0
    exact ⟨rfl, Ho.out, World.grownBy.refl _ _⟩

/-- The counts of the blocks from 0 on. -/
def cntZ (cs : List Int) (m : Nat) : List Int := (List.range m).map fun i : Nat => ofZ cs (i : Int)
theorem cntZ_len (cs : List Int) (m : Nat) : (cntZ cs m).length = m := by simp [cntZ]
theorem cntZ_next (cs : List Int) (m : Nat) : cntZ cs (m + 1) = cntZ cs m ++ [ofZ cs (m : Int)] := by simp [cntZ, List.range_succ]
def cntR (cs : List Int) (m j : Nat) : List Int := cntZ cs j ++ List.replicate (m - j) 0
theorem cntR_len {cs : List Int} {m j : Nat} (h : j ≤ m) : (cntR cs m j).length = m := by simp [cntR, cntZ_len]; omega
theorem cntR_set {cs : List Int} {m j : Nat} (h : j < m) : (cntR cs m j).set j (ofZ cs (j : Int)) = cntR cs m (j + 1) := by
  unfold cntR
  rw [List.set_append_right _ _ (by rw [cntZ_len]; exact Nat.le_refl _), cntZ_len, Nat.sub_self, cntZ_next, show m - j = (m - (j + 1)) + 1 by omega, List.replicate_succ, List.set_cons_zero, List.append_assoc]
  rfl
set_option maxHeartbeats 4000000 in
theorem counted21 (A : Option Addr) (n c m : Nat) (cs : List Int) (w : World) (hl : Lies w w.heap.size A (nums .i64 cs)) (hn : n = cs.length) (hbig : n ≤ 1000000) (hm : m ≤ 2000) :
    Calls Try.prog 27 #[.slice A n c, .int .i64 (m : Int)] w fun e w' => ∃ g, e = .returned (.slice (some ⟨g, 0, none⟩) m m) ∧ w.heap.size ≤ g ∧ w'.ownsRow w.heap.size 3 1 (.slice (some ⟨g, 0, none⟩) m m) m (nums .i64 (cntZ cs m)) ∧ Below w.heap.size w w' := by
  obtain ⟨w1, hmk, hown, hb1, _⟩ := make21 w m hm
  have HO := hide (hown w.heap.size (Nat.le_refl _))
  have HB1 := hide hb1
  have HF := hide (fun W b (hW : Below w.heap.size w W) => of21 A n c w.heap.size cs b W (hl.below hW) hn hbig)
  have Hm := hide hm
  have S0 : Hid (cntR cs m 0 = List.replicate m 0) := hide (by simp [cntR, cntZ])
  clear hown hb1 hl hn hbig
  go_enter Try.func27, Try.ntmps27
  go_wp2
  go_loopw [6, 11] (fun _ i wr => ∃ j : Nat, j ≤ m ∧ i = .int .i64 (j : Int) ∧ Hid (wr.ownsRow w.heap.size 3 1 (.slice (some ⟨w.heap.size, 0, none⟩) m m) m (nums .i64 (cntR cs m j))) ∧ Hid (Below w.heap.size w wr)) (fun _ i _ => m - (intOf i).toNat)
  case atStart => exact ⟨0, Nat.zero_le _, rfl, hide (by rw [S0.out]; exact HO.out), HB1⟩
  case round =>
    clear S0 HO HB1 hmk hm
    obtain ⟨j, hj, rfl, HO, HB⟩ := hrel
    by_cases hlt : j < m
    · have hlt' : (j : Int) < (m : Int) := by omega
      have e7 : wrap64 ((j : Int) + 1) = ((j + 1 : Nat) : Int) := by have := Hm.out; unfold wrap64; omega
      have hcell : wr.cell? ⟨w.heap.size, j, none⟩ = some (.int .i64 ((cntR cs m j).getD j 0)) := by rw [HO.out.cellAt j (by omega)]; exact nums_at .i64 _ j (by rw [cntR_len hj]; exact hlt)
      have hf := HO.out.frozenAt j
      have HS := hide (HO.out.stored j (.int .i64 (ofZ cs (j : Int))))
      rw [nums_set, cntR_set hlt] at HS
      have hcall := HF.out wr (j : Int) HB.out
      generalize ofZ cs (j : Int) = z at *
      generalize (cntR cs m j).getD j 0 = z0 at *
      clear HF
      go_wp2_with fail
      (with_reducible refine hcall.mono ?_); rintro e w' ⟨rfl, rfl⟩
      clear hcall
      go_wp2
      go_roundw
      case rel => exact ⟨j + 1, hlt, congrArg (Value.int .i64) e7, hide HS.out.1, hide (HB.out.grown HS.out.2 HB.out.size (fun q hq => by injection hq with hq; exact Nat.le_of_eq hq))⟩
      case measure => first | exact measT hlt | exact measT2 e7 hlt
    · obtain rfl : j = m := by omega
      have he : cntR cs j j = cntZ cs j := by simp [cntR]
      rw [he] at HO
      clear HF he
      go_wp2
      go_ret
      exact ⟨_, rfl, Nat.le_refl _, HO.out, HB.out⟩
set_option maxHeartbeats 4000000 in
theorem upTo21 (m : Nat) (w : World) (hm : m ≤ 1000) :
    Calls Try.prog 25 #[.int .i64 (m : Int)] w fun e w' => ∃ A c, e = .returned (.slice A m c) ∧ w'.ownsRow w.heap.size 3 1 (.slice A m c) m (nums .i64 (upZ m)) ∧ Below w.heap.size w w' := by
  have Hm := hide hm
  have S0 : Hid (w.ownsRow w.heap.size 3 1 (.slice none 0 0) 0 (nums .i64 (upZ 0))) := hide (World.ownsRow_nil _ _ _ _)
  clear hm
  go_enter Try.func25, Try.ntmps25
  go_wp2
  go_loopw [3, 4, 6] (fun v _ i wr => ∃ (j : Nat) (A : Option Addr) (c : Nat), j ≤ m ∧ v = .slice A j c ∧ i = .int .i64 (j : Int) ∧ Hid (wr.ownsRow w.heap.size 3 1 (.slice A j c) j (nums .i64 (upZ j))) ∧ Hid (Below w.heap.size w wr)) (fun _ _ i _ => m - (intOf i).toNat)
  case atStart => exact ⟨0, none, 0, Nat.zero_le _, rfl, rfl, S0, hide (Below.refl _ _)⟩
  case round =>
    clear S0
    obtain ⟨j, A, c, hj, rfl, rfl, HO, HB⟩ := hrel
    by_cases hlt : j < m
    · have hlt' : (j : Int) < (m : Int) := by omega
      have e7 : wrap64 ((j : Int) + 1) = ((j + 1 : Nat) : Int) := by have := Hm.out; unfold wrap64; omega
      have HA5 := hide ((Below.refl wr.heap.size wr).alloc (Nat.le_refl _) (.cells #[.int .i64 (j : Int)] 3))
      have Hup : Hid (nums .i64 (upZ (j + 1)) = nums .i64 (upZ j) ++ [.int .i64 (j : Int)]) := hide (by rw [upZ_next, nums_app]; rfl)
      go_wp2_with (at_builtin; refine wpl_app _ rfl elems21 (.tmp 9) (.tmp 11) rfl w.heap.size _ j (nums .i64 (upZ j)) rfl (own_keepT HO.out HA5.out) (wr.heap.size + 1) (some ⟨wr.heap.size, 0, none⟩) 1 1 [.int .i64 (j : Int)] rfl (by rfl) (Lies.new wr #[.int .i64 (j : Int)] 3 (0, 0) _ (Nat.lt_succ_self _)) (by simp [Value.oneCell']) (by have := Hm.out; unfold maxLen; omega) (by have := Hm.out; omega) (Nat.le_trans HB.out.size HA5.out.size) ?_; intro A2 c2 w5 hown hg hat; have HO5 := hide hown; have HB5 := hide ((HB.out.trans (HA5.out.mono HB.out.size)).grown hg (Nat.le_trans HB.out.size HA5.out.size) (own_at21 HO.out)); clear hown hg hat)
      go_wp2
      go_roundw
      case rel => exact ⟨j + 1, A2, c2, hlt, rfl, congrArg (Value.int .i64) e7, hide (by rw [Hup.out]; exact HO5.out), HB5⟩
      case measure => first | exact measT hlt | exact measT2 e7 hlt
    · obtain rfl : j = m := by omega
      go_wp2
      go_ret
      exact ⟨A, c, rfl, HO.out, HB.out⟩
end Go.Proofs.Ytpepifbdndcbjaa
