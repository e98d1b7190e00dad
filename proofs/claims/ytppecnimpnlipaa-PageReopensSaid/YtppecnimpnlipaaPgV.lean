/-
  The walk of PageTorn.
-/
import Derived.Test.YtppecnimpnlipaaPgA
import Derived.Test.YtppecnimpnlipaaPgQ
import Derived.Test.YtppecnimpnlipaaRd2
import Derived.Test.YtppecnimpnlipaaCov2
import Derived.Test.YtppecnimpnlipaaElem
namespace Go.Proofs.Ytppecnimpnlipaa
open Go.RowKit

theorem strBytesP (W : World) (s : List UInt8) : ∃ c W', (convert 9 40 (.string (str s))).run Try.prog W = .ok (.slice (some ⟨W.heap.size, 0, none⟩) s.length c) W' ∧ s.length ≤ c ∧ Below W.heap.size W W' ∧ Lies W' W'.heap.size (some ⟨W.heap.size, 0, none⟩) (bys s) := by
  have hr := run_bytes_of_string (P := Try.prog) W 9 40 5 (str s) Try.underlying9 Try.underlying40 Try.underlying5
  have hz : (str s).size = s.length := str_size s
  have hcap := grownCap_ge W (str s).size 0 5
  generalize hcp : grownCap W (str s).size 0 5 = cp at hr hcap
  rw [hz] at hr hcap
  refine ⟨_, _, hr, hcap, ((Below.refl _ W).drew).alloc (Nat.le_refl _) _, .inr ⟨_, rfl, by simp, ?_⟩⟩
  intro j u hj
  have hjl : j < s.length := by have := (List.getElem?_eq_some_iff.1 hj).1; rwa [bys_len] at this
  rw [bys_at s j hjl] at hj
  cases hj
  have e : (⟨W.heap.size, 0, none⟩ : Addr).add j = ⟨W.heap.size, j, none⟩ := by unfold Addr.add; split <;> simp_all
  rw [e, show (⟨W.heap.size, j, none⟩ : Addr) = ⟨W.drew.heap.size, j, none⟩ from rfl, World.cell?_alloc_mark, bytesRow_at (str s) _ j (by simpa [str] using hjl)]
  simp [str]
theorem cov_transP {a b c : List UInt8} (h : covB a b = true) (h2 : covB b c = true) : covB a c = true := by
  rw [covB_iff] at *
  exact ⟨h.1.trans h2.1, fun i hi => Nat.le_trans (h2.2 i hi) (h.2 i (by rw [h2.1]; exact hi))⟩
/-- A mask that came in. -/
structure Sl where
  A : Option Addr
  n : Nat
  c : Nat
  l : List UInt8
def Sl.cells (x : Sl) : List Value := [.slice x.A x.n x.c]
theorem Sl.cells_len (x : Sl) : x.cells.length = 1 := rfl
structure Sl.Ok (w : World) (B : Nat) (x : Sl) : Prop where
  lies : Lies w B x.A (bys x.l)
  len : x.n = x.l.length
  cap : x.n ≤ x.c
theorem Sl.Ok.below {w w' : World} {B : Nat} {x : Sl} (h : x.Ok w B) (hb : Below B w w') : x.Ok w' B := ⟨h.lies.below hb, h.len, h.cap⟩
/-- What the loop of PageTorn keeps. -/
structure TornS (w : World) (s : List UInt8) (gs cs j : Nat) (A : Option Addr) (c : Nat) (l : List UInt8) (W : World) : Prop where
  lies : Lies W W.heap.size A (bys l)
  len : l.length = 256
  cap : 256 ≤ c
  start : j = 0 → l = List.replicate 256 255
  cov : 0 < j → covB l s = true
  slies : Lies W W.heap.size (some ⟨gs, 0, none⟩) (bys s)
  slen : s.length = 256
  scap : 256 ≤ cs
  below : Below w.heap.size w W
theorem TornS.later {w W W' : World} {s l : List UInt8} {gs cs j c : Nat} {A : Option Addr} (h : TornS w s gs cs j A c l W) (hb : Below W.heap.size W W') : TornS w s gs cs j A c l W' :=
  ⟨(h.lies.below hb).up hb.size, h.len, h.cap, h.start, h.cov, (h.slies.below hb).up hb.size, h.slen, h.scap, h.below.trans (hb.mono h.below.size)⟩

set_option maxRecDepth 4000 in
set_option maxHeartbeats 4000000 in
theorem torn_off (h : Hd) (d : List UInt8) (Am : Option Addr) (nm cm : Nat) (w : World) (hbad : ¬ (h.May ∧ (d.length : Int) = h.len ∧ nm ≤ 6)) :
    Calls Try.prog 6 #[h.val, .string (str d), .slice Am nm cm] w fun e w' => e = .returned (.bool true) ∧ Below w.heap.size w w' := by
  have Fm := fun W => may15_any h W
  have hx1 : BoxH h w.heap.size (w.alloc (.cells h.cells.toArray 57)) := BoxH.new h w
  have hb1 := (Below.refl w.heap.size w).alloc (Nat.le_refl _) (.cells h.cells.toArray 57)
  have hsz := str_size d
  by_cases hm : h.May
  · rw [decide_eq_true hm] at Fm
    have Fm := hide Fm
    by_cases hd : (d.length : Int) = h.len
    · have h6 : (6 : Int) < (nm : Int) := by
        have : ¬ nm ≤ 6 := fun h6 => hbad ⟨hm, hd, h6⟩
        omega
      rcases h with ⟨kd, ix, ct, bt, op, lp, ln⟩
      simp only at hd
      subst hd
      have hne : ((d.length : Int) != (d.length : Int)) = false := by simp
      generalize d.length = n at *
      have HX := hide hx1
      have HB := hide hb1
      clear hx1 hb1 hbad hm
      unfold Hd.val at *
      unfold Hd.cells at *
      dsimp only at *
      go_enter Try.func6, Try.ntmps6
      go_wp2_with fail
      (with_reducible refine (Fm.out _).mono ?_)
      rintro e w2 ⟨rfl, hb⟩
      have HB2 := hide (HB.out.trans (hb.mono HB.out.size))
      have c6 := (HX.out.below hb HX.out.lt).c 6 _ rfl
      dsimp only at c6
      clear hb
      go_wp2_with fail
      (with_reducible refine (awake15_any _).mono ?_)
      rintro e w3 ⟨rfl, hb⟩
      have HB3 := hide (HB2.out.trans (hb.mono HB2.out.size))
      clear hb
      go_wp2
      go_ret
      exact ⟨rfl, HB3.out⟩
    · rcases h with ⟨kd, ix, ct, bt, op, lp, ln⟩
      simp only at hd
      have hne : ((d.length : Int) != ln) = true := bne_iff_ne.2 hd
      generalize d.length = n at *
      have HX := hide hx1
      have HB := hide hb1
      clear hx1 hb1 hbad hm
      unfold Hd.val at *
      unfold Hd.cells at *
      dsimp only at *
      go_enter Try.func6, Try.ntmps6
      go_wp2_with fail
      (with_reducible refine (Fm.out _).mono ?_)
      rintro e w2 ⟨rfl, hb⟩
      have HB2 := hide (HB.out.trans (hb.mono HB.out.size))
      have c6 := (HX.out.below hb HX.out.lt).c 6 _ rfl
      dsimp only at c6
      clear hb
      go_wp2_with fail
      (with_reducible refine (awake15_any _).mono ?_)
      rintro e w3 ⟨rfl, hb⟩
      have HB3 := hide (HB2.out.trans (hb.mono HB2.out.size))
      clear hb
      go_wp2
      go_ret
      exact ⟨rfl, HB3.out⟩
  · rw [decide_eq_false hm] at Fm
    have Fm := hide Fm
    rcases h with ⟨kd, ix, ct, bt, op, lp, ln⟩
    have HB := hide hb1
    clear hx1 hb1 hbad hm
    unfold Hd.val at *
    unfold Hd.cells at *
    dsimp only at *
    go_enter Try.func6, Try.ntmps6
    go_wp2_with fail
    (with_reducible refine (Fm.out _).mono ?_)
    rintro e w2 ⟨rfl, hb⟩
    have HB2 := hide (HB.out.trans (hb.mono HB.out.size))
    clear hb
    go_wp2_with fail
    (with_reducible refine (awake15_any _).mono ?_)
    rintro e w3 ⟨rfl, hb⟩
    have HB3 := hide (HB2.out.trans (hb.mono HB2.out.size))
    clear hb
    go_wp2
    go_ret
    exact ⟨rfl, HB3.out⟩
end Go.Proofs.Ytppecnimpnlipaa
