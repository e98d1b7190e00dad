/-
  NandDoes: what its loop keeps; Read, the device's and the reference's, by one answer.
-/
import Derived.Test.YtppecnimpnlipaaRd12
import Derived.Test.YtppecnimpnlipaaOLs
namespace Go.Proofs.Ytppecnimpnlipaa
open Go.RowKit
open Go.Sort

/-- Where both devices lie. -/
structure Bl where
  k : Nat
  kb : Nat
  kp : Nat
  km : Nat
  r : Nat
  rp : Nat
  rn : Nat
  rw : Nat
  cp : Nat
  cn : Nat
  cw : Nat
  B0 : Nat
  B : Nat
  C : Nat
def Bl.S (m : Bl) : List Nat := [m.k, m.kb, m.kp, m.r, m.rp, m.rn, m.rw]
/-- The device is D, the reference's device E; the plan is in its box. -/
structure TS (w : World) (q : Pn) (D E : Dv) (m : Bl) (W : World) : Prop where
  dev : DevAt W m.B0 m.B D m.k m.kb m.kp m.km
  ref : RefAt W w.heap.size m.C q E m.r m.rp m.rn m.rw m.cp m.cn m.cw
  far : ∀ b ∈ [m.r, m.rp, m.rn, m.rw], m.B ≤ b
  box : BoxQ q w.heap.size W
  below : Below w.heap.size w W
  pos : w.heap.size < m.B0 ∧ m.B0 ≤ m.B ∧ m.B ≤ m.C ∧ m.C ≤ W.heap.size
  g : D.g = q.g ∧ E.g = q.g
section
variable {w W W' : World} {q : Pn} {D E D' E' : Dv} {m : Bl}
theorem TS.bigB (h : TS w q D E m W) : m.B ≤ W.heap.size := Nat.le_trans h.pos.2.2.1 h.pos.2.2.2
theorem TS.big (h : TS w q D E m W) : w.heap.size < W.heap.size := Nat.lt_of_lt_of_le h.pos.1 (Nat.le_trans h.pos.2.1 h.bigB)
theorem TS.next (h : TS w q D E m W) (hb : Below W.heap.size W W') : TS w q D E m W' :=
  ⟨h.dev.below (hb.mono h.bigB), h.ref.below (hb.mono h.pos.2.2.2), h.far, h.box.below hb h.big, h.below.trans (hb.mono h.below.size), ⟨h.pos.1, h.pos.2.1, h.pos.2.2.1, Nat.le_trans h.pos.2.2.2 hb.size⟩, h.g⟩
theorem TS.high (h : TS w q D E m W) (hb : Below m.C W W') : TS w q D E m W' :=
  ⟨h.dev.below (hb.mono h.pos.2.2.1), h.ref.below hb, h.far, h.box.below hb (Nat.lt_of_lt_of_le h.pos.1 (Nat.le_trans h.pos.2.1 h.pos.2.2.1)), h.below.trans (hb.mono (Nat.le_of_lt (Nat.lt_of_lt_of_le h.pos.1 (Nat.le_trans h.pos.2.1 h.pos.2.2.1)))), ⟨h.pos.1, h.pos.2.1, h.pos.2.2.1, Nat.le_trans h.pos.2.2.2 hb.size⟩, h.g⟩
theorem TS.off (h : TS w q D E m W) {b : Nat} (hb : m.C ≤ b) : b ∉ m.S := by
  have h1 := h.dev.hi
  have h2 := h.ref.hi
  have h3 := h.pos
  unfold Bl.S
  simp only [List.mem_cons, List.not_mem_nil, or_false, not_or]
  omega
theorem TS.dev_step (h : TS w q D E m W) (hd : DevAt W' m.B0 m.B D' m.k m.kb m.kp m.km) (ht : Tch [m.k, m.kb, m.kp] W W') (hg : D'.g = D.g) : TS w q D' E m W' := by
  have h1 := h.dev.lo
  have h2 := h.pos
  have hk : ∀ b ∈ [m.k, m.kb, m.kp], w.heap.size ≤ b := by
    intro b hb
    simp only [List.mem_cons, List.not_mem_nil, or_false] at hb
    omega
  have hn : w.heap.size ∉ [m.k, m.kb, m.kp] := by
    simp only [List.mem_cons, List.not_mem_nil, or_false, not_or]
    omega
  exact ⟨hd, h.ref.other h.pos.2.2.2 ht hk (apart_of h.dev h.far), h.far, (ht.block _ h.big hn).trans h.box, h.below.trans (ht.below h.below.size hk), ⟨h2.1, h2.2.1, h2.2.2.1, Nat.le_trans h2.2.2.2 ht.size⟩, hg.trans h.g.1, h.g.2⟩
theorem TS.ref_step (h : TS w q D E m W) (hr : RefAt W' w.heap.size m.C q E' m.r m.rp m.rn m.rw m.cp m.cn m.cw) (ht : Tch [m.r, m.rp, m.rn, m.rw] W W') (hg : E'.g = E.g) : TS w q D E' m W' := by
  have h2 := h.pos
  have hk : ∀ b ∈ [m.r, m.rp, m.rn, m.rw], w.heap.size ≤ b := fun b hb => by have := h.far b hb; omega
  have hn : w.heap.size ∉ [m.r, m.rp, m.rn, m.rw] := fun hb => by have := h.far _ hb; omega
  exact ⟨h.dev.other h.bigB ht h.far, hr, h.far, (ht.block _ h.big hn).trans h.box, h.below.trans (ht.below h.below.size hk), ⟨h2.1, h2.2.1, h2.2.2.1, Nat.le_trans h2.2.2.2 ht.size⟩, h.g.1, hg.trans h.g.2⟩
theorem TS.cells (h : TS w q D E m W) : W.cell? ⟨w.heap.size, 0, none⟩ = some (.int .i64 (D.nb : Int)) ∧ W.cell? ⟨w.heap.size, 1, none⟩ = some (.int .i64 (D.np : Int)) := by
  obtain ⟨_, _, _, _, h5, h6⟩ := h.dev.sides
  rw [h.g.1] at h5 h6
  exact ⟨by rw [h.box.c 0 _ rfl, h5], by rw [h.box.c 1 _ rfl, h6]⟩
theorem Tch.cellS {S : List Nat} {a b : World} (h : Tch S a b) {p : Addr} {v : Value} (hp : p.block ∉ S) (hc : a.cell? p = some v) : b.cell? p = some v :=
  (World.cell?_of_block (w := a) (a := p) (h.block _ (World.block_lt_of_cell? a p hc) hp)).trans hc
theorem Tch.devS {a b : World} (h : Tch [m.k, m.kb, m.kp] a b) : Tch m.S a b := h.mono fun x hx => by
  unfold Bl.S
  simp only [List.mem_cons, List.not_mem_nil, or_false] at *
  omega
theorem Tch.refS {a b : World} (h : Tch [m.r, m.rp, m.rn, m.rw] a b) : Tch m.S a b := h.mono fun x hx => by
  unfold Bl.S
  simp only [List.mem_cons, List.not_mem_nil, or_false] at *
  omega
end
theorem Pn.Ok.up {w : World} {B B2 : Nat} {q : Pn} (h : q.Ok w B) (hB : B ≤ B2) : q.Ok w B2 := ⟨h.l1.up hB, h.h1, h.l2.up hB, h.h2, fun f hf => ⟨(h.h3 f hf).lies.up hB, (h.h3 f hf).len, (h.h3 f hf).cap, (h.h3 f hf).key⟩⟩
theorem Dv.progR_g (D : Dv) (x y : Int) (b : List UInt8) : (D.progR x y b).2.g = D.g := by
  unfold Dv.progR
  repeat (first | rfl | split)
theorem Dv.progR_ops (D : Dv) (x y : Int) (b : List UInt8) : (D.progR x y b).2.ops ≤ D.ops + 1 := by
  unfold Dv.progR
  split
  · exact Nat.le_succ _
  split
  · exact Nat.le_succ _
  split
  · exact Nat.le_succ _
  split
  · exact Nat.le_succ _
  exact Nat.le_refl _
theorem Dv.eraR_g (D : Dv) (x : Int) : (D.eraR x).2.g = D.g := by
  unfold Dv.eraR
  repeat (first | rfl | split)
theorem Dv.eraR_ops (D : Dv) (x : Int) : (D.eraR x).2.ops ≤ D.ops + 1 := by
  unfold Dv.eraR
  split
  · exact Nat.le_succ _
  split
  · exact Nat.le_succ _
  split
  · exact Nat.le_succ _
  exact Nat.le_refl _

/-- What a read answers. -/
def Dv.readR (D : Dv) (x y : Int) : Int × List UInt8 :=
  if D.dn = true then (9, []) else if ¬ D.g.Has x y then (3, []) else (0, D.pg (x.toNat * D.np + y.toNat))
def ReadPost (D : Dv) (x y : Int) (w : World) (e : Ending) (w' : World) : Prop :=
  ∃ A n c, e = .returned (.tuple #[.slice A n c, .int .i64 (D.readR x y).1]) ∧ Lies w' w'.heap.size A (bys (D.readR x y).2) ∧ n = (D.readR x y).2.length ∧ Below w.heap.size w w'
section
variable {w : World} {B0 B : Nat} {D : Dv} {k kb kp km : Nat} {q : Pn} {r rp rn rw cp cn cw : Nat}
theorem dread_any (h : DevAt w B0 B D k kb kp km) (hB : B ≤ w.heap.size) (x y : Int) :
    Calls Try.prog 20 #[.pointer (some ⟨k, 0, none⟩), .agg #[.int .i64 x, .int .i64 y]] w (ReadPost D x y w) := by
  unfold ReadPost Dv.readR
  by_cases hd : D.dn = true
  · rw [if_pos hd]
    exact (read_down h hB x y hd).mono fun e w' ⟨he, hb⟩ => ⟨_, _, _, he, .inl rfl, rfl, hb⟩
  rw [if_neg hd]
  have hd2 : D.dn = false := by simpa using hd
  by_cases hh : D.g.Has x y
  · rw [if_neg (not_not_intro hh)]
    obtain ⟨i, j, rfl, rfl, hi, hj⟩ := Gm.Has.nats ⟨h.sides.2.2.2.2.1, h.sides.2.2.2.2.2⟩ hh
    rw [Int.toNat_natCast, Int.toNat_natCast]
    exact (read_ok h hB i j hd2 hi hj).mono fun e w' ⟨A, c, he, ho, hb⟩ => ⟨_, _, _, he, (LiesT.of_own ho).lies, (h.plen _ (lt_mul hi hj)).symm, hb⟩
  · rw [if_pos hh]
    exact (read_out h hB x y hd2 hh).mono fun e w' ⟨he, hb⟩ => ⟨_, _, _, he, .inl rfl, rfl, hb⟩
theorem rread_any (h : RefAt w B0 B q D r rp rn rw cp cn cw) (hB : B ≤ w.heap.size) (x y : Int) :
    Calls Try.prog 21 #[.pointer (some ⟨r, 0, none⟩), .agg #[.int .i64 x, .int .i64 y]] w fun e w' => e = .returned (.tuple #[.string (str (D.readR x y).2), .int .i64 (D.readR x y).1]) ∧ Below w.heap.size w w' := by
  unfold Dv.readR
  by_cases hd : D.dn = true
  · rw [if_pos hd]
    exact rread_down h hd x y
  rw [if_neg hd]
  have hd2 : D.dn = false := by simpa using hd
  by_cases hh : D.g.Has x y
  · rw [if_neg (not_not_intro hh)]
    obtain ⟨i, j, rfl, rfl, hi, hj⟩ := Gm.Has.nats ⟨h.sides.2.2.2.2.1, h.sides.2.2.2.2.2⟩ hh
    rw [Int.toNat_natCast, Int.toNat_natCast]
    exact rread_ok h hB hd2 i j hi hj
  · rw [if_pos hh]
    exact rread_out h hB hd2 x y hh
end
/-- The states of a program done by both: bytes made, the device programmed, bytes made, the reference programmed. -/
def PhiD (w w8 : World) (q : Pn) (D D2 : Dv) (m : Bl) (l : List UInt8) (i : Nat) (f : Nat → Value) (W : World) : Prop :=
  Tch m.S w8 W ∧ ((i = 0 ∧ TS w q D D m W) ∨ (i = 1 ∧ TS w q D D m W ∧ ∃ A c, f 141 = .slice A 256 c ∧ LiesT W W.heap.size A l) ∨ (i = 2 ∧ TS w q D2 D m W) ∨ (i = 3 ∧ TS w q D2 D m W ∧ ∃ A c, f 147 = .slice A 256 c ∧ LiesT W W.heap.size A l) ∨ (4 ≤ i ∧ TS w q D2 D2 m W))
theorem PhiD.loc (w w8 : World) (q : Pn) (D D2 : Dv) (m : Bl) (l : List UInt8) : ∀ i f g W, (∀ t ∈ [141, 147], f t = g t) → PhiD w w8 q D D2 m l i f W → PhiD w w8 q D D2 m l i g W := by
  intro i f g W h hΦ
  have h1 := h 141 (by simp)
  have h2 := h 147 (by simp)
  unfold PhiD at *
  rw [← h1, ← h2]
  exact hΦ
section
variable {w w8 W : World} {q : Pn} {D D2 : Dv} {m : Bl} {l : List UInt8} {f : Nat → Value}
theorem PhiD.at0 (h : PhiD w w8 q D D2 m l 0 f W) : TS w q D D m W := by
  obtain ⟨_, h⟩ := h
  rcases h with ⟨_, h⟩ | ⟨h, _⟩ | ⟨h, _⟩ | ⟨h, _⟩ | ⟨h, _⟩
  · exact h
  all_goals exact absurd h (by decide)
theorem PhiD.at1 (h : PhiD w w8 q D D2 m l 1 f W) : TS w q D D m W ∧ ∃ A c, f 141 = .slice A 256 c ∧ LiesT W W.heap.size A l := by
  obtain ⟨_, h⟩ := h
  rcases h with ⟨h, _⟩ | ⟨_, h⟩ | ⟨h, _⟩ | ⟨h, _⟩ | ⟨h, _⟩
  · exact absurd h (by decide)
  · exact h
  all_goals exact absurd h (by decide)
theorem PhiD.at2 (h : PhiD w w8 q D D2 m l 2 f W) : TS w q D2 D m W := by
  obtain ⟨_, h⟩ := h
  rcases h with ⟨h, _⟩ | ⟨h, _⟩ | ⟨_, h⟩ | ⟨h, _⟩ | ⟨h, _⟩
  · exact absurd h (by decide)
  · exact absurd h (by decide)
  · exact h
  all_goals exact absurd h (by decide)
theorem PhiD.at3 (h : PhiD w w8 q D D2 m l 3 f W) : TS w q D2 D m W ∧ ∃ A c, f 147 = .slice A 256 c ∧ LiesT W W.heap.size A l := by
  obtain ⟨_, h⟩ := h
  rcases h with ⟨h, _⟩ | ⟨h, _⟩ | ⟨h, _⟩ | ⟨_, h⟩ | ⟨h, _⟩
  · exact absurd h (by decide)
  · exact absurd h (by decide)
  · exact absurd h (by decide)
  · exact h
  · exact absurd h (by decide)
theorem PhiD.at4 (h : PhiD w w8 q D D2 m l 4 f W) : TS w q D2 D2 m W := by
  obtain ⟨_, h⟩ := h
  rcases h with ⟨h, _⟩ | ⟨h, _⟩ | ⟨h, _⟩ | ⟨h, _⟩ | ⟨_, h⟩
  · exact absurd h (by decide)
  · exact absurd h (by decide)
  · exact absurd h (by decide)
  · exact absurd h (by decide)
  · exact h
end
/-- The states of an erase done by both. -/
def PhiX (w w8 : World) (q : Pn) (D D2 : Dv) (m : Bl) (i : Nat) (_f : Nat → Value) (W : World) : Prop :=
  Tch m.S w8 W ∧ ((i = 0 ∧ TS w q D D m W) ∨ (i = 1 ∧ TS w q D2 D m W) ∨ (2 ≤ i ∧ TS w q D2 D2 m W))
theorem PhiX.loc (w w8 : World) (q : Pn) (D D2 : Dv) (m : Bl) : ∀ i f g W, (∀ t ∈ ([] : List Nat), f t = g t) → PhiX w w8 q D D2 m i f W → PhiX w w8 q D D2 m i g W :=
  fun _ _ _ _ _ hΦ => hΦ
section
variable {w w8 W : World} {q : Pn} {D D2 : Dv} {m : Bl} {f : Nat → Value}
theorem PhiX.at0 (h : PhiX w w8 q D D2 m 0 f W) : TS w q D D m W := by
  obtain ⟨_, h⟩ := h
  rcases h with ⟨_, h⟩ | ⟨h, _⟩ | ⟨h, _⟩
  · exact h
  all_goals exact absurd h (by decide)
theorem PhiX.at1 (h : PhiX w w8 q D D2 m 1 f W) : TS w q D2 D m W := by
  obtain ⟨_, h⟩ := h
  rcases h with ⟨h, _⟩ | ⟨_, h⟩ | ⟨h, _⟩
  · exact absurd h (by decide)
  · exact h
  · exact absurd h (by decide)
theorem PhiX.at2 (h : PhiX w w8 q D D2 m 2 f W) : TS w q D2 D2 m W := by
  obtain ⟨_, h⟩ := h
  rcases h with ⟨h, _⟩ | ⟨h, _⟩ | ⟨_, h⟩
  · exact absurd h (by decide)
  · exact absurd h (by decide)
  · exact h
end
end Go.Proofs.Ytppecnimpnlipaa
