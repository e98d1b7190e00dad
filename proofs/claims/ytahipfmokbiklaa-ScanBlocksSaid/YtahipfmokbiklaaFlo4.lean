/-
  THE REFERENCE OF LAYER 14: a new device, as RefAt.
  LAYER 14: Program, Erase and Read of the device, by one answer. (Cut out of Rd11 and Ds.)
  LAYER 14: Program and Erase, the device's and the reference's, by one answer.
  LAYER 14: the device and the reference's device lie apart.
  NandDoes: what its loop keeps; Read, the device's and the reference's, by one answer.
  CONTRACT of bytes.Equal.
  A REGION THAT DRAWS ITS ORDER, whose operations each keep a promise in whatever comes later (Flow), with ITS WHOLE FRAME at the end. Nothing here speaks of one program.
-/
import Derived.Test.YtahipfmokbiklaaRd9
import Derived.Test.YtahipfmokbiklaaDev6
import Derived.Test.YtahipfmokbiklaaRd2
import Derived.Test.YtahipfmokbiklaaOLs
import Derived.Test.YtahipfmokbiklaaBits
import Derived.Test.YtahipfmokbiklaaOnes
import Derived.Test.YtahipfmokbiklaaFlo2
import Derived.Test.YtahipfmokbiklaaPlan
namespace Go.Proofs.Ytahipfmokbiklaa
section
open Go.RowKit
open Go.Sort

theorem own_formC {W : World} {base n : Nat} {t : TypeId} {v : Value} {xs : List Value} (h : W.ownsRow base t 1 v n xs) (hn : 0 < n) : ∃ g c, v = .slice (some ⟨g, 0, none⟩) n c ∧ base ≤ g ∧ RowC W g t n (fun i => xs.getD i undef) := by
  rcases h.2 with ⟨_, h0⟩ | ⟨g, cap, cur, hv, hb, hg, hc⟩
  · omega
  · subst hv
    obtain ⟨g2, hA, _, hb2, hr⟩ := RowC.of_own h hn
    cases hA
    exact ⟨g, cap, rfl, hb, hr⟩
theorem getD_rep (n i : Nat) (v : Value) (h : i < n) : (List.replicate n v).getD i undef = v := by simp [List.getD, h]
theorem refAt_new {w W : World} {q : Pn} {b0 r : Nat} {pv nv wv : Value} (h : NewAt w q b0 r (q.g.b.toNat * q.g.p.toNat) q.g.b.toNat q.g.b.toNat pv nv wv W) (hg : q.g.Right) (hq : q.Ok w w.heap.size) (hl : q.light = true) :
    ∃ rp rn rw cp cn cw, RefAt W w.heap.size W.heap.size q (Dv.fresh q.g q.bl q.fl) r rp rn rw cp cn cw := by
  have hs : 0 < q.g.b.toNat ∧ 0 < q.g.p.toNat := by
    obtain ⟨h1, h2, h3, h4, _⟩ := hg
    omega
  obtain ⟨rp, cp, rfl, hp1, hp2⟩ := own_formC h.ps (Nat.mul_pos hs.1 hs.2)
  obtain ⟨rn, cn, rfl, hn1, hn2⟩ := own_formC h.ns hs.1
  obtain ⟨rw, cw, rfl, hw1, hw2⟩ := own_formC h.ws hs.1
  have hp := h.pos
  refine ⟨rp, rn, rw, cp, cn, cw, ⟨by omega, ⟨hp.2.2, hp2.lt, hn2.lt, hw2.lt⟩, ?_, h.box, ?_, ?_, ?_, hq.below h.below, fun i _ => rfl, rfl, ?_, hg⟩⟩
  · intro e
    rcases h.ne with h0 | h0
    · cases h0
    · exact h0 (by rw [e]; rfl)
  · exact hp2.congr fun i hi => getD_rep _ _ _ hi
  · exact hn2.congr fun i hi => getD_rep _ _ _ hi
  · exact hw2.congr fun i hi => getD_rep _ _ _ hi
  · unfold Pn.light at hl
    simp only [Bool.and_eq_true, decide_eq_true_eq, List.all_eq_true] at hl
    exact ⟨hl.1.1, hl.1.2, fun f hf => hl.2 f hf⟩
end
section
open Go.RowKit
open Go.Sort

section
variable {w : World} {B0 B : Nat} {D : Dv} {k kb kp km : Nat}
theorem dprog_any (h : DevAt w B0 B D k kb kp km) (hB : B ≤ w.heap.size) (hops : D.ops < 1000000) (x y : Int) (A : Option Addr) (c : Nat) (b : List UInt8) (hl : LiesT w w.heap.size A b) (hb : b.length = 256) :
    Calls Try.prog 24 #[.pointer (some ⟨k, 0, none⟩), .agg #[.int .i64 x, .int .i64 y], .slice A 256 c] w fun e w' => e = .returned (.int .i64 (D.progR x y b).1) ∧ DevAt w' B0 B (D.progR x y b).2 k kb kp km ∧ Tch [k, kb, kp] w w' := by
  have low : ∀ {f : Int}, Calls Try.prog 24 #[.pointer (some ⟨k, 0, none⟩), .agg #[.int .i64 x, .int .i64 y], .slice A 256 c] w (fun e w' => e = .returned (.int .i64 f) ∧ Below w.heap.size w w') →
      Calls Try.prog 24 #[.pointer (some ⟨k, 0, none⟩), .agg #[.int .i64 x, .int .i64 y], .slice A 256 c] w fun e w' => e = .returned (.int .i64 f) ∧ DevAt w' B0 B D k kb kp km ∧ Tch [k, kb, kp] w w' :=
    fun hc => hc.mono fun e w' ⟨he, hb⟩ => ⟨he, h.below (hb.mono hB), Tch.of_below hb⟩
  unfold Dv.progR
  by_cases hd : D.dn = true
  · rw [if_pos hd]; exact low (prog_down h hB x y A 256 c hd)
  rw [if_neg hd]
  have hd2 : D.dn = false := by simpa using hd
  by_cases hh : D.g.Has x y
  · rw [if_neg (not_not_intro hh)]
    obtain ⟨i, j, rfl, rfl, hi, hj⟩ := Gm.Has.nats ⟨h.sides.2.2.2.2.1, h.sides.2.2.2.2.2⟩ hh
    rw [Int.toNat_natCast]
    by_cases hm : D.bad i = true
    · rw [if_pos hm]; exact low (prog_marked h hB i j A c hd2 hi hj hm)
    rw [if_neg hm]
    have hm2 : D.bad i = false := by simpa using hm
    by_cases ho : j = D.nx i
    · subst ho
      rw [if_neg (not_not_intro rfl)]
      exact prog_ok h hB i A c b hd2 hi hj hm2 hops hl hb
    · rw [if_pos (by omega)]; exact low (prog_order h hB i j A c hd2 hi hj hm2 ho)
  · rw [if_pos hh]; exact low (prog_out h hB x y A 256 c hd2 hh)
theorem dera_any (h : DevAt w B0 B D k kb kp km) (hB : B ≤ w.heap.size) (hops : D.ops < 1000000) (x : Int) :
    Calls Try.prog 22 #[.pointer (some ⟨k, 0, none⟩), .int .i64 x] w fun e w' => e = .returned (.int .i64 (D.eraR x).1) ∧ DevAt w' B0 B (D.eraR x).2 k kb kp km ∧ Tch [k, kb, kp] w w' := by
  have low : ∀ {f : Int}, Calls Try.prog 22 #[.pointer (some ⟨k, 0, none⟩), .int .i64 x] w (fun e w' => e = .returned (.int .i64 f) ∧ Below w.heap.size w w') →
      Calls Try.prog 22 #[.pointer (some ⟨k, 0, none⟩), .int .i64 x] w fun e w' => e = .returned (.int .i64 f) ∧ DevAt w' B0 B D k kb kp km ∧ Tch [k, kb, kp] w w' :=
    fun hc => hc.mono fun e w' ⟨he, hb⟩ => ⟨he, h.below (hb.mono hB), Tch.of_below hb⟩
  unfold Dv.eraR
  by_cases hd : D.dn = true
  · rw [if_pos hd]; exact low (era_down h hB x hd)
  rw [if_neg hd]
  have hd2 : D.dn = false := by simpa using hd
  by_cases hh : 0 ≤ x ∧ x < (D.nb : Int)
  · rw [if_neg (not_not_intro hh)]
    obtain ⟨i, rfl⟩ := Int.eq_ofNat_of_zero_le hh.1
    have hi : i < D.nb := by omega
    rw [Int.toNat_natCast]
    by_cases hm : D.bad i = true
    · rw [if_pos hm]; exact low (era_marked h hB i hd2 hi hm)
    rw [if_neg hm]
    exact era_ok h hB i hd2 hi (by simpa using hm) hops
  · rw [if_pos hh]; exact low (era_out h hB x hd2 hh)
end
section
variable {w : World} {B0 B : Nat} {D : Dv} {k kb kp km : Nat}
end
end
section
open Go.RowKit
open Go.Sort

section
variable {w : World} {B0 B : Nat} {D : Dv} {k kb kp km : Nat} {q : Pn} {r rp rn rw cp cn cw : Nat}
theorem rprog_any (h : RefAt w B0 B q D r rp rn rw cp cn cw) (hB : B ≤ w.heap.size) (hops : D.ops < 1000000) (hpl : ∀ i, i < D.nb * D.np → (D.pg i).length = 256) (x y : Int) (A : Option Addr) (c : Nat) (b : List UInt8) (hl : LiesT w w.heap.size A b) (hb : b.length = 256) :
    Calls Try.prog 31 #[.pointer (some ⟨r, 0, none⟩), .agg #[.int .i64 x, .int .i64 y], .slice A 256 c] w fun e w' => e = .returned (.int .i64 (D.progR x y b).1) ∧ RefAt w' B0 B q (D.progR x y b).2 r rp rn rw cp cn cw ∧ Tch [r, rp, rn, rw] w w' := by
  have low : ∀ {f : Int}, Calls Try.prog 31 #[.pointer (some ⟨r, 0, none⟩), .agg #[.int .i64 x, .int .i64 y], .slice A 256 c] w (fun e w' => e = .returned (.int .i64 f) ∧ Below w.heap.size w w') →
      Calls Try.prog 31 #[.pointer (some ⟨r, 0, none⟩), .agg #[.int .i64 x, .int .i64 y], .slice A 256 c] w fun e w' => e = .returned (.int .i64 f) ∧ RefAt w' B0 B q D r rp rn rw cp cn cw ∧ Tch [r, rp, rn, rw] w w' :=
    fun hc => hc.mono fun e w' ⟨he, hb⟩ => ⟨he, h.below (hb.mono hB), Tch.of_below hb⟩
  unfold Dv.progR
  by_cases hd : D.dn = true
  · rw [if_pos hd]; exact low (rprog_down h hd x y A 256 c)
  rw [if_neg hd]
  have hd2 : D.dn = false := by simpa using hd
  by_cases hh : D.g.Has x y
  · rw [if_neg (not_not_intro hh)]
    obtain ⟨i, j, rfl, rfl, hi, hj⟩ := Gm.Has.nats ⟨h.sides.2.2.2.2.1, h.sides.2.2.2.2.2⟩ hh
    rw [Int.toNat_natCast]
    by_cases hm : D.bad i = true
    · rw [if_pos hm]; exact low (rprog_marked h hB hd2 i j hi hj hm A c)
    rw [if_neg hm]
    have hm2 : D.bad i = false := by simpa using hm
    by_cases ho : j = D.nx i
    · rw [if_neg (not_not_intro (by rw [ho]))]
      exact rprog_ok h hB hd2 i j hi hj hm2 ho A c b hops hb hl hpl
    · rw [if_pos (by omega)]; exact low (rprog_order h hB hd2 i j hi hj hm2 ho A c)
  · rw [if_pos hh]; exact low (rprog_out h hB hd2 x y hh A 256 c)
theorem rera_any (h : RefAt w B0 B q D r rp rn rw cp cn cw) (hB : B ≤ w.heap.size) (hops : D.ops < 1000000) (hwe : ∀ i, i < D.nb → D.we i ≤ D.ops) (hpl : ∀ i, i < D.nb * D.np → (D.pg i).length = 256) (x : Int) :
    Calls Try.prog 27 #[.pointer (some ⟨r, 0, none⟩), .int .i64 x] w fun e w' => e = .returned (.int .i64 (D.eraR x).1) ∧ RefAt w' B0 B q (D.eraR x).2 r rp rn rw cp cn cw ∧ Tch [r, rp, rn, rw] w w' := by
  have low : ∀ {f : Int}, Calls Try.prog 27 #[.pointer (some ⟨r, 0, none⟩), .int .i64 x] w (fun e w' => e = .returned (.int .i64 f) ∧ w = w') →
      Calls Try.prog 27 #[.pointer (some ⟨r, 0, none⟩), .int .i64 x] w fun e w' => e = .returned (.int .i64 f) ∧ RefAt w' B0 B q D r rp rn rw cp cn cw ∧ Tch [r, rp, rn, rw] w w' :=
    fun hc => hc.mono fun e w' ⟨he, hb⟩ => ⟨he, hb ▸ h, hb ▸ Tch.refl _ _⟩
  unfold Dv.eraR
  by_cases hd : D.dn = true
  · rw [if_pos hd]; exact low (rera_down h hd x)
  rw [if_neg hd]
  have hd2 : D.dn = false := by simpa using hd
  by_cases hh : 0 ≤ x ∧ x < (D.nb : Int)
  · rw [if_neg (not_not_intro hh)]
    obtain ⟨i, rfl⟩ := Int.eq_ofNat_of_zero_le hh.1
    have hi : i < D.nb := by omega
    rw [Int.toNat_natCast]
    by_cases hm : D.bad i = true
    · rw [if_pos hm]; exact low (rera_marked h hd2 i hi hm)
    rw [if_neg hm]
    exact rera_ok h hB hd2 i hi (by simpa using hm) hops (Nat.lt_of_le_of_lt (hwe i hi) hops) hpl
  · rw [if_pos hh]; exact low (rera_out h hd2 x hh)
end
end
section
open Go.RowKit
open Go.Sort

section
variable {w w' : World} {B0 B C0 C : Nat} {D E : Dv} {k kb kp km : Nat} {q : Pn} {r rp rn rw cp cn cw : Nat}
/-- What the reference writes leaves the device as it is. -/
theorem DevAt.other (hd : DevAt w B0 B D k kb kp km) (hB : B ≤ w.heap.size) (ht : Tch [r, rp, rn, rw] w w') (hr : ∀ b ∈ [r, rp, rn, rw], B ≤ b) : DevAt w' B0 B D k kb kp km := hd.below (ht.below hB hr)
/-- What the device writes leaves the reference as it is. -/
theorem RefAt.other (hr : RefAt w C0 C q E r rp rn rw cp cn cw) (hC : C ≤ w.heap.size) (ht : Tch [k, kb, kp] w w') (hk : ∀ b ∈ [k, kb, kp], C0 ≤ b) (hx : ∀ b ∈ [r, rp, rn, rw], b ∉ [k, kb, kp]) : RefAt w' C0 C q E r rp rn rw cp cn cw := by
  have hh := hr.hi
  exact ⟨hr.lo, hr.hi, hr.ne, (ht.block _ (by omega) (hx r (by simp))).trans hr.box, hr.pages.kept (ht.block _ (by omega) (hx rp (by simp))), hr.next.kept (ht.block _ (by omega) (hx rn (by simp))), hr.wear.kept (ht.block _ (by omega) (hx rw (by simp))),
    hr.plan.tch (by have := hr.lo.1; omega) ht hk, hr.bad, hr.ft, hr.few, hr.right⟩
/-- The reference's blocks all lie behind the device's. -/
theorem apart_of (hd : DevAt w B0 B D k kb kp km) (hr : ∀ b ∈ [r, rp, rn, rw], B ≤ b) : ∀ b ∈ [r, rp, rn, rw], b ∉ [k, kb, kp] := by
  intro b hb h
  have h1 := hr b hb
  have h2 := hd.hi
  simp only [List.mem_cons, List.not_mem_nil, or_false] at h
  omega
/-- The plan of the reference may be asked of an earlier bound. -/
theorem RefAt.base_down (hr : RefAt w C0 C q E r rp rn rw cp cn cw) {A0 : Nat} (hA : A0 ≤ C0) (hq : q.Ok w A0) : RefAt w A0 C q E r rp rn rw cp cn cw :=
  ⟨⟨Nat.le_trans hA hr.lo.1, Nat.le_trans hA hr.lo.2.1, Nat.le_trans hA hr.lo.2.2.1, Nat.le_trans hA hr.lo.2.2.2⟩, hr.hi, hr.ne, hr.box, hr.pages, hr.next, hr.wear, hq, hr.bad, hr.ft, hr.few, hr.right⟩
end
end
section
open Go.RowKit
open Go.Sort

/-- Where both devices lie. -/
structure Bl where
  k : Nat
  kb : Nat
  kp : Nat
  km : Nat
  r : Nat
  rp : Nat
  rn : Nat
  rw : Nat
  cp : Nat
  cn : Nat
  cw : Nat
  B0 : Nat
  B : Nat
  C : Nat
def Bl.S (m : Bl) : List Nat := [m.k, m.kb, m.kp, m.r, m.rp, m.rn, m.rw]
/-- The device is D, the reference's device E; the plan is in its box. -/
structure TS (w : World) (q : Pn) (D E : Dv) (m : Bl) (W : World) : Prop where
  dev : DevAt W m.B0 m.B D m.k m.kb m.kp m.km
  ref : RefAt W w.heap.size m.C q E m.r m.rp m.rn m.rw m.cp m.cn m.cw
  far : ∀ b ∈ [m.r, m.rp, m.rn, m.rw], m.B ≤ b
  box : BoxQ q w.heap.size W
  below : Below w.heap.size w W
  pos : w.heap.size < m.B0 ∧ m.B0 ≤ m.B ∧ m.B ≤ m.C ∧ m.C ≤ W.heap.size
  g : D.g = q.g ∧ E.g = q.g
section
variable {w W W' : World} {q : Pn} {D E D' E' : Dv} {m : Bl}
theorem TS.bigB (h : TS w q D E m W) : m.B ≤ W.heap.size := Nat.le_trans h.pos.2.2.1 h.pos.2.2.2
theorem TS.big (h : TS w q D E m W) : w.heap.size < W.heap.size := Nat.lt_of_lt_of_le h.pos.1 (Nat.le_trans h.pos.2.1 h.bigB)
theorem TS.next (h : TS w q D E m W) (hb : Below W.heap.size W W') : TS w q D E m W' :=
  ⟨h.dev.below (hb.mono h.bigB), h.ref.below (hb.mono h.pos.2.2.2), h.far, h.box.below hb h.big, h.below.trans (hb.mono h.below.size), ⟨h.pos.1, h.pos.2.1, h.pos.2.2.1, Nat.le_trans h.pos.2.2.2 hb.size⟩, h.g⟩
theorem TS.off (h : TS w q D E m W) {b : Nat} (hb : m.C ≤ b) : b ∉ m.S := by
  have h1 := h.dev.hi
  have h2 := h.ref.hi
  have h3 := h.pos
  unfold Bl.S
  simp only [List.mem_cons, List.not_mem_nil, or_false, not_or]
  omega
theorem TS.dev_step (h : TS w q D E m W) (hd : DevAt W' m.B0 m.B D' m.k m.kb m.kp m.km) (ht : Tch [m.k, m.kb, m.kp] W W') (hg : D'.g = D.g) : TS w q D' E m W' := by
  have h1 := h.dev.lo
  have h2 := h.pos
  have hk : ∀ b ∈ [m.k, m.kb, m.kp], w.heap.size ≤ b := by
    intro b hb
    simp only [List.mem_cons, List.not_mem_nil, or_false] at hb
    omega
  have hn : w.heap.size ∉ [m.k, m.kb, m.kp] := by
    simp only [List.mem_cons, List.not_mem_nil, or_false, not_or]
    omega
  exact ⟨hd, h.ref.other h.pos.2.2.2 ht hk (apart_of h.dev h.far), h.far, (ht.block _ h.big hn).trans h.box, h.below.trans (ht.below h.below.size hk), ⟨h2.1, h2.2.1, h2.2.2.1, Nat.le_trans h2.2.2.2 ht.size⟩, hg.trans h.g.1, h.g.2⟩
theorem TS.ref_step (h : TS w q D E m W) (hr : RefAt W' w.heap.size m.C q E' m.r m.rp m.rn m.rw m.cp m.cn m.cw) (ht : Tch [m.r, m.rp, m.rn, m.rw] W W') (hg : E'.g = E.g) : TS w q D E' m W' := by
  have h2 := h.pos
  have hk : ∀ b ∈ [m.r, m.rp, m.rn, m.rw], w.heap.size ≤ b := fun b hb => by have := h.far b hb; omega
  have hn : w.heap.size ∉ [m.r, m.rp, m.rn, m.rw] := fun hb => by have := h.far _ hb; omega
  exact ⟨h.dev.other h.bigB ht h.far, hr, h.far, (ht.block _ h.big hn).trans h.box, h.below.trans (ht.below h.below.size hk), ⟨h2.1, h2.2.1, h2.2.2.1, Nat.le_trans h2.2.2.2 ht.size⟩, h.g.1, hg.trans h.g.2⟩
theorem TS.cells (h : TS w q D E m W) : W.cell? ⟨w.heap.size, 0, none⟩ = some (.int .i64 (D.nb : Int)) ∧ W.cell? ⟨w.heap.size, 1, none⟩ = some (.int .i64 (D.np : Int)) := by
  obtain ⟨_, _, _, _, h5, h6⟩ := h.dev.sides
  rw [h.g.1] at h5 h6
  exact ⟨by rw [h.box.c 0 _ rfl, h5], by rw [h.box.c 1 _ rfl, h6]⟩
theorem Tch.devS {a b : World} (h : Tch [m.k, m.kb, m.kp] a b) : Tch m.S a b := h.mono fun x hx => by
  unfold Bl.S
  simp only [List.mem_cons, List.not_mem_nil, or_false] at *
  omega
end
theorem Pn.Ok.up {w : World} {B B2 : Nat} {q : Pn} (h : q.Ok w B) (hB : B ≤ B2) : q.Ok w B2 := ⟨h.l1.up hB, h.h1, h.l2.up hB, h.h2, fun f hf => ⟨(h.h3 f hf).lies.up hB, (h.h3 f hf).len, (h.h3 f hf).cap, (h.h3 f hf).key⟩⟩
/-- The states of a program done by both: bytes made, the device programmed, bytes made, the reference programmed. -/
def PhiD (w w8 : World) (q : Pn) (D D2 : Dv) (m : Bl) (l : List UInt8) (i : Nat) (f : Nat → Value) (W : World) : Prop :=
  Tch m.S w8 W ∧ ((i = 0 ∧ TS w q D D m W) ∨ (i = 1 ∧ TS w q D D m W ∧ ∃ A c, f 141 = .slice A 256 c ∧ LiesT W W.heap.size A l) ∨ (i = 2 ∧ TS w q D2 D m W) ∨ (i = 3 ∧ TS w q D2 D m W ∧ ∃ A c, f 147 = .slice A 256 c ∧ LiesT W W.heap.size A l) ∨ (4 ≤ i ∧ TS w q D2 D2 m W))
theorem PhiD.loc (w w8 : World) (q : Pn) (D D2 : Dv) (m : Bl) (l : List UInt8) : ∀ i f g W, (∀ t ∈ [141, 147], f t = g t) → PhiD w w8 q D D2 m l i f W → PhiD w w8 q D D2 m l i g W := by
  intro i f g W h hΦ
  have h1 := h 141 (by simp)
  have h2 := h 147 (by simp)
  unfold PhiD at *
  rw [← h1, ← h2]
  exact hΦ
section
variable {w w8 W : World} {q : Pn} {D D2 : Dv} {m : Bl} {l : List UInt8} {f : Nat → Value}
theorem PhiD.at0 (h : PhiD w w8 q D D2 m l 0 f W) : TS w q D D m W := by
  obtain ⟨_, h⟩ := h
  rcases h with ⟨_, h⟩ | ⟨h, _⟩ | ⟨h, _⟩ | ⟨h, _⟩ | ⟨h, _⟩
  · exact h
  all_goals exact absurd h (by decide)
theorem PhiD.at1 (h : PhiD w w8 q D D2 m l 1 f W) : TS w q D D m W ∧ ∃ A c, f 141 = .slice A 256 c ∧ LiesT W W.heap.size A l := by
  obtain ⟨_, h⟩ := h
  rcases h with ⟨h, _⟩ | ⟨_, h⟩ | ⟨h, _⟩ | ⟨h, _⟩ | ⟨h, _⟩
  · exact absurd h (by decide)
  · exact h
  all_goals exact absurd h (by decide)
theorem PhiD.at2 (h : PhiD w w8 q D D2 m l 2 f W) : TS w q D2 D m W := by
  obtain ⟨_, h⟩ := h
  rcases h with ⟨h, _⟩ | ⟨h, _⟩ | ⟨_, h⟩ | ⟨h, _⟩ | ⟨h, _⟩
  · exact absurd h (by decide)
  · exact absurd h (by decide)
  · exact h
  all_goals exact absurd h (by decide)
theorem PhiD.at3 (h : PhiD w w8 q D D2 m l 3 f W) : TS w q D2 D m W ∧ ∃ A c, f 147 = .slice A 256 c ∧ LiesT W W.heap.size A l := by
  obtain ⟨_, h⟩ := h
  rcases h with ⟨h, _⟩ | ⟨h, _⟩ | ⟨h, _⟩ | ⟨_, h⟩ | ⟨h, _⟩
  · exact absurd h (by decide)
  · exact absurd h (by decide)
  · exact absurd h (by decide)
  · exact h
  · exact absurd h (by decide)
end
/-- The states of an erase done by both. -/
def PhiX (w w8 : World) (q : Pn) (D D2 : Dv) (m : Bl) (i : Nat) (_f : Nat → Value) (W : World) : Prop :=
  Tch m.S w8 W ∧ ((i = 0 ∧ TS w q D D m W) ∨ (i = 1 ∧ TS w q D2 D m W) ∨ (2 ≤ i ∧ TS w q D2 D2 m W))
theorem PhiX.loc (w w8 : World) (q : Pn) (D D2 : Dv) (m : Bl) : ∀ i f g W, (∀ t ∈ ([] : List Nat), f t = g t) → PhiX w w8 q D D2 m i f W → PhiX w w8 q D D2 m i g W :=
  fun _ _ _ _ _ hΦ => hΦ
section
variable {w w8 W : World} {q : Pn} {D D2 : Dv} {m : Bl} {f : Nat → Value}
theorem PhiX.at0 (h : PhiX w w8 q D D2 m 0 f W) : TS w q D D m W := by
  obtain ⟨_, h⟩ := h
  rcases h with ⟨_, h⟩ | ⟨h, _⟩ | ⟨h, _⟩
  · exact h
  all_goals exact absurd h (by decide)
theorem PhiX.at1 (h : PhiX w w8 q D D2 m 1 f W) : TS w q D2 D m W := by
  obtain ⟨_, h⟩ := h
  rcases h with ⟨h, _⟩ | ⟨_, h⟩ | ⟨h, _⟩
  · exact absurd h (by decide)
  · exact h
  · exact absurd h (by decide)
theorem PhiX.at2 (h : PhiX w w8 q D D2 m 2 f W) : TS w q D2 D2 m W := by
  obtain ⟨_, h⟩ := h
  rcases h with ⟨h, _⟩ | ⟨h, _⟩ | ⟨_, h⟩
  · exact absurd h (by decide)
  · exact absurd h (by decide)
  · exact h
end
end
section
open Go.RowKit
set_option maxRecDepth 8000

theorem str_toList (l : List UInt8) : (str l).toList = l := by rw [ByteArray.toList_eq]; rfl

theorem equal_any (A A2 : Option Addr) (n c n2 c2 B B2 : Nat) (l m : List UInt8) (w : World) (h : Lies w B A (bys l)) (hn : n = l.length) (h2 : Lies w B2 A2 (bys m)) (hn2 : n2 = m.length) :
    Calls Try.prog 81 #[.slice A n c, .slice A2 n2 c2] w fun e w' => e = .returned (.bool (decide (l = m))) ∧ w = w' := by
  have hs1 : (convert 65 9 (.slice A n c)).run Try.prog w = .ok (.string (str l)) w := strU8 c h hn
  have hs2 : (convert 65 9 (.slice A2 n2 c2)).run Try.prog w = .ok (.string (str m)) w := strU8 c2 h2 hn2
  have hcmp : ((str l).toList == (str m).toList) = decide (l = m) := by
    rw [str_toList, str_toList]
    by_cases he : l = m
    · rw [decide_eq_true he, he]; exact beq_self_eq_true _
    · rw [decide_eq_false he]; exact beq_eq_false_iff_ne.2 he
  clear h h2 hn hn2
  generalize decide (l = m) = b at *
  generalize str l = s at *
  generalize str m = t at *
  go_enter Try.func81, Try.ntmps81
  go_wp2
  go_ret
  exact ⟨by first | rfl | exact ret_bool hcmp, rfl⟩
end
section
open Go.RowKit

theorem wp_region_all {P : Program} {ops : Array Oper} {a0 : Act} {w0 : World} {Q : Exit → Act → World → Prop} {id : Nat} (hm : P.follows .mixedOrders = true) (φ : Tmp → Value → World → Prop) (hB : flowB ops a0.tmps.size = true) (hf : FlowsL P ops φ a0 w0 ops.toList)
    (hend : ∀ a w, a.defers = a0.defers → a.tmps.size = a0.tmps.size → Below w0.heap.size w0 w → (∀ t, writesB ops t = true → Keeps (φ t) (a.tmps.getD t undef) w) → (∀ t, writesB ops t = false → a.tmps.getD t undef = a0.tmps.getD t undef) → Q .normal a w) : (Code.region id ops true).wp P Q a0 w0 := by
  refine wp_region_any hm (wpAny_flow hB hf.all (fun a w st => ?_) _ _ _ _ (by simp) (by rw [Array.toList_replicate, List.count_replicate]; simp) ⟨(Below.refl _ w0).drew, rfl, rfl, fun j oj d hj _ hl => ?_, fun _ _ => rfl⟩)
  · refine hend a w st.defers st.size st.below (fun t ht => ?_) st.kept
    obtain ⟨oj, hoj, hd⟩ := Array.any_eq_true'.1 ht
    obtain ⟨j, hj⟩ := Array.getElem?_of_mem hoj
    exact st.done j oj t hj (by simpa using hd) (by
      have : j < ops.size := (Array.getElem?_eq_some_iff.1 hj).1
      simp [this])
  · have : j < ops.size := (Array.getElem?_eq_some_iff.1 hj).1
    simp [this] at hl
end
end Go.Proofs.Ytahipfmokbiklaa
