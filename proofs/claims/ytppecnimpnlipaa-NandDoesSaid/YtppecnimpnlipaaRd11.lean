/-
  LAYER 14: Program and Erase, the device's and the reference's, by one answer.
-/
import Derived.Test.YtppecnimpnlipaaRd10
namespace Go.Proofs.Ytppecnimpnlipaa
open Go.RowKit
open Go.Sort

/-- What a program answers, and what it leaves. -/
def Dv.progR (D : Dv) (x y : Int) (b : List UInt8) : Int × Dv :=
  if D.dn = true then (9, D) else if ¬ D.g.Has x y then (3, D) else if D.bad x.toNat = true then (12, D) else if y ≠ (D.nx x.toNat : Int) then (11, D) else (D.err, D.progd x.toNat b)
/-- What an erase answers, and what it leaves. -/
def Dv.eraR (D : Dv) (x : Int) : Int × Dv :=
  if D.dn = true then (9, D) else if ¬ (0 ≤ x ∧ x < (D.nb : Int)) then (3, D) else if D.bad x.toNat = true then (12, D) else (D.err, D.erased x.toNat)
theorem Gm.Has.nats {D : Dv} {x y : Int} (hs : D.g.b = (D.nb : Int) ∧ D.g.p = (D.np : Int)) (h : D.g.Has x y) : ∃ i j : Nat, x = (i : Int) ∧ y = (j : Int) ∧ i < D.nb ∧ j < D.np := by
  obtain ⟨h1, h2, h3, h4⟩ := h
  rw [hs.1] at h2
  rw [hs.2] at h4
  exact ⟨x.toNat, y.toNat, by omega, by omega, by omega, by omega⟩
section
variable {w : World} {B0 B : Nat} {D : Dv} {k kb kp km : Nat} {q : Pn} {r rp rn rw cp cn cw : Nat}
theorem dprog_any (h : DevAt w B0 B D k kb kp km) (hB : B ≤ w.heap.size) (hops : D.ops < 1000000) (x y : Int) (A : Option Addr) (c : Nat) (b : List UInt8) (hl : LiesT w w.heap.size A b) (hb : b.length = 256) :
    Calls Try.prog 14 #[.pointer (some ⟨k, 0, none⟩), .agg #[.int .i64 x, .int .i64 y], .slice A 256 c] w fun e w' => e = .returned (.int .i64 (D.progR x y b).1) ∧ DevAt w' B0 B (D.progR x y b).2 k kb kp km ∧ Tch [k, kb, kp] w w' := by
  have low : ∀ {f : Int}, Calls Try.prog 14 #[.pointer (some ⟨k, 0, none⟩), .agg #[.int .i64 x, .int .i64 y], .slice A 256 c] w (fun e w' => e = .returned (.int .i64 f) ∧ Below w.heap.size w w') →
      Calls Try.prog 14 #[.pointer (some ⟨k, 0, none⟩), .agg #[.int .i64 x, .int .i64 y], .slice A 256 c] w fun e w' => e = .returned (.int .i64 f) ∧ DevAt w' B0 B D k kb kp km ∧ Tch [k, kb, kp] w w' :=
    fun hc => hc.mono fun e w' ⟨he, hb⟩ => ⟨he, h.below (hb.mono hB), Tch.of_below hb⟩
  unfold Dv.progR
  by_cases hd : D.dn = true
  · rw [if_pos hd]; exact low (prog_down h hB x y A 256 c hd)
  rw [if_neg hd]
  have hd2 : D.dn = false := by simpa using hd
  by_cases hh : D.g.Has x y
  · rw [if_neg (not_not_intro hh)]
    obtain ⟨i, j, rfl, rfl, hi, hj⟩ := Gm.Has.nats ⟨h.sides.2.2.2.2.1, h.sides.2.2.2.2.2⟩ hh
    rw [Int.toNat_natCast]
    by_cases hm : D.bad i = true
    · rw [if_pos hm]; exact low (prog_marked h hB i j A c hd2 hi hj hm)
    rw [if_neg hm]
    have hm2 : D.bad i = false := by simpa using hm
    by_cases ho : j = D.nx i
    · subst ho
      rw [if_neg (not_not_intro rfl)]
      exact prog_ok h hB i A c b hd2 hi hj hm2 hops hl hb
    · rw [if_pos (by omega)]; exact low (prog_order h hB i j A c hd2 hi hj hm2 ho)
  · rw [if_pos hh]; exact low (prog_out h hB x y A 256 c hd2 hh)
theorem rprog_any (h : RefAt w B0 B q D r rp rn rw cp cn cw) (hB : B ≤ w.heap.size) (hops : D.ops < 1000000) (hpl : ∀ i, i < D.nb * D.np → (D.pg i).length = 256) (x y : Int) (A : Option Addr) (c : Nat) (b : List UInt8) (hl : LiesT w w.heap.size A b) (hb : b.length = 256) :
    Calls Try.prog 16 #[.pointer (some ⟨r, 0, none⟩), .agg #[.int .i64 x, .int .i64 y], .slice A 256 c] w fun e w' => e = .returned (.int .i64 (D.progR x y b).1) ∧ RefAt w' B0 B q (D.progR x y b).2 r rp rn rw cp cn cw ∧ Tch [r, rp, rn, rw] w w' := by
  have low : ∀ {f : Int}, Calls Try.prog 16 #[.pointer (some ⟨r, 0, none⟩), .agg #[.int .i64 x, .int .i64 y], .slice A 256 c] w (fun e w' => e = .returned (.int .i64 f) ∧ Below w.heap.size w w') →
      Calls Try.prog 16 #[.pointer (some ⟨r, 0, none⟩), .agg #[.int .i64 x, .int .i64 y], .slice A 256 c] w fun e w' => e = .returned (.int .i64 f) ∧ RefAt w' B0 B q D r rp rn rw cp cn cw ∧ Tch [r, rp, rn, rw] w w' :=
    fun hc => hc.mono fun e w' ⟨he, hb⟩ => ⟨he, h.below (hb.mono hB), Tch.of_below hb⟩
  unfold Dv.progR
  by_cases hd : D.dn = true
  · rw [if_pos hd]; exact low (rprog_down h hd x y A 256 c)
  rw [if_neg hd]
  have hd2 : D.dn = false := by simpa using hd
  by_cases hh : D.g.Has x y
  · rw [if_neg (not_not_intro hh)]
    obtain ⟨i, j, rfl, rfl, hi, hj⟩ := Gm.Has.nats ⟨h.sides.2.2.2.2.1, h.sides.2.2.2.2.2⟩ hh
    rw [Int.toNat_natCast]
    by_cases hm : D.bad i = true
    · rw [if_pos hm]; exact low (rprog_marked h hB hd2 i j hi hj hm A c)
    rw [if_neg hm]
    have hm2 : D.bad i = false := by simpa using hm
    by_cases ho : j = D.nx i
    · rw [if_neg (not_not_intro (by rw [ho]))]
      exact rprog_ok h hB hd2 i j hi hj hm2 ho A c b hops hb hl hpl
    · rw [if_pos (by omega)]; exact low (rprog_order h hB hd2 i j hi hj hm2 ho A c)
  · rw [if_pos hh]; exact low (rprog_out h hB hd2 x y hh A 256 c)
theorem dera_any (h : DevAt w B0 B D k kb kp km) (hB : B ≤ w.heap.size) (hops : D.ops < 1000000) (x : Int) :
    Calls Try.prog 17 #[.pointer (some ⟨k, 0, none⟩), .int .i64 x] w fun e w' => e = .returned (.int .i64 (D.eraR x).1) ∧ DevAt w' B0 B (D.eraR x).2 k kb kp km ∧ Tch [k, kb, kp] w w' := by
  have low : ∀ {f : Int}, Calls Try.prog 17 #[.pointer (some ⟨k, 0, none⟩), .int .i64 x] w (fun e w' => e = .returned (.int .i64 f) ∧ Below w.heap.size w w') →
      Calls Try.prog 17 #[.pointer (some ⟨k, 0, none⟩), .int .i64 x] w fun e w' => e = .returned (.int .i64 f) ∧ DevAt w' B0 B D k kb kp km ∧ Tch [k, kb, kp] w w' :=
    fun hc => hc.mono fun e w' ⟨he, hb⟩ => ⟨he, h.below (hb.mono hB), Tch.of_below hb⟩
  unfold Dv.eraR
  by_cases hd : D.dn = true
  · rw [if_pos hd]; exact low (era_down h hB x hd)
  rw [if_neg hd]
  have hd2 : D.dn = false := by simpa using hd
  by_cases hh : 0 ≤ x ∧ x < (D.nb : Int)
  · rw [if_neg (not_not_intro hh)]
    obtain ⟨i, rfl⟩ := Int.eq_ofNat_of_zero_le hh.1
    have hi : i < D.nb := by omega
    rw [Int.toNat_natCast]
    by_cases hm : D.bad i = true
    · rw [if_pos hm]; exact low (era_marked h hB i hd2 hi hm)
    rw [if_neg hm]
    exact era_ok h hB i hd2 hi (by simpa using hm) hops
  · rw [if_pos hh]; exact low (era_out h hB x hd2 hh)
theorem rera_any (h : RefAt w B0 B q D r rp rn rw cp cn cw) (hB : B ≤ w.heap.size) (hops : D.ops < 1000000) (hwe : ∀ i, i < D.nb → D.we i ≤ D.ops) (hpl : ∀ i, i < D.nb * D.np → (D.pg i).length = 256) (x : Int) :
    Calls Try.prog 18 #[.pointer (some ⟨r, 0, none⟩), .int .i64 x] w fun e w' => e = .returned (.int .i64 (D.eraR x).1) ∧ RefAt w' B0 B q (D.eraR x).2 r rp rn rw cp cn cw ∧ Tch [r, rp, rn, rw] w w' := by
  have low : ∀ {f : Int}, Calls Try.prog 18 #[.pointer (some ⟨r, 0, none⟩), .int .i64 x] w (fun e w' => e = .returned (.int .i64 f) ∧ w = w') →
      Calls Try.prog 18 #[.pointer (some ⟨r, 0, none⟩), .int .i64 x] w fun e w' => e = .returned (.int .i64 f) ∧ RefAt w' B0 B q D r rp rn rw cp cn cw ∧ Tch [r, rp, rn, rw] w w' :=
    fun hc => hc.mono fun e w' ⟨he, hb⟩ => ⟨he, hb ▸ h, hb ▸ Tch.refl _ _⟩
  unfold Dv.eraR
  by_cases hd : D.dn = true
  · rw [if_pos hd]; exact low (rera_down h hd x)
  rw [if_neg hd]
  have hd2 : D.dn = false := by simpa using hd
  by_cases hh : 0 ≤ x ∧ x < (D.nb : Int)
  · rw [if_neg (not_not_intro hh)]
    obtain ⟨i, rfl⟩ := Int.eq_ofNat_of_zero_le hh.1
    have hi : i < D.nb := by omega
    rw [Int.toNat_natCast]
    by_cases hm : D.bad i = true
    · rw [if_pos hm]; exact low (rera_marked h hd2 i hi hm)
    rw [if_neg hm]
    exact rera_ok h hB hd2 i hi (by simpa using hm) hops (Nat.lt_of_le_of_lt (hwe i hi) hops) hpl
  · rw [if_pos hh]; exact low (rera_out h hd2 x hh)
end
end Go.Proofs.Ytppecnimpnlipaa
