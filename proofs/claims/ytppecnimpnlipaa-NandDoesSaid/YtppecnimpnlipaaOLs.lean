/-
  The walk of NandOneWay, the loop. (By gen/OLaw.gen.py.)
-/
import Derived.Test.YtppecnimpnlipaaAcs
namespace Go.Proofs.Ytppecnimpnlipaa
open Go.RowKit
open Go.Sort

/-- What the loop keeps: the device, the plan in its box, what was to be programmed. -/
structure LS (w : World) (q : Pn) (D : Dv) (want : Nat → List UInt8) (k kb kp km B0 B gq gw N : Nat) (W : World) : Prop where
  dev : DevAt W B0 B D k kb kp km
  box : BoxQ q gq W
  row : RowF W gw 9 N (fun i => .string (str (want i)))
  below : Below w.heap.size w W
  pos : w.heap.size ≤ gq ∧ gq < B0 ∧ w.heap.size ≤ B0 ∧ B0 ≤ B ∧ B ≤ gw
  g : D.g = q.g
  n : N = D.nb * D.np
section
variable {w W W' : World} {q : Pn} {D D' : Dv} {want : Nat → List UInt8} {k kb kp km B0 B gq gw N : Nat}
theorem LS.big (h : LS w q D want k kb kp km B0 B gq gw N W) : B ≤ W.heap.size := by
  have := h.row.lt; have := h.pos; omega
theorem LS.next (h : LS w q D want k kb kp km B0 B gq gw N W) (hb : Below W.heap.size W W') : LS w q D want k kb kp km B0 B gq gw N W' := by
  have h1 := h.row.lt
  have h2 := h.pos
  exact ⟨h.dev.below (hb.mono h.big), h.box.below hb (by omega), h.row.kept (hb.block _ h1), h.below.trans (hb.mono h.below.size), h.pos, h.g, h.n⟩
theorem LS.turn (h : LS w q D want k kb kp km B0 B gq gw N W) (hd : DevAt W' B0 B D' k kb kp km) (ht : Tch [k, kb, kp] W W') (hg : D'.g = D.g) : LS w q D' want k kb kp km B0 B gq gw N W' := by
  have h1 := h.row.lt
  have h2 := h.pos
  have h3 := h.dev.lo
  have h4 := h.dev.hi
  have o1 : gq ∉ [k, kb, kp] := by simp only [List.mem_cons, List.not_mem_nil, or_false, not_or]; omega
  have o2 : gw ∉ [k, kb, kp] := by simp only [List.mem_cons, List.not_mem_nil, or_false, not_or]; omega
  refine ⟨hd, (ht.block _ (by omega) o1).trans h.box, h.row.kept (ht.block _ h1 o2), h.below.trans (ht.below h.below.size ?_), h.pos, hg.trans h.g, by rw [h.n]; unfold Dv.nb Dv.np; rw [hg]⟩
  intro b hb
  simp only [List.mem_cons, List.not_mem_nil, or_false] at hb
  omega
theorem LS.store (h : LS w q D want k kb kp km B0 B gq gw N W) (i : Nat) (l : List UInt8) : LS w q D (upd want i l) k kb kp km B0 B gq gw N (W.setCell ⟨gw, i, none⟩ (.string (str l))) := by
  have h2 := h.pos
  refine ⟨h.dev.below ((Below.refl B W).setCell h2.2.2.2.2 _), (Below.heap_setCell _ _ _ _ (by show gq ≠ gw; omega)).trans h.box, (h.row.set i _).congr fun j _ => ?_, h.below.setCell (by show w.heap.size ≤ gw; omega) _, h.pos, h.g, h.n⟩
  unfold upd
  by_cases e : j = i
  · rw [if_pos e, if_pos e]
  · rw [if_neg e, if_neg e]
theorem LS.cells (h : LS w q D want k kb kp km B0 B gq gw N W) : W.cell? ⟨gq, 0, none⟩ = some (.int .i64 (D.nb : Int)) ∧ W.cell? ⟨gq, 1, none⟩ = some (.int .i64 (D.np : Int)) := by
  obtain ⟨_, _, _, _, h5, h6⟩ := h.dev.sides
  rw [h.g] at h5 h6
  exact ⟨by rw [h.box.c 0 _ rfl, h5], by rw [h.box.c 1 _ rfl, h6]⟩
end
/-- A call in its box. -/
def BoxA (a : Ac) (k : Nat) (w : World) : Prop := w.heap[k]? = some (.cells #[.int .i64 a.kind, .int .i64 a.x, .int .i64 a.y, .slice a.A a.n a.c] 42 (0, 0))
theorem BoxA.c {a : Ac} {k : Nat} {w : World} (h : BoxA a k w) (j : Nat) (v : Value) (hj : a.cells[j]? = some v) : w.cell? ⟨k, j, none⟩ = some v := by
  have := World.news_of_block h j v hj
  have e : (⟨k, 0, none⟩ : Addr).add j = ⟨k, j, none⟩ := by unfold Addr.add; split <;> simp_all
  rw [e] at this
  exact this
theorem setRow_below {B : Nat} {w W : World} (h : Below B w W) {g : Nat} (hg : B ≤ g) (cs : Array Value) : Below B w (W.setRow g cs) :=
  h.trans ⟨rfl, rfl, rfl, by simp [World.setRow], fun k hk => setRow_other _ _ _ _ (by omega)⟩
/-- The states of the page's making. -/
def PhiP (w7 : World) (x y : Int) (i : Nat) (f : Nat → Value) (W : World) : Prop :=
  Below w7.heap.size w7 W ∧ (i = 0 ∨ ∃ gp, f 11 = .pointer (some ⟨gp, 0, none⟩) ∧ w7.heap.size ≤ gp ∧ ((i = 1 ∧ BoxedP 0 0 gp W) ∨ (2 ≤ i ∧ BoxedP x y gp W)))
theorem PhiP.loc (w7 : World) (x y : Int) : ∀ i f g W, (∀ t ∈ [11], f t = g t) → PhiP w7 x y i f W → PhiP w7 x y i g W := by
  intro i f g W h hΦ
  have h11 := h 11 (by simp)
  unfold PhiP at *
  rw [← h11]
  exact hΦ
/-- The numbers of an erase's loop. -/
theorem erase_nums {x nb np N : Nat} (hx : x < nb) (hb : nb ≤ 34) (hN : N = nb * np) (hNb : N ≤ 34 * 32) : ∃ Z Z2 : Nat, Z = x * np ∧ Z2 = Z + np ∧ Z ≤ Z2 ∧ Z2 ≤ N ∧ wrap64 ((x : Int) * (np : Int)) = (Z : Int) ∧ wrap64 (((x : Int) + 1) * (np : Int)) = (Z2 : Int) ∧ wrap64 ((x : Int) + 1) = (x : Int) + 1 ∧ Z2 ≤ 34 * 32 := by
  have h1 := Nat.mul_le_mul_right np (show x + 1 ≤ nb by omega)
  rw [Nat.add_mul, Nat.one_mul] at h1
  have h2 : (x : Int) * (np : Int) = ((x * np : Nat) : Int) := by simp
  have h3 : ((x : Int) + 1) * (np : Int) = ((x * np + np : Nat) : Int) := by rw [Int.add_mul, h2]; omega
  refine ⟨x * np, x * np + np, rfl, rfl, by omega, by omega, ?_, ?_, ?_, by omega⟩
  · rw [h2]; exact i64w (by omega)
  · rw [h3]; exact i64w (by omega)
  · exact i64w (by omega)
theorem erase_round {K Z2 N : Nat} (h : K < Z2) (hle : Z2 ≤ N) (hb : Z2 ≤ 34 * 32) : (K : Int) < (Z2 : Int) ∧ (K : Int) < (N : Int) ∧ K < N ∧ wrap64 ((K : Int) + 1) = ((K + 1 : Nat) : Int) := by
  refine ⟨by omega, by omega, by omega, ?_⟩
  rw [i64w (by omega)]; rfl
theorem erase_wants (want : Nat → List UInt8) (Z K : Nat) (h : Z ≤ K) : upd (fun q => if Z ≤ q ∧ q < K then [] else want q) K [] = fun q => if Z ≤ q ∧ q < K + 1 then [] else want q := by
  funext q
  unfold upd
  by_cases e : q = K
  · subst e; rw [if_pos rfl, if_pos (by omega)]
  · rw [if_neg e]
    show (if Z ≤ q ∧ q < K then [] else want q) = _
    by_cases e2 : Z ≤ q ∧ q < K
    · rw [if_pos e2, if_pos (by omega)]
    · rw [if_neg e2, if_neg (by omega)]
theorem erase_none (want : Nat → List UInt8) (Z : Nat) : (fun q => if Z ≤ q ∧ q < Z then [] else want q) = want := by funext q; rw [if_neg (by omega)]
theorem meas {K Z2 : Nat} (h : K < Z2) : Z2 - (intOf (.int .i64 ((K + 1 : Nat) : Int))).toNat < Z2 - (intOf (.int .i64 (K : Int))).toNat := by
  show Z2 - ((K + 1 : Nat) : Int).toNat < Z2 - (K : Int).toNat
  omega
/-- The states of a program that is laid out: the bytes made, the device programmed. -/
def PhiF (w8 : World) (l : List UInt8) (s : Nat) (R : World → Prop) (i : Nat) (f : Nat → Value) (W : World) : Prop :=
  (i = 0 ∧ Below w8.heap.size w8 W) ∨ (i = 1 ∧ Below w8.heap.size w8 W ∧ ∃ A c, f s = .slice A 256 c ∧ LiesT W W.heap.size A l) ∨ (2 ≤ i ∧ R W)
theorem PhiF.loc (w8 : World) (l : List UInt8) (s : Nat) (R : World → Prop) : ∀ i f g W, (∀ t ∈ [s], f t = g t) → PhiF w8 l s R i f W → PhiF w8 l s R i g W := by
  intro i f g W h hΦ
  have h11 := h s (by simp)
  unfold PhiF at *
  rw [← h11]
  exact hΦ
theorem PhiF.tch {w8 : World} {l : List UInt8} {s : Nat} {R : World → Prop} {S : List Nat} (hR : ∀ W, R W → Tch S w8 W) {i : Nat} {f : Nat → Value} {W : World} (h : PhiF w8 l s R i f W) : Tch S w8 W := by
  rcases h with ⟨_, h⟩ | ⟨_, h, _⟩ | ⟨_, h⟩
  · exact Tch.of_below h
  · exact Tch.of_below h
  · exact hR W h
theorem PhiF.at0 {w8 : World} {l : List UInt8} {s : Nat} {R : World → Prop} {f : Nat → Value} {W : World} (h : PhiF w8 l s R 0 f W) : Below w8.heap.size w8 W := by
  rcases h with ⟨_, h⟩ | ⟨h, _⟩ | ⟨h, _⟩
  · exact h
  · cases h
  · omega
theorem PhiF.at1 {w8 : World} {l : List UInt8} {s : Nat} {R : World → Prop} {f : Nat → Value} {W : World} (h : PhiF w8 l s R 1 f W) : Below w8.heap.size w8 W ∧ ∃ A c, f s = .slice A 256 c ∧ LiesT W W.heap.size A l := by
  rcases h with ⟨h, _⟩ | ⟨_, h⟩ | ⟨h, _⟩
  · cases h
  · exact h
  · omega
theorem PhiF.at2 {w8 : World} {l : List UInt8} {s : Nat} {R : World → Prop} {f : Nat → Value} {W : World} (h : PhiF w8 l s R 2 f W) : R W := by
  rcases h with ⟨h, _⟩ | ⟨h, _⟩ | ⟨_, h⟩
  · cases h
  · cases h
  · exact h
/-- What a program answers, and what it leaves. -/
theorem prog_all {w : World} {B0 B : Nat} {D : Dv} {k kb kp km : Nat} (h : DevAt w B0 B D k kb kp km) (hB : B ≤ w.heap.size) (hd : D.dn = false) (hops : D.ops < 1000000) {x : Nat} (hx : x < D.nb) (b : List UInt8) (hb : b.length = 256) :
    ∃ D2 f0, ((D2 = D ∧ (f0 = 3 ∨ f0 = 12)) ∨ (D2 = D.progd x b ∧ (f0 = 0 ∨ f0 = 10 ∨ f0 = 9) ∧ D.nx x < D.np)) ∧ ∀ W A c, Below w.heap.size w W → LiesT W W.heap.size A b →
      Calls Try.prog 14 #[.pointer (some ⟨k, 0, none⟩), .agg #[.int .i64 (x : Int), .int .i64 (D.nx x : Int)], .slice A 256 c] W fun e W' => e = .returned (.int .i64 f0) ∧ DevAt W' B0 B D2 k kb kp km ∧ Tch [k, kb, kp] w W' := by
  obtain ⟨s1, s2, s3, s4, s5, s6⟩ := h.sides
  have hnx := h.next x hx
  by_cases hful : D.nx x = D.np
  · refine ⟨D, 3, .inl ⟨rfl, .inl rfl⟩, fun W A c hW _ => (prog_out (h.below (hW.mono hB)) (Nat.le_trans hB hW.size) x (D.nx x) A 256 c hd ?_).mono ?_⟩
    · rintro ⟨_, _, _, h4⟩
      rw [s6] at h4
      omega
    · rintro e W' ⟨he, hb'⟩
      exact ⟨he, h.below ((hW.trans (hb'.mono hW.size)).mono hB), Tch.of_below (hW.trans (hb'.mono hW.size))⟩
  · have hlt : D.nx x < D.np := by omega
    cases hbad : D.bad x with
    | true =>
      refine ⟨D, 12, .inl ⟨rfl, .inr rfl⟩, fun W A c hW _ => (prog_marked (h.below (hW.mono hB)) (Nat.le_trans hB hW.size) x (D.nx x) A c hd hx hlt hbad).mono ?_⟩
      rintro e W' ⟨he, hb'⟩
      exact ⟨he, h.below ((hW.trans (hb'.mono hW.size)).mono hB), Tch.of_below (hW.trans (hb'.mono hW.size))⟩
    | false =>
      refine ⟨D.progd x b, D.err, .inr ⟨rfl, ?_, hlt⟩, fun W A c hW hl => (prog_ok (h.below (hW.mono hB)) (Nat.le_trans hB hW.size) x A c b hd hx hlt hbad hops hl hb).mono ?_⟩
      · unfold Dv.err
        split
        · exact .inr (.inl rfl)
        · split
          · exact .inr (.inr rfl)
          · exact .inl rfl
      · rintro e W' ⟨he, hd', ht'⟩
        exact ⟨he, hd', (Tch.of_below hW).trans ht'⟩
/-- The numbers of a page's place. -/
theorem page_nums {x y nb np N : Nat} (hx : x < nb) (hb : nb ≤ 34) (hN : N = nb * np) (hNb : N ≤ 34 * 32) (hy : y < np) : ∃ Z I : Nat, Z = x * np ∧ I = x * np + y ∧ I < N ∧ (I : Int) < (N : Int) ∧ wrap64 ((x : Int) * (np : Int)) = (Z : Int) ∧ IntKind.i64.wrap ((x : Int) * (np : Int)) = (Z : Int) ∧ wrap64 ((Z : Int) + (y : Int)) = (I : Int) ∧ IntKind.i64.wrap ((Z : Int) + (y : Int)) = (I : Int) := by
  have h0 := lt_mul hx hy
  rw [← hN] at h0
  have e1 : (x : Int) * (np : Int) = ((x * np : Nat) : Int) := (Int.natCast_mul x np).symm
  rw [e1]
  generalize x * np = Z at *
  have e2 : (Z : Int) + (y : Int) = ((Z + y : Nat) : Int) := (Int.natCast_add Z y).symm
  refine ⟨Z, Z + y, rfl, rfl, h0, Int.ofNat_lt.2 h0, i64w (by omega), IntWalk.i64_in _ (by omega), ?_, ?_⟩
  · rw [e2]; exact i64w (by omega)
  · rw [e2]; exact IntWalk.i64_in _ (by omega)
/-- The states of a page's bytes put down. -/
def PhiW (w9 : World) (l : List UInt8) (gw I : Nat) (i : Nat) (f : Nat → Value) (W : World) : Prop :=
  (i ≤ 2 ∧ Below w9.heap.size w9 W ∧ (i = 1 → ∃ A c, f 163 = .slice A 256 c ∧ LiesT W W.heap.size A l)) ∨ (3 ≤ i ∧ ∃ W0, Below w9.heap.size w9 W0 ∧ W = W0.setCell ⟨gw, I, none⟩ (.string (str l)))
theorem PhiW.loc (w9 : World) (l : List UInt8) (gw I : Nat) : ∀ i f g W, (∀ t ∈ [163], f t = g t) → PhiW w9 l gw I i f W → PhiW w9 l gw I i g W := by
  intro i f g W h hΦ
  have h11 := h 163 (by simp)
  unfold PhiW at *
  rw [← h11]
  exact hΦ
theorem PhiW.cell {w9 : World} {l : List UInt8} {gw I i : Nat} {f : Nat → Value} {W : World} (h : PhiW w9 l gw I i f W) {p : Addr} {v : Value} (hp : p.block ≠ gw) (hc : w9.cell? p = some v) : W.cell? p = some v := by
  rcases h with ⟨_, h, _⟩ | ⟨_, W0, h, rfl⟩
  · exact (h.cell (World.block_lt_of_cell? w9 p hc)).trans hc
  · refine (World.cell?_setCell_other _ _ _ _ (fun e => hp ?_)).trans ((h.cell (World.block_lt_of_cell? w9 p hc)).trans hc)
    exact (congrArg Addr.block e).symm
theorem PhiW.at0 {w9 : World} {l : List UInt8} {gw I : Nat} {f : Nat → Value} {W : World} {i : Nat} (hi : i ≤ 2) (h : PhiW w9 l gw I i f W) : Below w9.heap.size w9 W := by
  rcases h with ⟨_, h, _⟩ | ⟨h, _⟩
  · exact h
  · omega
theorem q2b {P : Program} {f : FuncId} {args : Array Value} {w : World} {v : Value} (h : Calls P f args w fun e w' => e = .returned v ∧ w = w') : Calls P f args w fun e w' => e = .returned v ∧ Below w.heap.size w w' :=
  h.mono fun _ _ ⟨h1, h2⟩ => ⟨h1, h2 ▸ Below.refl _ _⟩
/-- The numbers of the page that is read. -/
theorem read_nums {x y nb np N : Nat} (hx : x < nb) (hb : nb ≤ 34) (hN : N = nb * np) (hNb : N ≤ 34 * 32) (hy : y ≤ np) (hp : 4 ≤ np) (hp2 : np ≤ 32) : ∃ Z I m : Nat, m < np ∧ I = x * np + m ∧ I < N ∧ (I : Int) < (N : Int) ∧ min (y : Int) ((np : Int) - 1) = (m : Int) ∧ wrap64 ((np : Int) - 1) = (np : Int) - 1 ∧ wrap64 ((x : Int) * (np : Int)) = (Z : Int) ∧ IntKind.i64.wrap ((x : Int) * (np : Int)) = (Z : Int) ∧ wrap64 ((Z : Int) + (m : Int)) = (I : Int) ∧ IntKind.i64.wrap ((Z : Int) + (m : Int)) = (I : Int) ∧
    IntKind.i64.wrap ((np : Int) - 1) = (np : Int) - 1 ∧ (I : Int).tdiv (np : Int) = (x : Int) ∧ (I : Int).tmod (np : Int) = (m : Int) ∧ (I : Int) / (np : Int) = (x : Int) ∧ (I : Int) % (np : Int) = (m : Int) ∧ IntKind.i64.wrap (x : Int) = (x : Int) ∧ IntKind.i64.wrap (m : Int) = (m : Int) ∧ wrap64 (x : Int) = (x : Int) ∧ wrap64 (m : Int) = (m : Int) ∧ ((np : Int) == 0) = false := by
  have hm : min y (np - 1) < np := by omega
  have h0 := lt_mul hx hm
  rw [← hN] at h0
  have e1 : (x : Int) * (np : Int) = ((x * np : Nat) : Int) := (Int.natCast_mul x np).symm
  have d1 : (x * np + min y (np - 1)) / np = x := by rw [Nat.mul_comm, Nat.mul_add_div (by omega), Nat.div_eq_of_lt hm]; rfl
  have d2 : (x * np + min y (np - 1)) % np = min y (np - 1) := by rw [Nat.mul_comm, Nat.mul_add_mod, Nat.mod_eq_of_lt hm]
  generalize hm2 : min y (np - 1) = m at *
  rw [e1]
  generalize x * np = Z at *
  have e2 : (Z : Int) + (m : Int) = ((Z + m : Nat) : Int) := (Int.natCast_add Z m).symm
  have d3 : ((Z + m : Nat) : Int) / (np : Int) = (x : Int) := by rw [← Int.natCast_ediv, d1]
  have d4 : ((Z + m : Nat) : Int) % (np : Int) = (m : Int) := by rw [← Int.natCast_emod, d2]
  refine ⟨Z, Z + m, m, hm, rfl, h0, Int.ofNat_lt.2 h0, by omega, i64w (by omega), i64w (by omega), IntWalk.i64_in _ (by omega), ?_, ?_, IntWalk.i64_in _ (by omega), ?_, ?_, d3, d4, IntWalk.i64_in _ (by omega), IntWalk.i64_in _ (by omega), i64w (by omega), i64w (by omega), ?_⟩
  · rw [e2]; exact i64w (by omega)
  · rw [e2]; exact IntWalk.i64_in _ (by omega)
  · rw [Int.tdiv_eq_ediv_of_nonneg (by omega)]; exact d3
  · rw [Int.tmod_eq_emod_of_nonneg (by omega)]; exact d4
  · rw [beq_eq_false_iff_ne]; omega
/-- The states of a page read: the great operations' slots, one behind the other. -/
def PhiR (w0 : World) (l : List UInt8) (i : Nat) (f : Nat → Value) (W : World) : Prop :=
  Below w0.heap.size w0 W ∧ (i = 0 ∨ ∃ A c, LiesT W W.heap.size A l ∧ ((i = 1 ∧ f 195 = .tuple #[.slice A 256 c, .int .i64 0]) ∨ (i = 2 ∧ f 182 = .tuple #[.slice A 256 c, .int .i64 0]) ∨ (i = 3 ∧ f 196 = .slice A 256 c) ∨ (4 ≤ i ∧ f 15 = .slice A 256 c)))
theorem PhiR.loc (w0 : World) (l : List UInt8) : ∀ i f g W, (∀ t ∈ [195, 182, 196, 15], f t = g t) → PhiR w0 l i f W → PhiR w0 l i g W := by
  intro i f g W h hΦ
  have h1 := h 195 (by simp)
  have h2 := h 182 (by simp)
  have h3 := h 196 (by simp)
  have h4 := h 15 (by simp)
  unfold PhiR at *
  rw [← h1, ← h2, ← h3, ← h4]
  exact hΦ
section
variable {w0 W : World} {l : List UInt8} {f : Nat → Value}
theorem PhiR.at1 (h : PhiR w0 l 1 f W) : Below w0.heap.size w0 W ∧ ∃ A c, LiesT W W.heap.size A l ∧ f 195 = .tuple #[.slice A 256 c, .int .i64 0] := by
  obtain ⟨hb, h | ⟨A, c, hl, ⟨_, h⟩ | ⟨h, _⟩ | ⟨h, _⟩ | ⟨h, _⟩⟩⟩ := h
  · cases h
  · exact ⟨hb, A, c, hl, h⟩
  all_goals exact absurd h (by decide)
theorem PhiR.at2 (h : PhiR w0 l 2 f W) : Below w0.heap.size w0 W ∧ ∃ A c, LiesT W W.heap.size A l ∧ f 182 = .tuple #[.slice A 256 c, .int .i64 0] := by
  obtain ⟨hb, h | ⟨A, c, hl, ⟨h, _⟩ | ⟨_, h⟩ | ⟨h, _⟩ | ⟨h, _⟩⟩⟩ := h
  · cases h
  · exact absurd h (by decide)
  · exact ⟨hb, A, c, hl, h⟩
  all_goals exact absurd h (by decide)
theorem PhiR.at3 (h : PhiR w0 l 3 f W) : Below w0.heap.size w0 W ∧ ∃ A c, LiesT W W.heap.size A l ∧ f 196 = .slice A 256 c := by
  obtain ⟨hb, h | ⟨A, c, hl, ⟨h, _⟩ | ⟨h, _⟩ | ⟨_, h⟩ | ⟨h, _⟩⟩⟩ := h
  · cases h
  · exact absurd h (by decide)
  · exact absurd h (by decide)
  · exact ⟨hb, A, c, hl, h⟩
  · exact absurd h (by decide)
theorem PhiR.at4 (h : PhiR w0 l 4 f W) : Below w0.heap.size w0 W ∧ ∃ A c, LiesT W W.heap.size A l ∧ f 15 = .slice A 256 c := by
  obtain ⟨hb, h | ⟨A, c, hl, ⟨h, _⟩ | ⟨h, _⟩ | ⟨h, _⟩ | ⟨_, h⟩⟩⟩ := h
  · cases h
  · exact absurd h (by decide)
  · exact absurd h (by decide)
  · exact absurd h (by decide)
  · exact ⟨hb, A, c, hl, h⟩
end
theorem str_neq {l : List UInt8} (h : ¬ l = []) : ¬ (str l).toList = [] := by
  rw [ByteArray.toList_eq]
  simpa [str] using h
theorem strBytes (W : World) (s : List UInt8) : ∃ c W', (convert 9 40 (.string (str s))).run Try.prog W = .ok (.slice (some ⟨W.heap.size, 0, none⟩) s.length c) W' ∧ Below W.heap.size W W' ∧ Lies W' W'.heap.size (some ⟨W.heap.size, 0, none⟩) (bys s) := by
  have hr := run_bytes_of_string (P := Try.prog) W 9 40 5 (str s) Try.underlying9 Try.underlying40 Try.underlying5
  have hz : (str s).size = s.length := str_size s
  generalize hcp : grownCap W (str s).size 0 5 = cp at hr
  rw [hz] at hr
  refine ⟨_, _, hr, ((Below.refl _ W).drew).alloc (Nat.le_refl _) _, .inr ⟨_, rfl, by simp, ?_⟩⟩
  intro j u hj
  have hjl : j < s.length := by have := (List.getElem?_eq_some_iff.1 hj).1; rwa [bys_len] at this
  rw [bys_at s j hjl] at hj
  cases hj
  have e : (⟨W.heap.size, 0, none⟩ : Addr).add j = ⟨W.heap.size, j, none⟩ := by unfold Addr.add; split <;> simp_all
  rw [e, show (⟨W.heap.size, j, none⟩ : Addr) = ⟨W.drew.heap.size, j, none⟩ from rfl, World.cell?_alloc_mark, bytesRow_at (str s) _ j (by simpa [str] using hjl)]
  simp [str]
theorem infoPlc : (Try.prog.info? 39).map (·.size) = some 2 := by kernel_rfl
theorem infoAct : (Try.prog.info? 42).map (·.size) = some 4 := by kernel_rfl

end Go.Proofs.Ytppecnimpnlipaa
