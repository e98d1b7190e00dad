/-
  THE REFERENCE OF LAYER 14: where its device lies; Has, Here, end, fault.
-/
import Derived.Test.YtahipfmokbiklaaRd2
import Derived.Test.YtahipfmokbiklaaPlan
namespace Go.Proofs.Ytahipfmokbiklaa
open Go.RowKit
open Go.Sort

/-- Block k holds n cells f, and may have room for more. -/
def RowC (w : World) (k : Nat) (t : TypeId) (n : Nat) (f : Nat → Value) : Prop := ∃ cs, w.heap[k]? = some (.cells cs t (0, 0)) ∧ n ≤ cs.size ∧ ∀ j, j < n → cs[j]? = some (f j)
section
variable {w w' : World} {k n : Nat} {t : TypeId} {f g : Nat → Value}
theorem RowC.lt (h : RowC w k t n f) : k < w.heap.size := by obtain ⟨cs, h, _⟩ := h; exact (Array.getElem?_eq_some_iff.1 h).1
theorem RowC.cell (h : RowC w k t n f) {j : Nat} (hj : j < n) : w.cell? ⟨k, j, none⟩ = some (f j) := by
  obtain ⟨cs, h, hn, hc⟩ := h
  simp [World.cell?, h, hc j hj]
theorem RowC.free (h : RowC w k t n f) (j : Nat) : w.frozen? ⟨k, j, none⟩ = false := by
  obtain ⟨cs, h, hn, hc⟩ := h
  simp [World.frozen?, h]
theorem RowC.kept (h : RowC w k t n f) (hb : w'.heap[k]? = w.heap[k]?) : RowC w' k t n f := by
  obtain ⟨cs, h, hn⟩ := h
  exact ⟨cs, hb.trans h, hn⟩
theorem RowC.congr (h : RowC w k t n f) (he : ∀ j, j < n → f j = g j) : RowC w k t n g := by
  obtain ⟨cs, h, hn, hc⟩ := h
  exact ⟨cs, h, hn, fun j hj => by rw [hc j hj, he j hj]⟩
theorem RowC.set (h : RowC w k t n f) (j : Nat) (u : Value) : RowC (w.setCell ⟨k, j, none⟩ u) k t n (fun i => if i = j then u else f i) := by
  obtain ⟨cs, h, hn, hc⟩ := h
  refine ⟨_, heap_set h j u, by simpa using hn, fun i hi => ?_⟩
  rw [Array.getElem?_setIfInBounds]
  by_cases e : i = j
  · subst e
    show _ = some (if i = i then u else f i)
    rw [if_pos rfl, if_pos (by omega), if_pos rfl]
  · show _ = some (if i = j then u else f i)
    rw [if_neg (fun h => e h.symm), if_neg e, hc i hi]
theorem RowC.of_own {w : World} {base m c n : Nat} {t : TypeId} {A : Option Addr} {xs : List Value} (h : w.ownsRow base t 1 (.slice A m c) n xs) (hn : 0 < n) : ∃ g, A = some ⟨g, 0, none⟩ ∧ m = n ∧ base ≤ g ∧ RowC w g t n (fun i => xs.getD i undef) := by
  rcases h.2 with ⟨_, h0⟩ | ⟨g, cap, cur, hv, hb, hg, hnc, _, hsz, hx⟩
  · omega
  · injection hv with hA hm _
    refine ⟨g, hA, hm, hb, cur, hg, by rw [hsz]; omega, fun j hj => ?_⟩
    have hl := h.1
    rw [Nat.mul_one] at hx hl
    have h1 : j < xs.length := by omega
    have h2 : xs[j]? = cur.toList[j]? := by rw [← hx, List.getElem?_take, if_pos hj]
    rw [show cur[j]? = cur.toList[j]? by simp, ← h2]
    simp [List.getD, List.getElem?_eq_getElem h1]
end

/-- The cells of the reference's device. -/
def Pn.dcells (q : Pn) (D : Dv) (rp rn rw cp cn cw : Nat) : Array Value :=
  #[.int .i64 D.g.b, .int .i64 D.g.p, .int .i64 D.g.r, .slice q.A1 q.n1 q.c1, .slice (some ⟨rp, 0, none⟩) (D.nb * D.np) cp, .slice (some ⟨rn, 0, none⟩) D.nb cn, .slice (some ⟨rw, 0, none⟩) D.nb cw, .slice q.A2 q.n2 q.c2, .int .i64 (D.ops : Int), .bool D.dn]
/-- The reference's device lies at r; its pages, next pages, wear at rp, rn, rw; all from B0 on and below B. -/
structure RefAt (w : World) (B0 B : Nat) (q : Pn) (D : Dv) (r rp rn rw cp cn cw : Nat) : Prop where
  lo : B0 ≤ r ∧ B0 ≤ rp ∧ B0 ≤ rn ∧ B0 ≤ rw
  hi : r < B ∧ rp < B ∧ rn < B ∧ rw < B
  ne : rn ≠ rw
  box : w.heap[r]? = some (.cells (q.dcells D rp rn rw cp cn cw) 53 (0, 0))
  pages : RowC w rp 9 (D.nb * D.np) (fun i => .string (str (D.pg i)))
  next : RowC w rn 3 D.nb (fun i => .int .i64 (D.nx i : Int))
  wear : RowC w rw 3 D.nb (fun i => .int .i64 (D.we i : Int))
  plan : q.Ok w B0
  bad : ∀ i, i < D.nb → D.bad i = decide ((i : Int) ∈ q.bl)
  ft : D.ft = firstF q.fl
  few : q.n1 ≤ 60 ∧ q.n2 ≤ 40 ∧ ∀ f ∈ q.fl, f.n ≤ 300
  right : D.g.Right
section
variable {w w' : World} {B0 B : Nat} {q : Pn} {D : Dv} {r rp rn rw cp cn cw : Nat}
theorem RefAt.sides (h : RefAt w B0 B q D r rp rn rw cp cn cw) : 8 ≤ D.nb ∧ D.nb ≤ 34 ∧ 4 ≤ D.np ∧ D.np ≤ 32 ∧ D.g.b = (D.nb : Int) ∧ D.g.p = (D.np : Int) := by
  obtain ⟨h1, h2, h3, h4, _⟩ := h.right
  unfold Dv.nb Dv.np
  omega
theorem RefAt.nes (h : RefAt w B0 B q D r rp rn rw cp cn cw) : r ≠ rp ∧ r ≠ rn ∧ r ≠ rw ∧ rp ≠ rn ∧ rp ≠ rw := by
  obtain ⟨c1, h1, _⟩ := h.pages
  obtain ⟨c2, h2, _⟩ := h.next
  obtain ⟨c3, h3, _⟩ := h.wear
  have h0 := h.box
  refine ⟨?_, ?_, ?_, ?_, ?_⟩ <;> rintro rfl
  · rw [h0] at h1; simp at h1
  · rw [h0] at h2; simp at h2
  · rw [h0] at h3; simp at h3
  · rw [h1] at h2; simp at h2
  · rw [h1] at h3; simp at h3
theorem RefAt.c (h : RefAt w B0 B q D r rp rn rw cp cn cw) (j : Nat) (v : Value) (hj : (q.dcells D rp rn rw cp cn cw)[j]? = some v) : w.cell? ⟨r, j, none⟩ = some v := by
  have h0 := h.box
  simp [World.cell?, h0, hj]
theorem RefAt.f (h : RefAt w B0 B q D r rp rn rw cp cn cw) (j : Nat) : w.frozen? ⟨r, j, none⟩ = false := by
  have h0 := h.box
  simp [World.frozen?, h0]
theorem RefAt.below (h : RefAt w B0 B q D r rp rn rw cp cn cw) (hb : Below B w w') : RefAt w' B0 B q D r rp rn rw cp cn cw :=
  ⟨h.lo, h.hi, h.ne, (hb.block _ h.hi.1).trans h.box, h.pages.kept (hb.block _ h.hi.2.1), h.next.kept (hb.block _ h.hi.2.2.1), h.wear.kept (hb.block _ h.hi.2.2.2), h.plan.below (hb.mono (Nat.le_of_lt (Nat.lt_of_le_of_lt h.lo.1 h.hi.1))), h.bad, h.ft, h.few, h.right⟩
/-- The plan is kept while the device itself is written. -/
theorem Pn.Ok.tch {S : List Nat} (h : q.Ok w B0) (hB : B0 ≤ w.heap.size) (ht : Tch S w w') (hS : ∀ k ∈ S, B0 ≤ k) : q.Ok w' B0 := h.below (ht.below hB hS)
theorem RefAt.base (h : RefAt w B0 B q D r rp rn rw cp cn cw) : B0 ≤ w.heap.size := by
  have := (Array.getElem?_eq_some_iff.1 h.box).1
  have := h.lo.1
  omega
theorem RefAt.set_ops (h : RefAt w B0 B q D r rp rn rw cp cn cw) (n : Nat) : RefAt (w.setCell ⟨r, 8, none⟩ (.int .i64 (n : Int))) B0 B q { D with ops := n } r rp rn rw cp cn cw := by
  obtain ⟨n1, n2, n3, _⟩ := h.nes
  exact ⟨h.lo, h.hi, h.ne, heap_set h.box 8 _, h.pages.kept (Below.heap_setCell _ _ _ _ (Ne.symm n1)), h.next.kept (Below.heap_setCell _ _ _ _ (Ne.symm n2)), h.wear.kept (Below.heap_setCell _ _ _ _ (Ne.symm n3)), h.plan.below ((Below.refl _ _).setCell h.lo.1 _), h.bad, h.ft, h.few, h.right⟩
theorem RefAt.set_down (h : RefAt w B0 B q D r rp rn rw cp cn cw) (b : Bool) : RefAt (w.setCell ⟨r, 9, none⟩ (.bool b)) B0 B q { D with dn := b } r rp rn rw cp cn cw := by
  obtain ⟨n1, n2, n3, _⟩ := h.nes
  exact ⟨h.lo, h.hi, h.ne, heap_set h.box 9 _, h.pages.kept (Below.heap_setCell _ _ _ _ (Ne.symm n1)), h.next.kept (Below.heap_setCell _ _ _ _ (Ne.symm n2)), h.wear.kept (Below.heap_setCell _ _ _ _ (Ne.symm n3)), h.plan.below ((Below.refl _ _).setCell h.lo.1 _), h.bad, h.ft, h.few, h.right⟩
theorem RefAt.set_page (h : RefAt w B0 B q D r rp rn rw cp cn cw) (i : Nat) (l : List UInt8) : RefAt (w.setCell ⟨rp, i, none⟩ (.string (str l))) B0 B q { D with pg := upd D.pg i l } r rp rn rw cp cn cw := by
  obtain ⟨n1, n2, n3, n4, n5⟩ := h.nes
  refine ⟨h.lo, h.hi, h.ne, (Below.heap_setCell _ _ _ _ n1).trans h.box, (h.pages.set i _).congr fun j _ => ?_, h.next.kept (Below.heap_setCell _ _ _ _ (Ne.symm n4)), h.wear.kept (Below.heap_setCell _ _ _ _ (Ne.symm n5)), h.plan.below ((Below.refl _ _).setCell h.lo.2.1 _), h.bad, h.ft, h.few, h.right⟩
  unfold upd
  by_cases e : j = i
  · rw [if_pos e]; show _ = Value.string (str (if j = i then l else D.pg j)); rw [if_pos e]
  · rw [if_neg e]; show _ = Value.string (str (if j = i then l else D.pg j)); rw [if_neg e]
theorem RefAt.set_next (h : RefAt w B0 B q D r rp rn rw cp cn cw) (i n : Nat) : RefAt (w.setCell ⟨rn, i, none⟩ (.int .i64 (n : Int))) B0 B q { D with nx := upd D.nx i n } r rp rn rw cp cn cw := by
  obtain ⟨n1, n2, n3, n4, n5⟩ := h.nes
  refine ⟨h.lo, h.hi, h.ne, (Below.heap_setCell _ _ _ _ n2).trans h.box, h.pages.kept (Below.heap_setCell _ _ _ _ n4), (h.next.set i _).congr fun j _ => ?_, h.wear.kept (Below.heap_setCell _ _ _ _ (Ne.symm h.ne)), h.plan.below ((Below.refl _ _).setCell h.lo.2.2.1 _), h.bad, h.ft, h.few, h.right⟩
  by_cases e : j = i
  · rw [if_pos e]; show _ = Value.int .i64 ((upd D.nx i n j : Nat) : Int); rw [e, upd_same]
  · rw [if_neg e]; show _ = Value.int .i64 ((upd D.nx i n j : Nat) : Int); rw [upd_other e]
theorem RefAt.set_wear (h : RefAt w B0 B q D r rp rn rw cp cn cw) (i n : Nat) : RefAt (w.setCell ⟨rw, i, none⟩ (.int .i64 (n : Int))) B0 B q { D with we := upd D.we i n } r rp rn rw cp cn cw := by
  obtain ⟨n1, n2, n3, n4, n5⟩ := h.nes
  refine ⟨h.lo, h.hi, h.ne, (Below.heap_setCell _ _ _ _ n3).trans h.box, h.pages.kept (Below.heap_setCell _ _ _ _ n5), h.next.kept (Below.heap_setCell _ _ _ _ h.ne), (h.wear.set i _).congr fun j _ => ?_, h.plan.below ((Below.refl _ _).setCell h.lo.2.2.2 _), h.bad, h.ft, h.few, h.right⟩
  by_cases e : j = i
  · rw [if_pos e]; show _ = Value.int .i64 ((upd D.we i n j : Nat) : Int); rw [e, upd_same]
  · rw [if_neg e]; show _ = Value.int .i64 ((upd D.we i n j : Nat) : Int); rw [upd_other e]
end

set_option maxRecDepth 4000 in
theorem has_any (A : Option Addr) (n c B : Nat) (l : List Int) (z : Int) (w : World) (hl : Lies w B A (i64s l)) (hn : n = l.length) (hbig : n ≤ 1000000) :
    Calls Try.prog 13 #[.slice A n c, .int .i64 z] w fun e w' => e = .returned (.bool (decide (z ∈ l))) ∧ w = w' := by
  have Hl := hide hl
  have Hn := hide hn
  obtain ⟨R, hR⟩ : ∃ R, R = decide (z ∈ l) := ⟨_, rfl⟩
  rw [← hR]
  have HR := hide hR
  clear hl hn hR
  go_enter Try.func13, Try.ntmps13
  go_wp2
  go_loop [5] (fun i => ∃ j : Nat, j ≤ n ∧ i = .int .i64 (j : Int) ∧ Hid (R = decide (z ∈ l.drop j))) (fun i => n - (intOf i).toNat)
  case atStart => exact ⟨0, Nat.zero_le _, rfl, hide (by rw [HR.out]; rfl)⟩
  case round =>
    obtain ⟨j, hj, rfl, hd⟩ := hrel
    by_cases hlt : j < n
    · have hjl : j < l.length := by rw [← Hn.out]; exact hlt
      have hlt' : (j : Int) < (n : Int) := by omega
      obtain ⟨a, rfl, hab, hca⟩ := Hl.out.int (k := j) hjl
      have Hd := hide (show l.drop j = l[j] :: l.drop (j + 1) from List.drop_eq_getElem_cons hjl)
      have e1 : wrap64 ((j : Int) + 1) = ((j + 1 : Nat) : Int) := by rw [i64w (by omega)]; rfl
      generalize l[j] = u at *
      clear hjl
      by_cases hz : u = z
      · subst hz
        have hR2 : R = true := by rw [hd.out, Hd.out]; simp
        go_wp2
        go_ret
        exact ⟨by first | rfl | exact ret_bool hR2.symm, rfl⟩
      · have hb : (u == z) = false := beq_eq_false_iff_ne.2 hz
        have Hnew := hide (show R = decide (z ∈ l.drop (j + 1)) by rw [hd.out, Hd.out]; exact decide_eq_decide.2 (by simp [Ne.symm hz]))
        go_wp2
        go_round
        case rel => exact ⟨j + 1, by omega, rfl, Hnew⟩
        case measure => simp [intOf]; omega
    · obtain rfl : j = n := by omega
      have hR2 : R = false := by rw [hd.out, List.drop_eq_nil_of_le (by rw [Hn.out]; exact Nat.le_refl _)]; rfl
      go_wp2
      go_ret
      exact ⟨by first | rfl | exact ret_bool hR2.symm, rfl⟩

section
variable {w : World} {B0 B : Nat} {q : Pn} {D : Dv} {r rp rn rw cp cn cw : Nat}
theorem here_any (h : RefAt w B0 B q D r rp rn rw cp cn cw) (x y : Int) :
    Calls Try.prog 58 #[.pointer (some ⟨r, 0, none⟩), .agg #[.int .i64 x, .int .i64 y]] w fun e w' => e = .returned (.bool (decide (D.g.Has x y))) ∧ Below w.heap.size w w' := by
  have c0 : w.cell? ⟨r, 0, none⟩ = some (.int .i64 D.g.b) := h.c 0 _ rfl
  have c1 : w.cell? ⟨r, 1, none⟩ = some (.int .i64 D.g.p) := h.c 1 _ rfl
  have Hb := hide ((Below.refl w.heap.size w).alloc (Nat.le_refl _) (.cells #[.int .i64 x, .int .i64 y] 46))
  have Hp := hide (BoxedP.new x y w)
  obtain ⟨R, hR⟩ : ∃ R, R = decide (D.g.Has x y) := ⟨_, rfl⟩
  rw [← hR]
  have HR := hide hR
  clear hR h
  generalize D.g = g at *
  rcases g with ⟨b, p, gr⟩
  try simp only at c0 c1
  have d0 := (Hb.out.cell (World.block_lt_of_cell? _ _ c0)).trans c0
  have d1 := (Hb.out.cell (World.block_lt_of_cell? _ _ c1)).trans c1
  clear c0 c1
  by_cases h1 : 0 ≤ x
  · by_cases h2 : x < b
    · by_cases h3 : 0 ≤ y
      · by_cases h4 : y < p
        · have hR2 : R = true := by rw [HR.out]; exact decide_eq_true ⟨h1, by show x ≤ b - 1; omega, h3, by show y ≤ p - 1; omega⟩
          have q1 := decide_eq_true h1
          have q2 := decide_eq_true h2
          have q3 := decide_eq_true h3
          have q4 := decide_eq_true h4
          go_enter Try.func58, Try.ntmps58
          go_upto_region 1 with fail
          generalize w.alloc (.cells #[.int .i64 x, .int .i64 y] 46) = w1 at *
          have p0 := Hp.out.x
          have p1 := Hp.out.y
          go_quiet (fail)
          go_wp2
          go_ret
          exact ⟨by first | rfl | exact ret_bool hR2.symm, bel_drewN Hb.out _⟩
        · have hR2 : R = false := by rw [HR.out]; exact decide_eq_false fun h => h4 (by have : y ≤ p - 1 := h.2.2.2; omega)
          have q1 := decide_eq_true h1
          have q2 := decide_eq_true h2
          have q3 := decide_eq_true h3
          have q4 := decide_eq_false h4
          go_enter Try.func58, Try.ntmps58
          go_upto_region 1 with fail
          generalize w.alloc (.cells #[.int .i64 x, .int .i64 y] 46) = w1 at *
          have p0 := Hp.out.x
          have p1 := Hp.out.y
          go_quiet (fail)
          go_wp2
          go_ret
          exact ⟨by first | rfl | exact ret_bool hR2.symm, bel_drewN Hb.out _⟩
      · have hR2 : R = false := by rw [HR.out]; exact decide_eq_false fun h => h3 h.2.2.1
        have q1 := decide_eq_true h1
        have q2 := decide_eq_true h2
        have q3 := decide_eq_false h3
        go_enter Try.func58, Try.ntmps58
        go_upto_region 1 with fail
        generalize w.alloc (.cells #[.int .i64 x, .int .i64 y] 46) = w1 at *
        have p0 := Hp.out.x
        have p1 := Hp.out.y
        go_quiet (fail)
        go_wp2
        go_ret
        exact ⟨by first | rfl | exact ret_bool hR2.symm, bel_drewN Hb.out _⟩
    · have hR2 : R = false := by rw [HR.out]; exact decide_eq_false fun h => h2 (by have : x ≤ b - 1 := h.2.1; omega)
      have q1 := decide_eq_true h1
      have q2 := decide_eq_false h2
      go_enter Try.func58, Try.ntmps58
      go_upto_region 1 with fail
      generalize w.alloc (.cells #[.int .i64 x, .int .i64 y] 46) = w1 at *
      have p0 := Hp.out.x
      have p1 := Hp.out.y
      go_quiet (fail)
      go_wp2
      go_ret
      exact ⟨by first | rfl | exact ret_bool hR2.symm, bel_drewN Hb.out _⟩
  · have hR2 : R = false := by rw [HR.out]; exact decide_eq_false fun h => h1 h.1
    have q1 := decide_eq_false h1
    go_enter Try.func58, Try.ntmps58
    go_upto_region 1 with fail
    generalize w.alloc (.cells #[.int .i64 x, .int .i64 y] 46) = w1 at *
    have p0 := Hp.out.x
    have p1 := Hp.out.y
    go_quiet (fail)
    go_wp2
    go_ret
    exact ⟨by first | rfl | exact ret_bool hR2.symm, bel_drewN Hb.out _⟩

/-- What is answered of a kind. -/
theorem end_any (h : RefAt w B0 B q D r rp rn rw cp cn cw) (kd : Int) :
    Calls Try.prog 56 #[.pointer (some ⟨r, 0, none⟩), .int .i64 kd] w fun e w' => e = .returned (.int .i64 (if kd = 1 then 10 else if kd = 2 then 9 else 0)) ∧
      RefAt w' B0 B q { D with dn := if kd = 1 then D.dn else if kd = 2 then true else D.dn } r rp rn rw cp cn cw ∧ Tch [r] w w' := by
  have f9 := h.f 9
  have c9 : w.cell? ⟨r, 9, none⟩ = some (.bool D.dn) := h.c 9 _ rfl
  have Hs := hide (h.set_down true)
  have Ht := hide (Tch.set (S := [r]) (w := w) (p := ⟨r, 9, none⟩) (by simp) (.bool true))
  have H := hide h
  clear h
  by_cases h1 : kd = 1
  · subst h1
    go_enter Try.func56, Try.ntmps56
    go_wp2
    go_ret
    exact ⟨rfl, H.out, Tch.refl _ _⟩
  · have b1 : (kd == 1) = false := beq_eq_false_iff_ne.2 h1
    by_cases h2 : kd = 2
    · subst h2
      go_enter Try.func56, Try.ntmps56
      go_wp2
      go_ret
      exact ⟨rfl, Hs.out, Ht.out⟩
    · have b2 : (kd == 2) = false := beq_eq_false_iff_ne.2 h2
      rw [if_neg h1, if_neg h2, if_neg h1, if_neg h2]
      clear h1 h2
      go_enter Try.func56, Try.ntmps56
      go_wp2
      go_ret
      exact ⟨rfl, H.out, Tch.refl _ _⟩
end
end Go.Proofs.Ytahipfmokbiklaa
