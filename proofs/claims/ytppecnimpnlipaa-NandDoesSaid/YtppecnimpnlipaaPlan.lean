/-
  PLANS AND BYTES OF LAYER 14's STATEMENTS: Light, full; plans as cells.
-/
import Derived.Test.YtppecnimpnlipaaDev8
import Derived.Test.YtppecnimpnlipaaCov2
import Derived.Test.YtppecnimpnlipaaClone
import Derived.Test.YtppecnimpnlipaaAwakeh
namespace Go.Proofs.Ytppecnimpnlipaa
open Go.RowKit

/-- A plan that came in. -/
structure Pn where
  g : Gm
  A1 : Option Addr
  n1 : Nat
  c1 : Nat
  bl : List Int
  A2 : Option Addr
  n2 : Nat
  c2 : Nat
  fl : List Flt
def Pn.cells (q : Pn) : List Value := [.int .i64 q.g.b, .int .i64 q.g.p, .int .i64 q.g.r, .slice q.A1 q.n1 q.c1, .slice q.A2 q.n2 q.c2]
def Pn.val (q : Pn) : Value := .agg #[.int .i64 q.g.b, .int .i64 q.g.p, .int .i64 q.g.r, .slice q.A1 q.n1 q.c1, .slice q.A2 q.n2 q.c2]
structure Pn.Ok (w : World) (B : Nat) (q : Pn) : Prop where
  l1 : Lies w B q.A1 (i64s q.bl)
  h1 : q.n1 = q.bl.length
  l2 : Lies w B q.A2 (q.fl.flatMap Flt.cells)
  h2 : q.n2 = q.fl.length
  h3 : ∀ f ∈ q.fl, f.Ok w B
theorem Pn.Ok.below {w w' : World} {B : Nat} {q : Pn} (h : q.Ok w B) (hb : Below B w w') : q.Ok w' B := ⟨h.l1.below hb, h.h1, h.l2.below hb, h.h2, fun f hf => (h.h3 f hf).below hb⟩
def Pn.light (q : Pn) : Bool := decide (q.n1 ≤ 60) && decide (q.n2 ≤ 40) && q.fl.all fun f => decide (f.n ≤ 300)
/-- A plan in its box. -/
def BoxQ (q : Pn) (k : Nat) (w : World) : Prop := w.heap[k]? = some (.cells q.cells.toArray 27 (0, 0))
theorem BoxQ.below {q : Pn} {k B : Nat} {w w' : World} (h : BoxQ q k w) (hb : Below B w w') (hk : k < B) : BoxQ q k w' := (hb.block k hk).trans h
theorem BoxQ.c {q : Pn} {k : Nat} {w : World} (h : BoxQ q k w) (j : Nat) (v : Value) (hj : q.cells[j]? = some v) : w.cell? ⟨k, j, none⟩ = some v := by
  have := World.news_of_block h j v (by simpa using hj)
  have e : (⟨k, 0, none⟩ : Addr).add j = ⟨k, j, none⟩ := by unfold Addr.add; split <;> simp_all
  rw [e] at this
  exact this
theorem add_off (x : Addr) (n : Nat) : x.add (n + 1) = ⟨x.block, x.off + (n + 1), none⟩ := by
  unfold Addr.add; simp

set_option maxRecDepth 4000 in
theorem light_any (q : Pn) (B : Nat) (w : World) (hq : q.Ok w B) (hB : B ≤ w.heap.size) : Calls Try.prog 8 #[q.val] w fun e w' => e = .returned (.bool q.light) ∧ Below w.heap.size w w' := by
  obtain ⟨l1, h1, l2, h2, h3⟩ := hq
  have Hb := hide ((Below.refl w.heap.size w).alloc (Nat.le_refl _) (.cells #[.int .i64 q.g.b, .int .i64 q.g.p, .int .i64 q.g.r, .slice q.A1 q.n1 q.c1, .slice q.A2 q.n2 q.c2] 27))
  have hlight : q.light = (decide (q.n1 ≤ 60) && decide (q.n2 ≤ 40) && q.fl.all fun f => decide (f.n ≤ 300)) := rfl
  rcases q with ⟨⟨gb, gp, gr⟩, A1, n1, c1, bl, A2, n2, c2, fl⟩
  simp only [Pn.val] at *
  generalize Pn.light _ = R at *
  by_cases h60 : (60 : Int) < (n1 : Int)
  · rw [decide_eq_false (by omega), Bool.false_and, Bool.false_and] at hlight
    subst hlight
    clear l1 l2 h1 h2 h3
    go_enter Try.func8, Try.ntmps8
    go_wp2
    go_ret
    exact ⟨rfl, Hb.out⟩
  · by_cases h40 : (40 : Int) < (n2 : Int)
    · rw [decide_eq_false (p := n2 ≤ 40) (by omega), Bool.and_false, Bool.false_and] at hlight
      subst hlight
      clear l1 l2 h1 h2 h3
      go_enter Try.func8, Try.ntmps8
      go_wp2
      go_ret
      exact ⟨rfl, Hb.out⟩
    · rw [decide_eq_true (show n1 ≤ 60 by omega), decide_eq_true (show n2 ≤ 40 by omega), Bool.true_and, Bool.true_and] at hlight
      have Hl := hide hlight
      have H2 := hide h2
      have HL2 := hide (l2.below (Hb.out.mono hB))
      have hn40 : n2 ≤ 40 := by omega
      clear hlight h2 l1 l2 h1 h3
      go_enter Try.func8, Try.ntmps8
      go_wp2
      go_loop [3] (fun i => ∃ j : Nat, j ≤ n2 ∧ i = .int .i64 (j : Int) ∧ Hid ((fl.take j).all (fun f => decide (f.n ≤ 300)) = true)) (fun i => n2 - (intOf i).toNat)
      case atStart => exact ⟨0, Nat.zero_le _, rfl, hide (by simp)⟩
      case round =>
        obtain ⟨j, hj, rfl, hal⟩ := hrel
        by_cases hlt : j < n2
        · have hjl : j < fl.length := by rw [← H2.out]; exact hlt
          have hlt' : (j : Int) < (n2 : Int) := by omega
          obtain ⟨a, rfl, hab, hca⟩ := HL2.out.elem Flt.cells_len hjl (by decide)
          have Htk := hide (show fl.take (j + 1) = fl.take j ++ [fl[j]] from by rw [List.take_append_getElem])
          have Hmem := hide (List.getElem_mem hjl)
          have e1 : wrap64 ((j : Int) + 1) = ((j + 1 : Nat) : Int) := by rw [i64w (by omega)]; rfl
          generalize fl[j] = f at *
          have c2 := hca 2 (.slice f.A f.n f.c) rfl
          rw [add_off] at c2
          clear hca hjl
          by_cases hm : (300 : Int) < (f.n : Int)
          · have hR : R = false := by
              rw [Hl.out, ← Bool.not_eq_true, List.all_eq_true]
              intro h
              have := h f Hmem.out
              rw [decide_eq_true_eq] at this
              omega
            go_wp2
            go_ret
            exact ⟨by first | rfl | exact ret_bool hR.symm, Hb.out⟩
          · have hm2 : f.n ≤ 300 := by omega
            have Hnew := hide (show (fl.take (j + 1)).all (fun f => decide (f.n ≤ 300)) = true by rw [Htk.out, List.all_append, hal.out]; simp [hm2])
            clear hm2
            go_wp2
            go_round
            case rel => exact ⟨j + 1, by omega, rfl, Hnew⟩
            case measure => simp [intOf]; omega
        · obtain rfl : j = n2 := by omega
          have hR : R = true := by
            have := hal.out
            rw [List.take_of_length_le (Nat.le_of_eq H2.out.symm)] at this
            rw [Hl.out]; exact this
          go_wp2
          go_ret
          exact ⟨by first | rfl | exact ret_bool hR.symm, Hb.out⟩

def fullB (l : List UInt8) (i : Nat) : UInt8 := if l.length = 0 then UInt8.ofNat i else l.getD (i % l.length) 0
def fullL (l : List UInt8) : List UInt8 := (List.range 256).map (fullB l)
theorem fullL_len (l : List UInt8) : (fullL l).length = 256 := by simp [fullL]

set_option maxRecDepth 4000 in
set_option maxHeartbeats 400000 in
theorem full_any (A : Option Addr) (n c B : Nat) (l : List UInt8) (w : World) (hl : Lies w B A (bys l)) (hn : n = l.length) (hB : B ≤ w.heap.size) (hbig : n ≤ 1000000) :
    Calls Try.prog 15 #[.slice A n c] w fun e w' => ∃ A' c', e = .returned (.slice A' 256 c') ∧
      w'.ownsRow w.heap.size 5 1 (.slice A' 256 c') 256 (bys (fullL l)) ∧ Below w.heap.size w w' := by
  have Hl := hide hl
  have Hn := hide hn
  clear hl hn
  go_enter Try.func15, Try.ntmps15
  go_wp2
  go_loopw [3, 4] (fun o i wr => ∃ j : Nat, j ≤ 256 ∧ i = .int .i64 (j : Int) ∧ ∃ A c, o = .slice A j c ∧
      wr.ownsRow w.heap.size 5 1 (.slice A j c) j (bys ((List.range j).map (fullB l))) ∧ Below w.heap.size w wr) (fun _ i _ => 256 - (intOf i).toNat)
  case atStart => exact ⟨0, Nat.zero_le _, rfl, none, 0, rfl, World.ownsRow_nil _ _ _ _, Below.refl _ _⟩
  case round =>
    obtain ⟨j, hj, rfl, A1, c1, rfl, ho, hb⟩ := hrel
    have Ho := hide ho
    have Hb := hide hb
    clear ho
    have hsz := hb.size
    by_cases hlt : j < 256
    · have hlt' : (j : Int) < 256 := by omega
      have e1 : wrap64 ((j : Int) + 1) = ((j + 1 : Nat) : Int) := by rw [i64w (by omega)]; rfl
      by_cases h0 : n = 0
      · subst h0
        have hx : IntKind.u8.wrap (j : Int) = ((fullB l j).toNat : Int) := by
          unfold fullB
          rw [if_pos Hn.out.symm, IntKind.wrap_u8']
          simp
        clear hb
        go_wp2_with (at_builtin; refine wpl_app _ rfl u8elems (.tmp 22) (.tmp 24) rfl w.heap.size (.slice A1 j c1) j _ rfl (Ho.out.alloc _) (wr.heap.size + 1) (some ⟨wr.heap.size, 0, none⟩) 1 1 _ rfl (by rfl) (Lies.new wr _ _ _ _ (by omega)) (by simp [Value.oneCell']) (by unfold maxLen; omega) (by omega) (by simp; omega) ?_; intro A4 c4 w1 hown1 hg1 hat1; have Ho1 := hide hown1; have Hb1 := hide hg1; clear hown1 hg1 hat1)
        have hb1 : Below w.heap.size w w1 := (Hb.out.alloc hsz _).grown Hb1.out (by simp; omega) (fun g hg => (Ho.out.lt g hg).1)
        refine ⟨⟨j + 1, by omega, by go_num, A4, c4, rfl, ?_, hb1⟩, by simp [intOf]; omega⟩
        have h3 := Ho1.out
        rw [bys_snoc]
        first | exact h3 | (rw [hx] at h3; exact h3)
      · have hpos : (0 : Int) < (n : Int) := by omega
        have hne : ((n : Int) == 0) = false := by rw [beq_eq_false_iff_ne]; omega
        obtain ⟨k, hk, hk8⟩ : ∃ k, k = j % n ∧ k < n := ⟨_, rfl, Nat.mod_lt _ (by omega)⟩
        have e2 : (j : Int) % (n : Int) = (k : Int) := by rw [hk]; simp
        have hx : fullB l j = l.getD k 0 := by unfold fullB; rw [if_neg (by have := Hn.out; omega), hk, Hn.out]
        obtain ⟨a, rfl, _, hc⟩ := (Hl.out.below (hb.mono hB)).byte (k := k) (by have := Hn.out; omega)
        rw [← hx] at hc
        have hkk : (k : Int) < (n : Int) := by omega
        generalize hz : (fullB l j).toNat = z at hc
        have Hz := hide hz
        clear hb hk hx hz h0
        go_wp2_with (at_builtin; refine wpl_app _ rfl u8elems (.tmp 22) (.tmp 24) rfl w.heap.size (.slice A1 j c1) j _ rfl (Ho.out.alloc _) (wr.heap.size + 1) (some ⟨wr.heap.size, 0, none⟩) 1 1 _ rfl (by rfl) (Lies.new wr _ _ _ _ (by omega)) (by simp [Value.oneCell']) (by unfold maxLen; omega) (by omega) (by simp; omega) ?_; intro A4 c4 w1 hown1 hg1 hat1; have Ho1 := hide hown1; have Hb1 := hide hg1; clear hown1 hg1 hat1)
        have hb1 : Below w.heap.size w w1 := (Hb.out.alloc hsz _).grown Hb1.out (by simp; omega) (fun g hg => (Ho.out.lt g hg).1)
        refine ⟨⟨j + 1, by omega, by go_num, A4, c4, rfl, ?_, hb1⟩, by simp [intOf]; omega⟩
        have h3 := Ho1.out
        rw [bys_snoc, Hz.out]
        exact h3
    · obtain rfl : j = 256 := by omega
      go_wp2
      go_ret
      exact ⟨A1, c1, rfl, Ho.out, Hb.out⟩
end Go.Proofs.Ytppecnimpnlipaa
