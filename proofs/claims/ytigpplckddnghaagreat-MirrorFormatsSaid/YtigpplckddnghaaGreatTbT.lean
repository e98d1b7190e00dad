/-
  CONTRACTS of package table: reader and its closure; what read keeps.
  CONTRACT of table.read, first part: what is kept on the way.
  CONTRACT of table.read.
-/
import Derived.Test.YtigpplckddnghaaGreatTbQ
import Derived.Test.YtigpplckddnghaaGreatStrB
import Derived.Test.YtigpplckddnghaaGreatPgC
namespace Go.Proofs.YtigpplckddnghaaGreat
open Go.RowKit
set_option maxRecDepth 8000

/-- A reader, and the variable that holds it. -/
structure RBox (W : World) (k g : Nat) (l : List UInt8) : Prop where
  kb : W.heap[k]? = some (.cells #[.pointer (some ⟨g, 0, none⟩)] 168 (0, 0))
  rd : ∃ s, Rdr W g l s
  lt : g < k
theorem RBox.kept {W W' : World} {k g : Nat} {l : List UInt8} (h : RBox W k g l) (hk : ∀ b, b ≤ k → W'.heap[b]? = W.heap[b]?) : RBox W' k g l := by
  obtain ⟨h1, ⟨s, A, n, c, hg, hn, h2, h3, h4, hl⟩, h5⟩ := h
  exact ⟨(hk k (Nat.le_refl _)).trans h1, ⟨s, A, n, c, (hk g (by omega)).trans hg, hn, h2, h3, h4, hl.same fun p hp => World.cell?_of_block (hk p.block (by omega))⟩, h5⟩

theorem num_tb (k g : Nat) (l : List UInt8) (n : Nat) (ni : Int) (W : World) (hr : RBox W k g l) (h1 : 1 ≤ n) (h8 : n ≤ 8) (hni : ni = (n : Int)) :
    Calls Tryz.prog 125 #[.int .i64 ni, .pointer (some ⟨k, 0, none⟩)] W fun e w' => e = .returned (.int .u64 ((rd n l).1 : Nat)) ∧ RBox w' k g (rd n l).2 ∧ W.grownBy w' (some g) := by
  subst hni
  have c0 := cell_of_one hr.kb
  obtain ⟨s, hs⟩ := hr.rd
  have F := hide (n_any g l s (n : Int) W hs (by omega) (by omega))
  have HR := hide hr
  clear hs hr
  go_enter Tryz.func125, Tryz.ntmps125
  go_wp2_with fail
  (with_reducible refine F.out.mono ?_)
  rintro e w1 ⟨x, rfl, hx, hg⟩
  have HX := hide hx
  have HG := hide hg
  clear hx hg F
  go_wp2
  go_ret
  have hgk := HR.out.lt
  have hkl : k < W.heap.size := (Array.getElem?_eq_some_iff.1 HR.out.kb).1
  have hk2 := (HG.out.block k hkl (fun e => by injection e; omega)).trans HR.out.kb
  rcases HX.out with ⟨_, _, hnl, rfl, hr⟩ | ⟨hno, rfl, hr⟩
  · have e : rd n l = (numAt l 0 n, l.drop n) := by unfold rd; rw [if_pos (by omega)]
    rw [e]
    rw [Int.toNat_natCast] at *
    exact ⟨rfl, ⟨hk2, ⟨s, hr⟩, hgk⟩, HG.out⟩
  · have e : rd n l = (0, []) := by unfold rd; rw [if_neg (fun h => hno ⟨by omega, by omega, by omega⟩)]
    rw [e]
    exact ⟨rfl, ⟨hk2, ⟨true, hr⟩, hgk⟩, HG.out⟩

theorem reader_any (d : List UInt8) (w : World) (hd : d.length ≤ 1000) : Calls Tryz.prog 101 #[.string (str d)] w fun e w' => ∃ k g, e = .returned (.func (.func 125) #[] #[.pointer (some ⟨k, 0, none⟩)]) ∧ w.heap.size ≤ g ∧ k < w'.heap.size ∧ RBox w' k g d ∧ Below w.heap.size w w' := by
  obtain ⟨c, w5, hcv, hcap, hb, hl⟩ := strBytesP w d
  have HB := hide hb
  have F := hide (over_any (some ⟨w.heap.size, 0, none⟩) d.length c w5.heap.size d w5 hl rfl (by omega))
  clear hl hb hcap
  go_enter Tryz.func101, Tryz.ntmps101
  go_wp2_with fail
  (with_reducible refine F.out.mono ?_)
  rintro e w6 ⟨g, rfl, hg, hr, hb⟩
  have HG := hide hg
  have HR := hide hr
  have HB6 := hide (HB.out.trans (hb.mono HB.out.size))
  clear hg hr hb F
  go_wp2
  go_ret
  have hgl : g < w6.heap.size := by obtain ⟨_, _, _, h, _⟩ := HR.out; exact lt_of_block h
  refine ⟨w6.heap.size, g, rfl, Nat.le_trans HB.out.size HG.out, by simp, ⟨heap_alloc_new _ _, ⟨false, HR.out.keep ((Below.refl _ _).alloc (Nat.le_refl _) _)⟩, hgl⟩, HB6.out.alloc HB6.out.size _⟩

theorem i64info : (Tryz.prog.info? 3).map (fun i => (i.zero, i.size, i.bytes)) = some (some (.int .i64 0), 1, 8) := by kernel_rfl
theorem i64elems : Elems Tryz.prog 23 3 1 8 := by
  obtain ⟨i0, hi, hz0, hz1, hz2⟩ := info_parts i64info
  exact ⟨Tryz.underlying23, ⟨i0, _, hi, hz0, hz1, hz2, rfl⟩, by decide⟩
/-- The table that is being read: its three rows are the call's own, and lie apart. -/
def RowsT (tb B1 : Nat) (t : Tb) (W : World) : Prop := ∃ v1 v2 v3, W.heap[tb]? = some (.cells #[.int .u64 (t.seq : Int), v1, v2, v3] 26 (0, 0)) ∧
  W.ownsRow B1 3 1 v1 t.bad.length (nums .i64 t.bad) ∧ W.ownsRow B1 3 1 v2 t.wear.length (nums .i64 t.wear) ∧ W.ownsRow B1 22 1 v3 t.void.length (nums .u64 t.void) ∧ (v1.ownBlock = none ∨ v2.ownBlock ≠ v1.ownBlock)
/-- Two rows of different element types are not one. -/
theorem own_ne2 {W : World} {B n m s : Nat} {e1 e2 : TypeId} {v u : Value} {xs ys : List Value} (h1 : W.ownsRow B e1 1 v n xs) (h2 : W.ownsRow s e2 1 u m ys) (hne : e1 ≠ e2) : u.ownBlock = none ∨ u.ownBlock ≠ v.ownBlock := by
  rcases h2.2 with ⟨rfl, _⟩ | ⟨g, cap, cur, rfl, _, hg, _⟩
  · exact .inl rfl
  · exact .inr fun e => own_ne h1 hg hne e.symm
theorem own_none_or {W : World} {B n : Nat} {e1 : TypeId} {v : Value} {xs : List Value} (h1 : W.ownsRow B e1 1 v n xs) : v.ownBlock = none ∨ ∃ g, v.ownBlock = some g ∧ B ≤ g ∧ g < W.heap.size := by
  rcases h1.2 with ⟨rfl, _⟩ | ⟨g, cap, cur, rfl, hB, hg, _⟩
  · exact .inl rfl
  · exact .inr ⟨g, rfl, hB, (Array.getElem?_eq_some_iff.1 hg).1⟩
theorem RowsT.below {tb B1 : Nat} {t : Tb} {W W' : World} (h : RowsT tb B1 t W) (hb : Below W.heap.size W W') : RowsT tb B1 t W' := by
  obtain ⟨v1, v2, v3, hc, o1, o2, o3, ha⟩ := h
  exact ⟨v1, v2, v3, (hb.block tb (Array.getElem?_eq_some_iff.1 hc).1).trans hc, own_keepT o1 hb, own_keepT o2 hb, own_keepT o3 hb, ha⟩
/-- Something else turned: a block below the rows. -/
theorem RowsT.other {tb B1 g : Nat} {t : Tb} {W W' : World} (h : RowsT tb B1 t W) (hg : W.grownBy W' (some g)) (hgb : g < B1) (hne : g ≠ tb) : RowsT tb B1 t W' := by
  obtain ⟨v1, v2, v3, hc, o1, o2, o3, ha⟩ := h
  have key : ∀ {e n v xs}, W.ownsRow B1 e 1 v n xs → W'.ownsRow B1 e 1 v n xs := fun {e n v xs} o => o.kept hg (by
    rcases own_none_or o with h | ⟨b, h, hb, _⟩
    · exact .inl h
    · exact .inr (by rw [h]; intro he; injection he; omega))
  exact ⟨v1, v2, v3, (hg.block tb (Array.getElem?_eq_some_iff.1 hc).1 (by intro he; injection he with he; exact hne he.symm)).trans hc, key o1, key o2, key o3, ha⟩
section
variable {tb B1 : Nat} {sq : Nat} {W w1 : World} {v1 v2 v3 v' : Value} {n1 n2 n3 n' : Nat} {x1 x2 x3 x' : List Value}
theorem app_cell (hc : W.heap[tb]? = some (.cells #[.int .u64 (sq : Int), v1, v2, v3] 26 (0, 0))) (htb : tb < B1) (hg : W.grownBy w1 v'.ownBlock) (hB : ∀ g, v'.ownBlock = some g → B1 ≤ g) : w1.heap[tb]? = some (.cells #[.int .u64 (sq : Int), v1, v2, v3] 26 (0, 0)) :=
  (hg.block tb (Array.getElem?_eq_some_iff.1 hc).1 (fun e => by have := hB tb e.symm; omega)).trans hc
theorem own_set {e : TypeId} {n j : Nat} {v u : Value} {xs : List Value} (o : w1.ownsRow B1 e 1 v n xs) (htb : tb < B1) : (w1.setCell ⟨tb, j, none⟩ u).ownsRow B1 e 1 v n xs :=
  ownsRow_setCell_other o (a := ⟨tb, j, none⟩) (by rcases own_none_or o with h | ⟨b, h, hb, _⟩ <;> rw [h] <;> (try simp) <;> omega) u
end
/-- A number more among the bad ones. -/
theorem RowsT.app1 {tb B1 sq : Nat} {bad wear void : List Int} {b : Int} {W w1 : World} {v1 v2 v3 v' : Value} (hc : W.heap[tb]? = some (.cells #[.int .u64 (sq : Int), v1, v2, v3] 26 (0, 0))) (htb : tb < B1)
    (o1 : W.ownsRow B1 3 1 v1 bad.length (nums .i64 bad)) (o2 : W.ownsRow B1 3 1 v2 wear.length (nums .i64 wear)) (o3 : W.ownsRow B1 22 1 v3 void.length (nums .u64 void)) (ha : v1.ownBlock = none ∨ v2.ownBlock ≠ v1.ownBlock)
    (o' : w1.ownsRow B1 3 1 v' (bad.length + 1) (nums .i64 bad ++ [.int .i64 b])) (hg : W.grownBy w1 v1.ownBlock) (hat : v'.ownBlock = v1.ownBlock ∨ v'.ownBlock = some W.heap.size) :
    RowsT tb B1 ⟨sq, bad ++ [b], wear, void⟩ (w1.setCell ⟨tb, 1, none⟩ v') := by
  have hc1 := app_cell hc htb hg (fun g hg => by rcases own_none_or o1 with h | ⟨g', h, hb, _⟩ <;> rw [h] at hg <;> cases hg; exact hb)
  have k2 : w1.ownsRow B1 3 1 v2 wear.length (nums .i64 wear) := o2.kept hg (by
    rcases ha with h | h
    · rcases own_none_or o2 with h2 | ⟨g, h2, _, _⟩
      · exact .inl h2
      · exact .inr (by rw [h, h2]; simp)
    · exact .inr h)
  have k3 : w1.ownsRow B1 22 1 v3 void.length (nums .u64 void) := o3.kept hg (own_ne2 o1 o3 (by decide))
  refine ⟨v', v2, v3, ?_, ?_, own_set k2 htb, own_set k3 htb, ?_⟩
  · have := heap_set hc1 1 v'
    simpa using this
  · rw [List.length_append, nums_app]; exact own_set o' htb
  · rcases hat with h | h
    · rw [h]; exact ha
    · right; rw [h]
      rcases own_none_or o2 with h2 | ⟨g, h2, _, hl⟩ <;> rw [h2]
      · simp
      · intro he; injection he; omega
/-- .. among the counts of erases. -/
theorem RowsT.app2 {tb B1 sq : Nat} {bad wear void : List Int} {b : Int} {W w1 : World} {v1 v2 v3 v' : Value} (hc : W.heap[tb]? = some (.cells #[.int .u64 (sq : Int), v1, v2, v3] 26 (0, 0))) (htb : tb < B1)
    (o1 : W.ownsRow B1 3 1 v1 bad.length (nums .i64 bad)) (o2 : W.ownsRow B1 3 1 v2 wear.length (nums .i64 wear)) (o3 : W.ownsRow B1 22 1 v3 void.length (nums .u64 void)) (ha : v1.ownBlock = none ∨ v2.ownBlock ≠ v1.ownBlock)
    (o' : w1.ownsRow B1 3 1 v' (wear.length + 1) (nums .i64 wear ++ [.int .i64 b])) (hg : W.grownBy w1 v2.ownBlock) (hat : v'.ownBlock = v2.ownBlock ∨ v'.ownBlock = some W.heap.size) :
    RowsT tb B1 ⟨sq, bad, wear ++ [b], void⟩ (w1.setCell ⟨tb, 2, none⟩ v') := by
  have hc1 := app_cell hc htb hg (fun g hg => by rcases own_none_or o2 with h | ⟨g', h, hb, _⟩ <;> rw [h] at hg <;> cases hg; exact hb)
  have k1 : w1.ownsRow B1 3 1 v1 bad.length (nums .i64 bad) := o1.kept hg (by
    rcases ha with h | h
    · exact .inl h
    · exact .inr (Ne.symm h))
  have k3 : w1.ownsRow B1 22 1 v3 void.length (nums .u64 void) := o3.kept hg (own_ne2 o2 o3 (by decide))
  refine ⟨v1, v', v3, ?_, own_set k1 htb, ?_, own_set k3 htb, ?_⟩
  · have := heap_set hc1 2 v'
    simpa using this
  · rw [List.length_append, nums_app]; exact own_set o' htb
  · rcases hat with h | h
    · rw [h]; exact ha
    · rw [h]
      rcases own_none_or o1 with h2 | ⟨g, h2, _, hl⟩
      · exact .inl h2
      · right; rw [h2]; intro he; injection he; omega
/-- .. among the batches that are void. -/
theorem RowsT.app3 {tb B1 sq : Nat} {bad wear void : List Int} {b : Int} {W w1 : World} {v1 v2 v3 v' : Value} (hc : W.heap[tb]? = some (.cells #[.int .u64 (sq : Int), v1, v2, v3] 26 (0, 0))) (htb : tb < B1)
    (o1 : W.ownsRow B1 3 1 v1 bad.length (nums .i64 bad)) (o2 : W.ownsRow B1 3 1 v2 wear.length (nums .i64 wear)) (o3 : W.ownsRow B1 22 1 v3 void.length (nums .u64 void)) (ha : v1.ownBlock = none ∨ v2.ownBlock ≠ v1.ownBlock)
    (o' : w1.ownsRow B1 22 1 v' (void.length + 1) (nums .u64 void ++ [.int .u64 b])) (hg : W.grownBy w1 v3.ownBlock) :
    RowsT tb B1 ⟨sq, bad, wear, void ++ [b]⟩ (w1.setCell ⟨tb, 3, none⟩ v') := by
  have hc1 := app_cell hc htb hg (fun g hg => by rcases own_none_or o3 with h | ⟨g', h, hb, _⟩ <;> rw [h] at hg <;> cases hg; exact hb)
  have k1 : w1.ownsRow B1 3 1 v1 bad.length (nums .i64 bad) := o1.kept hg (own_ne2 o3 o1 (by decide))
  have k2 : w1.ownsRow B1 3 1 v2 wear.length (nums .i64 wear) := o2.kept hg (own_ne2 o3 o2 (by decide))
  refine ⟨v1, v2, v', ?_, own_set k1 htb, own_set k2 htb, ?_, ha⟩
  · have := heap_set hc1 3 v'
    simpa using this
  · rw [List.length_append, nums_app]; exact own_set o' htb

/-- What lies below the rows while a table is read. -/
structure RTS (w : World) (h : Hd) (k g tb mb B1 : Nat) (l : List UInt8) (m : Nat → Nat) (W : World) : Prop where
  hb : BoxH h w.heap.size W
  rb : W.heap[w.heap.size + 1]? = some (.cells #[.int .u64 0, .slice none 0 0, .slice none 0 0, .slice none 0 0] 26 (0, 0))
  rd : RBox W k g l
  mx : Box5 m mb W
  pos : w.heap.size + 1 < g ∧ g < k ∧ k < tb ∧ tb < mb ∧ mb < B1
  size : B1 ≤ W.heap.size
  below : Below w.heap.size w W
theorem RTS.kept {w W W' : World} {h : Hd} {k g tb mb B1 : Nat} {l : List UInt8} {m : Nat → Nat} (hS : RTS w h k g tb mb B1 l m W) (hk : ∀ b, b < B1 → b ≠ tb → W'.heap[b]? = W.heap[b]?) (hs : W.heap.size ≤ W'.heap.size) (hb : Below w.heap.size w W') : RTS w h k g tb mb B1 l m W' := by
  have hp := hS.pos
  exact ⟨(hk _ (by omega) (by omega)).trans hS.hb, (hk _ (by omega) (by omega)).trans hS.rb, hS.rd.kept (fun b hb => hk b (by omega) (by omega)), (hk _ (by omega) (by omega)).trans hS.mx, hp, Nat.le_trans hS.size hs, hb⟩
/-- A row has grown, and its field is stored. -/
theorem RTS.grown {w W w1 : World} {h : Hd} {k g tb mb B1 : Nat} {l : List UInt8} {m : Nat → Nat} {r : Option Nat} (hS : RTS w h k g tb mb B1 l m W) (hg : W.grownBy w1 r) (hr : ∀ b, r = some b → B1 ≤ b) (j : Nat) (u : Value) : RTS w h k g tb mb B1 l m (w1.setCell ⟨tb, j, none⟩ u) := by
  have hp := hS.pos
  refine hS.kept (fun b hb hne => ?_) (by simpa [World.setCell] using hg.size) ?_
  · exact (Below.heap_setCell _ _ _ _ hne).trans (hg.block b (Nat.lt_of_lt_of_le hb hS.size) (fun e => by have := hr b e.symm; omega))
  · refine Below.setCell (hS.below.trans ⟨hg.os, hg.tape, hg.output, hg.size, fun b hb => hg.block b (Nat.lt_of_lt_of_le hb hS.below.size) (fun e => ?_)⟩) (show w.heap.size ≤ tb by omega) u
    have := hr b e.symm
    omega
/-- A number was read. -/
theorem RTS.read {w W W' : World} {h : Hd} {k g tb mb B1 : Nat} {l l' : List UInt8} {m : Nat → Nat} (hS : RTS w h k g tb mb B1 l m W) (hr : RBox W' k g l') (hg : W.grownBy W' (some g)) : RTS w h k g tb mb B1 l' m W' := by
  have hp := hS.pos
  have hk : ∀ b, b < B1 → b ≠ g → W'.heap[b]? = W.heap[b]? := fun b hb hne => hg.block b (Nat.lt_of_lt_of_le hb hS.size) (fun e => by injection e with e; exact hne e)
  exact ⟨(hk _ (by omega) (by omega)).trans hS.hb, (hk _ (by omega) (by omega)).trans hS.rb, hr, (hk _ (by omega) (by omega)).trans hS.mx, hp, Nat.le_trans hS.size hg.size, hS.below.trans ⟨hg.os, hg.tape, hg.output, hg.size, fun b hb => hk b (by omega) (by omega)⟩⟩
/-- A mark was stored. -/
theorem RTS.mark {w W : World} {h : Hd} {k g tb mb B1 : Nat} {l : List UInt8} {m : Nat → Nat} (hS : RTS w h k g tb mb B1 l m W) (q x : Nat) (hq : q < 5) : RTS w h k g tb mb B1 l (fun i => if i = q then x else m i) (W.setCell ⟨mb, q, none⟩ (.int .u8 (x : Int))) := by
  have hp := hS.pos
  have hk : ∀ b, b ≠ mb → (W.setCell ⟨mb, q, none⟩ (.int .u8 (x : Int))).heap[b]? = W.heap[b]? := fun b hne => Below.heap_setCell _ _ _ _ hne
  exact ⟨(hk _ (by omega)).trans hS.hb, (hk _ (by omega)).trans hS.rb, hS.rd.kept (fun b hb => hk b (by omega)), hS.mx.set q x hq, hp, by simpa [World.setCell] using hS.size, hS.below.setCell (show w.heap.size ≤ mb by omega) _⟩
theorem RTS.later {w W W' : World} {h : Hd} {k g tb mb B1 : Nat} {l : List UInt8} {m : Nat → Nat} (hS : RTS w h k g tb mb B1 l m W) (hb : Below W.heap.size W W') : RTS w h k g tb mb B1 l m W' :=
  hS.kept (fun b hlt _ => hb.block b (Nat.lt_of_lt_of_le hlt hS.size)) hb.size (hS.below.trans (hb.mono hS.below.size))

theorem measS {K Z : Nat} (h : K < Z) : Z - (intOf (.int .i64 ((K + 1 : Nat) : Int))).toNat < Z - (intOf (.int .i64 (K : Int))).toNat := by
  show Z - (((K + 1 : Nat) : Int)).toNat < Z - ((K : Int)).toNat
  rw [Int.toNat_natCast, Int.toNat_natCast]
  omega
theorem measS2 {K Z : Nat} {z : Int} (e : z = ((K + 1 : Nat) : Int)) (h : K < Z) : Z - (intOf (.int .i64 z)).toNat < Z - (intOf (.int .i64 (K : Int))).toNat := by
  rw [e]; exact measS h
theorem measU {K Z : Nat} {z : Int} (e : z = ((K + 1 : Nat) : Int)) (h : K < Z) : Z - (intOf (.int .u64 z)).toNat < Z - (intOf (.int .u64 (K : Int))).toNat := by
  rw [e]
  show Z - (((K + 1 : Nat) : Int)).toNat < Z - ((K : Int)).toNat
  rw [Int.toNat_natCast, Int.toNat_natCast]
  omega
/-- The lists of a table lie at block B or behind it. -/
def Tl.Hi (x : Tl) (B : Nat) : Prop := (x.t.bad = [] ∨ ∃ a, x.A1 = some a ∧ B ≤ a.block) ∧ (x.t.wear = [] ∨ ∃ a, x.A2 = some a ∧ B ≤ a.block) ∧ (x.t.void = [] ∨ ∃ a, x.A3 = some a ∧ B ≤ a.block)
theorem hi_of_own {W : World} {B n m c : Nat} {e : TypeId} {A : Option Addr} {k : IntKind} {l : List Int} (h : W.ownsRow B e 1 (.slice A m c) n (nums k l)) : l = [] ∨ ∃ a, A = some a ∧ B ≤ a.block := by
  rcases h.2 with ⟨_, hn⟩ | ⟨g, cap, cur, hv, hb, _⟩
  · left
    have := h.1
    rw [nums_len, hn, Nat.zero_mul] at this
    exact List.eq_nil_of_length_eq_zero this
  · injection hv with hA _ _
    exact .inr ⟨_, hA, hb⟩
theorem lies_set {w : World} {B k j : Nat} {A : Option Addr} {xs : List Value} {u : Value} (h : Lies w B A xs) (hk : xs = [] ∨ ∃ a, A = some a ∧ k < a.block) : Lies (w.setCell ⟨k, j, none⟩ u) B A xs := by
  rcases h with h | ⟨a, hA, hb, hc⟩
  · exact .inl h
  · rcases hk with h | ⟨a', hA', hk⟩
    · exact .inl h
    · rw [hA] at hA'; injection hA' with e; subst e
      refine .inr ⟨a, hA, hb, fun i v hv => ?_⟩
      have e : (a.add i).block = a.block := by unfold Addr.add; split <;> rfl
      exact (World.cell?_of_block (w := w) (a := a.add i) (by rw [e]; exact Below.heap_setCell _ _ _ _ (show a.block ≠ k by omega))).trans (hc i v hv)
theorem Tl.Ok.set {x : Tl} {w : World} {B B0 k j : Nat} {u : Value} (h : x.Ok w B) (hi : x.Hi B0) (hk : k < B0) : x.Ok (w.setCell ⟨k, j, none⟩ u) B := by
  have key : ∀ {A : Option Addr} {l : List Int} {kd : IntKind}, (l = [] ∨ ∃ a, A = some a ∧ B0 ≤ a.block) → (nums kd l = [] ∨ ∃ a, A = some a ∧ k < a.block) := fun h => by
    rcases h with rfl | ⟨a, h1, h2⟩
    · exact .inl rfl
    · exact .inr ⟨a, h1, by omega⟩
  exact ⟨lies_set h.l1 (key hi.1), lies_set h.l2 (key hi.2.1), lies_set h.l3 (key hi.2.2), h.k1, h.k2, h.k3, h.pos, h.seq, h.top⟩
theorem badsOf_len (m : List Nat) (n : Nat) : (badsOf m n).length ≤ n := by
  unfold badsOf ints
  rw [List.length_map]
  exact Nat.le_trans (List.length_filter_le _ _) (by simp)
theorem snoc_getD (l : List Nat) (x q : Nat) : (l ++ [x]).getD q 0 = if q = l.length then x else l.getD q 0 := by
  by_cases h : q = l.length
  · subst h; rw [if_pos rfl]; simp [List.getD]
  · rw [if_neg h]
    rcases Nat.lt_or_ge q l.length with h1 | h1
    · simp [List.getD, List.getElem?_append_left h1]
    · simp [List.getD, List.getElem?_eq_none h1, List.getElem?_eq_none (show (l ++ [x]).length ≤ q by rw [List.length_append]; simp; omega)]
theorem RowsT.set {tb B1 g j : Nat} {t : Tb} {W : World} {u : Value} (h : RowsT tb B1 t W) (hgb : g < B1) (hne : g ≠ tb) : RowsT tb B1 t (W.setCell ⟨g, j, none⟩ u) :=
  h.other (grown_set (World.grownBy.refl W (some g)) ⟨g, j, none⟩ rfl u) hgb hne
theorem and_one (x r : Nat) (hx : x < 256) : bits .and .u8 ((x : Int) / 2 ^ r) 1 = ((x / 2 ^ r % 2 : Nat) : Int) := by
  have h2 : x / 2 ^ r < 256 := Nat.lt_of_le_of_lt (Nat.div_le_self _ _) hx
  rw [show ((x : Int) / 2 ^ r) = ((x / 2 ^ r : Nat) : Int) by simp, show (1 : Int) = ((1 : Nat) : Int) from rfl, u8_and_nat _ 1 h2 (by omega), nat_mask1]

set_option maxHeartbeats 8000000 in
theorem tread_any (h : Hd) (d : List UInt8) (w : World) (hd : d.length ≤ 1000) (hbt : h.batch < 18446744073709551616) : Calls Tryz.prog 62 #[h.val, .string (str d)] w fun e w' => ∃ x : Tl, e = .returned x.val ∧ x.t = readT h d ∧ x.Ok w' w'.heap.size ∧ x.Hi w.heap.size ∧ Below w.heap.size w w' := by
  have Fr := hide (fun W => reader_any d W hd)
  have hx1 : BoxH h w.heap.size (w.alloc (.cells h.cells.toArray 108)) := BoxH.new h w
  have hb1 := (Below.refl w.heap.size w).alloc (Nat.le_refl _) (.cells h.cells.toArray 108)
  have hb2 := hb1.alloc hb1.size (.cells #[.int .u64 0, .slice none 0 0, .slice none 0 0, .slice none 0 0] 26)
  have hx2 := hx1.below ((Below.refl _ _).alloc (Nat.le_refl _) (.cells #[.int .u64 0, .slice none 0 0, .slice none 0 0, .slice none 0 0] 26)) hx1.lt
  have hr2 := heap_alloc_new (w.alloc (.cells h.cells.toArray 108)) (.cells #[.int .u64 0, .slice none 0 0, .slice none 0 0, .slice none 0 0] 26)
  rw [show (w.alloc (.cells h.cells.toArray 108)).heap.size = w.heap.size + 1 by simp] at hr2
  have hs2 : ((w.alloc (.cells h.cells.toArray 108)).alloc (.cells #[.int .u64 0, .slice none 0 0, .slice none 0 0, .slice none 0 0] 26)).heap.size = w.heap.size + 2 := by simp
  have e0 : h.val = .agg #[.int .i64 h.kind, .int .i64 h.index, .int .i64 h.count, .int .u64 (h.batch : Int), .int .u64 (h.opn : Int), .int .i64 h.lpn, .int .i64 h.len] := rfl
  have e1 : h.cells.toArray = #[.int .i64 h.kind, .int .i64 h.index, .int .i64 h.count, .int .u64 (h.batch : Int), .int .u64 (h.opn : Int), .int .i64 h.lpn, .int .i64 h.len] := rfl
  rw [e0]
  rw [e1] at hb2 hx2 hr2 hs2
  have HB := hide hb2
  have HX := hide hx2
  have HR := hide hr2
  have HS := hide hs2
  have Hbt := hide hbt
  have Hd := hide hd
  clear hx1 hb1 hb2 hx2 hr2 hs2 e0 e1 hbt hd
  go_enter Tryz.func62, Tryz.ntmps62
  go_wp2_with fail
  generalize hw1 : (w.alloc (.cells #[.int .i64 h.kind, .int .i64 h.index, .int .i64 h.count, .int .u64 (h.batch : Int), .int .u64 (h.opn : Int), .int .i64 h.lpn, .int .i64 h.len] 108)).alloc (.cells #[.int .u64 0, .slice none 0 0, .slice none 0 0, .slice none 0 0] 26) = w1 at *
  clear hw1
  (with_reducible refine (Fr.out _).mono ?_)
  rintro e w2 ⟨k, g, rfl, hg, hk, hrb, hb⟩
  have HX2 := hide (HX.out.below hb HX.out.lt)
  have HR2 := hide ((hb.block _ (Array.getElem?_eq_some_iff.1 HR.out).1).trans HR.out)
  have HB2 := hide (HB.out.trans (hb.mono HB.out.size))
  have Hg := hide (show w.heap.size + 1 < g by have := HS.out; omega)
  have Hk := hide hk
  have HRB := hide hrb
  have c3 := HX2.out.c 3 _ rfl
  clear hg hk hrb hb HX HR HB HS Fr
  go_upto_region 4 with fail
  generalize hw3 : (w2.alloc (.cells #[.int .u64 (h.batch : Int), .slice none 0 0, .slice none 0 0, .slice none 0 0] 26)).alloc (.cells #[.int .u8 0, .int .u8 0, .int .u8 0, .int .u8 0, .int .u8 0] 142) = w3 at *
  have hb3 : Below w2.heap.size w2 w3 := by rw [← hw3]; exact ((Below.refl _ _).alloc (Nat.le_refl _) _).alloc (by simp) _
  have hsz3 : w3.heap.size = w2.heap.size + 2 := by rw [← hw3]; simp
  have hT : w3.heap[w2.heap.size]? = some (.cells #[.int .u64 (h.batch : Int), .slice none 0 0, .slice none 0 0, .slice none 0 0] 26 (0, 0)) := by
    rw [← hw3]; exact (Below.heap_alloc _ _ _ (by simp)).trans (heap_alloc_new w2 _)
  have hM : w3.heap[w2.heap.size + 1]? = some (.cells #[.int .u8 0, .int .u8 0, .int .u8 0, .int .u8 0, .int .u8 0] 142 (0, 0)) := by
    rw [← hw3]
    have := heap_alloc_new (w2.alloc (.cells #[.int .u64 (h.batch : Int), .slice none 0 0, .slice none 0 0, .slice none 0 0] 26)) (.cells #[.int .u8 0, .int .u8 0, .int .u8 0, .int .u8 0, .int .u8 0] 142)
    rwa [show (w2.alloc (.cells #[.int .u64 (h.batch : Int), .slice none 0 0, .slice none 0 0, .slice none 0 0] 26)).heap.size = w2.heap.size + 1 by simp] at this
  have S0 := hide (show RTS w h k g w2.heap.size (w2.heap.size + 1) (w2.heap.size + 2) d (fun _ => 0) w3 from
    ⟨HX2.out.below hb3 HX2.out.lt, (hb3.block _ (Array.getElem?_eq_some_iff.1 HR2.out).1).trans HR2.out, HRB.out.kept (fun b hb => hb3.block b (Nat.lt_of_le_of_lt hb Hk.out)), hM, ⟨Hg.out, HRB.out.lt, Hk.out, Nat.lt_succ_self _, Nat.lt_succ_self _⟩, Nat.le_of_eq hsz3.symm, HB2.out.trans (hb3.mono HB2.out.size)⟩)
  have R0 := hide (show RowsT w2.heap.size (w2.heap.size + 2) ⟨h.batch, [], [], []⟩ w3 from ⟨_, _, _, hT, ⟨rfl, .inl ⟨rfl, rfl⟩⟩, ⟨rfl, .inl ⟨rfl, rfl⟩⟩, ⟨rfl, .inl ⟨rfl, rfl⟩⟩, .inl rfl⟩)
  clear hw3 hb3 hsz3 hT hM c3 HX2 HR2 HB2 HRB Hg Hk
  generalize w2.heap.size + 2 = B1 at *
  generalize w2.heap.size + 1 = mb at *
  generalize w2.heap.size = tb at *
  go_wp2
  go_loopw [8, 17] (fun _ i wr => ∃ j : Nat, j ≤ 5 ∧ i = .int .i64 (j : Int) ∧ Hid (RTS w h k g tb mb B1 (rds 1 j d).2 (fun q => (rds 1 j d).1.getD q 0) wr) ∧ Hid (RowsT tb B1 ⟨h.batch, [], [], []⟩ wr)) (fun _ i _ => 5 - (intOf i).toNat)
  case atStart => exact ⟨0, Nat.zero_le _, rfl, hide (by have := S0.out; simpa [rds] using this), R0⟩
  case round =>
    obtain ⟨j, hj, rfl, HS, HR⟩ := hrel
    by_cases hlt : j < 5
    · have hlt' : (j : Int) < 5 := by omega
      have e2 : wrap64 ((j : Int) + 1) = ((j + 1 : Nat) : Int) := by unfold wrap64; omega
      have F := hide (num_tb k g (rds 1 j d).2 1 1 wr HS.out.rd (by omega) (by omega) rfl)
      have hx8 := rd_lt 1 (rds 1 j d).2
      have Hnx := hide (show rds 1 (j + 1) d = ((rds 1 j d).1 ++ [(rd 1 (rds 1 j d).2).1], (rd 1 (rds 1 j d).2).2) from rfl)
      have Hln := hide (rds_len 1 j d)
      generalize (rd 1 (rds 1 j d).2).1 = x at *
      have x8 : x < 256 := hx8
      have w8 : IntKind.u8.wrap (x : Int) = (x : Int) := by rw [u8_wrap_nat]; simp [Nat.mod_eq_of_lt x8]
      clear hx8
      go_wp2_with fail
      (with_reducible refine F.out.mono ?_)
      rintro e w4 ⟨rfl, hr, hg⟩
      have HS4 := hide (HS.out.read hr hg)
      have HR4 := hide (HR.out.other hg (by have := HS.out.pos; omega) (by have := HS.out.pos; omega))
      have hcell := HS4.out.mx.cq j hlt
      have hfree := HS4.out.mx.free j
      clear hr hg F
      have Hmk := hide (HS4.out.mark j x hlt)
      have Hrw := hide (HR4.out.set (g := mb) (j := j) (u := .int .u8 (x : Int)) (by have := HS.out.pos; omega) (by have := HS.out.pos; omega))
      go_wp2
      go_roundw
      case rel => exact ⟨j + 1, hlt, by first | rfl | exact congrArg (Value.int .i64) e2, hide (by
        rw [Hnx.out]
        have := Hmk.out
        rwa [show (fun q => ((rds 1 j d).1 ++ [x]).getD q 0) = fun q => if q = j then x else (rds 1 j d).1.getD q 0 from funext fun q => by rw [snoc_getD, Hln.out]]), Hrw⟩
      case measure => first | exact measS2 rfl hlt | exact measS2 e2 hlt
    · have hj5 : j = 5 := by omega
      have hlt' : ¬ (j : Int) < 5 := by omega
      rw [hj5] at HS
      have HML := hide (fun q => (show (rds 1 5 d).1.getD q 0 < 256 by
        by_cases hq : q < (rds 1 5 d).1.length
        · exact rds_lt 1 d 5 _ (by simp [List.getD, List.getElem?_eq_getElem hq])
        · simp [List.getD, List.getElem?_eq_none (show (rds 1 5 d).1.length ≤ q by omega)]))
      obtain ⟨ml, hml⟩ : ∃ ml, Hid (ml = (rds 1 5 d).1) := ⟨_, hide rfl⟩
      rw [← hml.out] at HS HML
      obtain ⟨d2, hd2⟩ : ∃ d2, Hid (d2 = (rds 1 5 d).2) := ⟨_, hide rfl⟩
      rw [← hd2.out] at HS
      clear hlt hj hj5 S0 R0
      go_wp2
      go_loopw [9, 26] (fun _ i wr => ∃ j : Nat, j ≤ 34 ∧ i = .int .i64 (j : Int) ∧ Hid (RTS w h k g tb mb B1 d2 (fun q => ml.getD q 0) wr) ∧ Hid (RowsT tb B1 ⟨h.batch, badsOf ml j, [], []⟩ wr)) (fun _ i _ => 34 - (intOf i).toNat)
      case atStart => exact ⟨0, Nat.zero_le _, rfl, HS, HR⟩
      case round =>
        clear HS HR
        obtain ⟨b, hb, rfl, HS, HR⟩ := hrel
        by_cases hlt : b < 34
        · have hlt'' : (b : Int) < 34 := by omega
          have e2 : wrap64 ((b : Int) + 1) = ((b + 1 : Nat) : Int) := by unfold wrap64; omega
          obtain ⟨q, hq⟩ : ∃ q, q = b / 8 := ⟨_, rfl⟩
          obtain ⟨r, hr⟩ : ∃ r, r = b % 8 := ⟨_, rfl⟩
          have q5 : q < 5 := by omega
          have r8 : r < 8 := by omega
          have e3 : (b : Int).tdiv 8 = (q : Int) := by rw [Int.tdiv_eq_ediv_of_nonneg (by omega)]; omega
          have e4 : (b : Int).tmod 8 = (r : Int) := by rw [Int.tmod_eq_emod_of_nonneg (by omega)]; omega
          have e5 : (b : Int) / 8 = (q : Int) := by omega
          have e6 : (b : Int) % 8 = (r : Int) := by omega
          have q5' : (q : Int) < 5 := by omega
          have r8' : (r : Int) < 8 := by omega
          have Hbs := hide (badsOf_succ ml b)
          rw [← hq, ← hr] at Hbs
          have hcell := HS.out.mx.cq q q5
          have hx8 := HML.out q
          have hand := and_one (ml.getD q 0) r hx8
          generalize ml.getD q 0 = x at *
          clear hq hr
          by_cases hbit : x / 2 ^ r % 2 = 1
          · rw [hbit] at hand
            rw [if_pos hbit] at Hbs
            obtain ⟨v1, v2, v3, hc, o1, o2, o3, ha⟩ := HR.out
            dsimp only at hc o1 o2 o3
            obtain ⟨A1, k1, rfl, hk1, _⟩ := own_form o1
            have f1 : wr.cell? ⟨tb, 1, none⟩ = some (.slice A1 (badsOf ml b).length k1) := by have := World.news_of_block hc 1 _ rfl; rwa [at0] at this
            have Hc := hide hc
            have O1 := hide o1
            have O2 := hide o2
            have O3 := hide o3
            have Ha := hide ha
            clear hbit hc o1 o2 o3 ha
            have Hlen := hide (show (badsOf ml b).length ≤ 34 by have := badsOf_len ml b; omega)
            have Hsz := hide HS.out.size
            have Htb := hide (show tb < B1 by have := HS.out.pos; omega)
            have HgB := hide (show ∀ g, (Value.slice A1 (badsOf ml b).length k1).ownBlock = some g → B1 ≤ g from fun g hg => by rcases own_none_or O1.out with h | ⟨g', h, hb, _⟩ <;> rw [h] at hg <;> cases hg; exact hb)
            have Hca := hide ((Below.heap_alloc wr (.cells #[.int .i64 (b : Int)] 3) tb (Array.getElem?_eq_some_iff.1 Hc.out).1).trans Hc.out)
            clear hlt hb hx8
            go_wp2_with (at_builtin; refine wpl_app _ rfl i64elems (.tmp 39) (.tmp 41) rfl B1 (.slice A1 (badsOf ml b).length k1) (badsOf ml b).length _ rfl (O1.out.alloc _) (wr.heap.size + 1) (some ⟨wr.heap.size, 0, none⟩) 1 1 _ rfl (by rfl) (Lies.new wr _ _ _ _ (Nat.lt_succ_self _)) (by simp [Value.oneCell']) (by have := Hlen.out; unfold maxLen; omega) (by have := Hlen.out; omega) (by have := Hsz.out; simp; omega) ?_; intro A2 c2 w5 hown hg hat; have Ho := hide hown; have HG := hide hg; have Hat := hide hat; have Hc5 := hide (app_cell Hca.out Htb.out hg HgB.out); have hcc := World.news_of_block Hc5.out 1 _ rfl; rw [at0] at hcc; have hff := frozen_of_row w5 tb 1 _ _ Hc5.out; clear hown hg hat)
            have Rn := hide (RowsT.app1 Hca.out Htb.out (O1.out.alloc _) (O2.out.alloc _) (O3.out.alloc _) Ha.out Ho.out HG.out Hat.out)
            have Sn := hide ((HS.out.later ((Below.refl _ _).alloc (Nat.le_refl _) _)).grown HG.out HgB.out 1 (.slice A2 ((badsOf ml b).length + 1) c2))
            go_roundw
            case rel => exact ⟨b + 1, by omega, by first | rfl | exact congrArg (Value.int .i64) e2, Sn, hide (by rw [Hbs.out]; exact Rn.out)⟩
            case measure => first | exact measS2 rfl (by omega) | exact measS2 e2 (by omega)
          · have h0 : x / 2 ^ r % 2 = 0 := by omega
            rw [h0] at hand
            rw [if_neg hbit, List.append_nil] at Hbs
            clear hbit h0 hx8
            go_wp2
            go_roundw
            case rel => exact ⟨b + 1, hlt, by first | rfl | exact congrArg (Value.int .i64) e2, HS, hide (by rw [Hbs.out]; exact HR.out)⟩
            case measure => first | exact measS2 rfl hlt | exact measS2 e2 hlt
        · have hb34 : b = 34 := by omega
          have hlt'' : ¬ (b : Int) < 34 := by omega
          rw [hb34] at HR
          obtain ⟨BAD, hBAD⟩ : ∃ l, Hid (l = badsOf ml 34) := ⟨_, hide rfl⟩
          rw [← hBAD.out] at HR
          have HMx := HS
          clear hlt hb hb34
          go_wp2
          go_loopw [10, 11, 45] (fun _ _ i wr => ∃ j : Nat, j ≤ 34 ∧ i = .int .i64 (j : Int) ∧ Hid (RTS w h k g tb mb B1 (rds 2 j d2).2 (fun q => ml.getD q 0) wr) ∧ Hid (RowsT tb B1 ⟨h.batch, BAD, ints ((rds 2 j d2).1.take h.lpn.toNat), []⟩ wr)) (fun _ _ i _ => 34 - (intOf i).toNat)
          case atStart => exact ⟨0, Nat.zero_le _, rfl, HS, hide (by have := HR.out; simpa [rds, ints] using this)⟩
          case round =>
            clear HS HR HMx
            obtain ⟨j, hj, rfl, HS, HR⟩ := hrel
            by_cases hlt : j < 34
            · have hlt'' : (j : Int) < 34 := by omega
              have e2 : wrap64 ((j : Int) + 1) = ((j + 1 : Nat) : Int) := by unfold wrap64; omega
              have F := hide (num_tb k g (rds 2 j d2).2 2 2 wr HS.out.rd (by omega) (by omega) rfl)
              have hx8 := rd_lt 2 (rds 2 j d2).2
              have Hnx := hide (show rds 2 (j + 1) d2 = ((rds 2 j d2).1 ++ [(rd 2 (rds 2 j d2).2).1], (rd 2 (rds 2 j d2).2).2) from rfl)
              have Hln := hide (rds_len 2 j d2)
              generalize (rd 2 (rds 2 j d2).2).1 = x at *
              have x16 : x < 65536 := hx8
              have w16 : IntKind.i64.wrap (x : Int) = (x : Int) := IntWalk.i64_in _ (by omega)
              clear hx8
              generalize hln : h.lpn = L at *
              go_wp2_with fail
              (with_reducible refine F.out.mono ?_)
              rintro e w4 ⟨rfl, hr, hg⟩
              have HS4 := hide (HS.out.read hr hg)
              have HR4 := hide (HR.out.other hg (by have := HS.out.pos; omega) (by have := HS.out.pos; omega))
              have c5 := HS4.out.hb.c 5 (.int .i64 L) (by rw [← hln]; rfl)
              have Hhln := hide hln
              clear hr hg F hln HS HR
              by_cases hin : (j : Int) < L
              · obtain ⟨v1, v2, v3, hc, o1, o2, o3, ha⟩ := HR4.out
                dsimp only at hc o1 o2 o3
                have Htk := hide (show ints (((rds 2 j d2).1 ++ [x]).take L.toNat) = ints ((rds 2 j d2).1.take L.toNat) ++ [(x : Int)] by
                  rw [List.take_of_length_le (by rw [List.length_append, Hln.out]; simp; omega), List.take_of_length_le (by rw [Hln.out]; omega)]
                  simp [ints])
                have Hlen := hide (show (ints ((rds 2 j d2).1.take L.toNat)).length ≤ 34 by unfold ints; rw [List.length_map, List.length_take, Hln.out]; omega)
                generalize ints ((rds 2 j d2).1.take L.toNat) = WE at *
                obtain ⟨A1, k1, rfl, hk1, _⟩ := own_form o2
                have f1 : w4.cell? ⟨tb, 2, none⟩ = some (.slice A1 WE.length k1) := by have := World.news_of_block hc 2 _ rfl; rwa [at0] at this
                have Hc := hide hc
                have O1 := hide o1
                have O2 := hide o2
                have O3 := hide o3
                have Ha := hide ha
                have Hsz := hide HS4.out.size
                have Htb := hide (show tb < B1 by have := HS4.out.pos; omega)
                have HgB := hide (show ∀ g, (Value.slice A1 WE.length k1).ownBlock = some g → B1 ≤ g from fun g hg => by rcases own_none_or O2.out with h | ⟨g', h, hb, _⟩ <;> rw [h] at hg <;> cases hg; exact hb)
                have Hca := hide ((Below.heap_alloc w4 (.cells #[.int .i64 (x : Int)] 3) tb (Array.getElem?_eq_some_iff.1 Hc.out).1).trans Hc.out)
                clear hc o1 o2 o3 ha hlt hj x16
                go_wp2_with (at_builtin; refine wpl_app _ rfl i64elems (.tmp 55) (.tmp 58) rfl B1 (.slice A1 WE.length k1) WE.length _ rfl (O2.out.alloc _) (w4.heap.size + 1) (some ⟨w4.heap.size, 0, none⟩) 1 1 _ rfl (by rfl) (Lies.new w4 _ _ _ _ (Nat.lt_succ_self _)) (by simp [Value.oneCell']) (by have := Hlen.out; unfold maxLen; omega) (by have := Hlen.out; omega) (by have := Hsz.out; simp; omega) ?_; intro A2 c2 w5 hown hg hat; have Ho := hide hown; have HG := hide hg; have Hat := hide hat; have Hc5 := hide (app_cell Hca.out Htb.out hg HgB.out); have hcc := World.news_of_block Hc5.out 2 _ rfl; rw [at0] at hcc; have hff := frozen_of_row w5 tb 2 _ _ Hc5.out; clear hown hg hat)
                have Rn := hide (RowsT.app2 Hca.out Htb.out (O1.out.alloc _) (O2.out.alloc _) (O3.out.alloc _) Ha.out Ho.out HG.out Hat.out)
                have Sn := hide ((HS4.out.later ((Below.refl _ _).alloc (Nat.le_refl _) _)).grown HG.out HgB.out 2 (.slice A2 (WE.length + 1) c2))
                go_roundw
                case rel => exact ⟨j + 1, by omega, by first | rfl | exact congrArg (Value.int .i64) e2, hide (by rw [Hnx.out]; exact Sn.out), hide (by rw [Hnx.out]; dsimp only; rw [Htk.out]; exact Rn.out)⟩
                case measure => first | exact measS2 rfl (by omega) | exact measS2 e2 (by omega)
              · have Htk := hide (show ints (((rds 2 j d2).1 ++ [x]).take L.toNat) = ints ((rds 2 j d2).1.take L.toNat) by
                  rw [List.take_append_of_le_length (by rw [Hln.out]; omega)])
                go_wp2
                go_roundw
                case rel => exact ⟨j + 1, hlt, by first | rfl | exact congrArg (Value.int .i64) e2, hide (by rw [Hnx.out]; exact HS4.out), hide (by rw [Hnx.out]; dsimp only; rw [Htk.out]; exact HR4.out)⟩
                case measure => first | exact measS2 rfl hlt | exact measS2 e2 hlt
            · have hj34 : j = 34 := by omega
              have hlt'' : ¬ (j : Int) < 34 := by omega
              rw [hj34] at HR HS
              obtain ⟨WE, hWE⟩ : ∃ l, Hid (l = ints ((rds 2 34 d2).1.take h.lpn.toNat)) := ⟨_, hide rfl⟩
              rw [← hWE.out] at HR
              obtain ⟨d3, hd3⟩ : ∃ l, Hid (l = (rds 2 34 d2).2) := ⟨_, hide rfl⟩
              rw [← hd3.out] at HS
              have F := hide (num_tb k g d3 1 1 wr HS.out.rd (by omega) (by omega) rfl)
              have hc8 := rd_lt 1 d3
              obtain ⟨N, hN⟩ : ∃ n, Hid (n = (rd 1 d3).1) := ⟨_, hide rfl⟩
              obtain ⟨d4, hd4⟩ : ∃ l, Hid (l = (rd 1 d3).2) := ⟨_, hide rfl⟩
              rw [← hN.out] at F hc8
              rw [← hd4.out] at F
              have hN8 : N < 256 := hc8
              clear hlt hj hj34 hc8
              go_wp2_with fail
              (with_reducible refine F.out.mono ?_)
              rintro e w4 ⟨rfl, hr, hg⟩
              have HS4 := hide (HS.out.read hr hg)
              have HR4 := hide (HR.out.other hg (by have := HS.out.pos; omega) (by have := HS.out.pos; omega))
              clear hr hg F HS HR
              go_wp2
              go_loopw [64] (fun i wr => ∃ j : Nat, j ≤ N ∧ i = .int .u64 (j : Int) ∧ Hid (RTS w h k g tb mb B1 (rds 4 j d4).2 (fun q => ml.getD q 0) wr) ∧ Hid (RowsT tb B1 ⟨h.batch, BAD, WE, ints (rds 4 j d4).1⟩ wr)) (fun i _ => N - (intOf i).toNat)
              case atStart => exact ⟨0, Nat.zero_le _, rfl, HS4, HR4⟩
              case round =>
                clear HS4 HR4
                obtain ⟨j, hj, rfl, HS, HR⟩ := hrel
                by_cases hlt : j < N
                · have hlt'' : (j : Int) < (N : Int) := by omega
                  have e2 : IntKind.u64.wrap ((j : Int) + 1) = ((j + 1 : Nat) : Int) := by
                    rw [show (j : Int) + 1 = ((j + 1 : Nat) : Int) by omega]; exact u64_wrap_small _ (by omega)
                  have HSd := hide (HS.out.later ((Below.refl _ _).drew))
                  have HRd := hide (HR.out.below ((Below.refl _ _).drew))
                  have F := hide (num_tb k g (rds 4 j d4).2 4 4 wr.drew HSd.out.rd (by omega) (by omega) rfl)
                  have hx8 := rd_lt 4 (rds 4 j d4).2
                  have Hnx := hide (show rds 4 (j + 1) d4 = ((rds 4 j d4).1 ++ [(rd 4 (rds 4 j d4).2).1], (rd 4 (rds 4 j d4).2).2) from rfl)
                  have Hln := hide (show (ints (rds 4 j d4).1).length ≤ 256 by unfold ints; rw [List.length_map, rds_len]; omega)
                  generalize (rd 4 (rds 4 j d4).2).1 = x at *
                  have Hx := hide hx8
                  have Hap := hide (show ints ((rds 4 j d4).1 ++ [x]) = ints (rds 4 j d4).1 ++ [(x : Int)] by simp [ints])
                  obtain ⟨VO, hVO⟩ : ∃ l, Hid (l = ints (rds 4 j d4).1) := ⟨_, hide rfl⟩
                  rw [← hVO.out] at HRd Hln Hap
                  clear hx8 HS HR
                  obtain ⟨v1, v2, v3, hc, o1, o2, o3, ha⟩ := HRd.out
                  dsimp only at hc o1 o2 o3
                  obtain ⟨A1, k1, rfl, hk1, _⟩ := own_form o3
                  have f1 : wr.drew.cell? ⟨tb, 3, none⟩ = some (.slice A1 VO.length k1) := by have := World.news_of_block hc 3 _ rfl; rwa [at0] at this
                  have Htb := hide (show tb < B1 by have := HSd.out.pos; omega)
                  have Hgb := hide (show g < B1 ∧ g ≠ tb by have := HSd.out.pos; omega)
                  have Hc := hide hc
                  have O1 := hide o1
                  have O2 := hide o2
                  have O3 := hide o3
                  have Ha := hide ha
                  have Hsz := hide HSd.out.size
                  clear hc o1 o2 o3 ha
                  have keep : Hid (∀ w4 : World, wr.drew.grownBy w4 (some g) → w4.heap[tb]? = some (.cells #[.int .u64 (h.batch : Int), v1, v2, .slice A1 VO.length k1] 26 (0, 0)) ∧ w4.ownsRow B1 3 1 v1 BAD.length (nums .i64 BAD) ∧ w4.ownsRow B1 3 1 v2 WE.length (nums .i64 WE) ∧ w4.ownsRow B1 22 1 (.slice A1 VO.length k1) VO.length (nums .u64 VO) ∧ B1 ≤ w4.heap.size) := hide (fun w4 hg => by
                    have key : ∀ {e n v xs}, wr.drew.ownsRow B1 e 1 v n xs → w4.ownsRow B1 e 1 v n xs := fun {e n v xs} o => o.kept hg (by
                      rcases own_none_or o with h | ⟨b, h, hb, _⟩
                      · exact .inl h
                      · exact .inr (by rw [h]; intro he; injection he; have := Hgb.out; omega))
                    exact ⟨(hg.block tb (Array.getElem?_eq_some_iff.1 Hc.out).1 (by intro he; injection he with he; exact Hgb.out.2 he.symm)).trans Hc.out, key O1.out, key O2.out, key O3.out, Nat.le_trans Hsz.out hg.size⟩)
                  have HgB := hide (show ∀ g, (Value.slice A1 VO.length k1).ownBlock = some g → B1 ≤ g from fun g hg => by rcases own_none_or O3.out with h | ⟨g', h, hb, _⟩ <;> rw [h] at hg <;> cases hg; exact hb)
                  clear hlt hj
                  go_upto_region 24 with fail
                  go_region_law (first
                    | (refine step_callP (f := 125) (args := #[.int .i64 4, .pointer (some ⟨k, 0, none⟩)]) rfl (by simp [Act.eval, go_sem]) (F.out.mono ?_); rintro e w4 ⟨rfl, hr, hg⟩; refine ⟨_, rfl, ?_⟩; have HK := hide (keep.out w4 hg); have HS4 := hide (HSd.out.read hr hg); have q1 : w4.cell? ⟨tb, 3, none⟩ = some (.slice A1 VO.length k1) := (by have := World.news_of_block HK.out.1 3 _ rfl; rwa [at0] at this); have Hca := hide ((Below.heap_alloc w4 (.cells #[.int .u64 (x : Int)] 22) tb (Array.getElem?_eq_some_iff.1 HK.out.1).1).trans HK.out.1); have q2 : (w4.alloc (.cells #[.int .u64 (x : Int)] 22)).cell? ⟨tb, 3, none⟩ = some (.slice A1 VO.length k1) := (by have := World.news_of_block Hca.out 3 _ rfl; rwa [at0] at this); clear hr hg)
                    | (refine step_app _ rfl u64elems (.tmp 67) (.tmp 70) rfl B1 (.slice A1 VO.length k1) VO.length _ (by simp [Act.eval]) (HK.out.2.2.2.1.alloc _) (w4.heap.size + 1) (some ⟨w4.heap.size, 0, none⟩) 1 1 _ (by simp [Act.eval]) (by rfl) (Lies.new w4 _ _ _ _ (Nat.lt_succ_self _)) (by simp [Value.oneCell']) (by have := Hln.out; unfold maxLen; omega) (by have := Hln.out; omega) (by have := HK.out.2.2.2.2; simp; omega) ?_; intro A2 c2 w5 hown hg hat; have Ho := hide hown; have HG := hide hg; have Hc5 := hide (app_cell Hca.out Htb.out hg HgB.out); have hcc := World.news_of_block Hc5.out 3 _ rfl; rw [at0] at hcc; have hff := frozen_of_row w5 tb 3 _ _ Hc5.out; clear hown hg hat))
                  all_goals
                    have Rn := hide (RowsT.app3 Hca.out Htb.out (HK.out.2.1.alloc _) (HK.out.2.2.1.alloc _) (HK.out.2.2.2.1.alloc _) Ha.out Ho.out HG.out)
                    have Sn := hide ((HS4.out.later ((Below.refl _ _).alloc (Nat.le_refl _) _)).grown HG.out HgB.out 3 (.slice A2 (VO.length + 1) c2))
                    go_wp2
                    go_roundw
                    case rel => exact ⟨j + 1, by omega, by first | rfl | exact congrArg (Value.int .u64) e2, hide (by rw [Hnx.out]; exact Sn.out), hide (by rw [Hnx.out]; dsimp only; rw [Hap.out]; exact Rn.out)⟩
                    case measure => first | exact measU rfl (by omega) | exact measU e2 (by omega)
                · have hjN : j = N := by omega
                  have hlt'' : ¬ (j : Int) < (N : Int) := by omega
                  rw [hjN] at HR HS
                  clear hlt hj hjN
                  obtain ⟨VO, hVO⟩ : ∃ l, Hid (l = ints (rds 4 N d4).1) := ⟨_, hide rfl⟩
                  rw [← hVO.out] at HR
                  obtain ⟨v1, v2, v3, hc, o1, o2, o3, ha⟩ := HR.out
                  dsimp only at hc o1 o2 o3
                  obtain ⟨A1, k1, rfl, hk1, _⟩ := own_form o1
                  obtain ⟨A2, k2, rfl, hk2, _⟩ := own_form o2
                  obtain ⟨A3, k3, rfl, hk3, _⟩ := own_form o3
                  have q0 : wr.cell? ⟨tb, 0, none⟩ = some (.int .u64 (h.batch : Int)) := by have := World.news_of_block hc 0 _ rfl; rwa [at0] at this
                  have q1 : wr.cell? ⟨tb, 1, none⟩ = some (.slice A1 BAD.length k1) := by have := World.news_of_block hc 1 _ rfl; rwa [at0] at this
                  have q2 : wr.cell? ⟨tb, 2, none⟩ = some (.slice A2 WE.length k2) := by have := World.news_of_block hc 2 _ rfl; rwa [at0] at this
                  have q3 : wr.cell? ⟨tb, 3, none⟩ = some (.slice A3 VO.length k3) := by have := World.news_of_block hc 3 _ rfl; rwa [at0] at this
                  have rb := HS.out.rb
                  have p0 : wr.cell? ⟨w.heap.size + 1, 0, none⟩ = some (.int .u64 0) := by have := World.news_of_block rb 0 _ rfl; rwa [at0] at this
                  have p1 : wr.cell? ⟨w.heap.size + 1, 1, none⟩ = some (.slice none 0 0) := by have := World.news_of_block rb 1 _ rfl; rwa [at0] at this
                  have p2 : wr.cell? ⟨w.heap.size + 1, 2, none⟩ = some (.slice none 0 0) := by have := World.news_of_block rb 2 _ rfl; rwa [at0] at this
                  have p3 : wr.cell? ⟨w.heap.size + 1, 3, none⟩ = some (.slice none 0 0) := by have := World.news_of_block rb 3 _ rfl; rwa [at0] at this
                  have r0 := frozen_of_row wr (w.heap.size + 1) 0 _ _ rb
                  have r1 := frozen_of_row wr (w.heap.size + 1) 1 _ _ rb
                  have r2 := frozen_of_row wr (w.heap.size + 1) 2 _ _ rb
                  have r3 := frozen_of_row wr (w.heap.size + 1) 3 _ _ rb
                  have HRB := hide (heap_set (heap_set (heap_set (heap_set rb 0 (.int .u64 (h.batch : Int))) 1 (.slice A1 BAD.length k1)) 2 (.slice A2 WE.length k2)) 3 (.slice A3 VO.length k3))
                  have hsb : w.heap.size + 1 < B1 := by have := HS.out.pos; omega
                  have L1 := hide (Lies.of_own (own_set (j := 3) (u := .slice A3 VO.length k3) (own_set (j := 2) (u := .slice A2 WE.length k2) (own_set (j := 1) (u := .slice A1 BAD.length k1) (own_set (j := 0) (u := .int .u64 (h.batch : Int)) o1 hsb) hsb) hsb) hsb))
                  have L2 := hide (Lies.of_own (own_set (j := 3) (u := .slice A3 VO.length k3) (own_set (j := 2) (u := .slice A2 WE.length k2) (own_set (j := 1) (u := .slice A1 BAD.length k1) (own_set (j := 0) (u := .int .u64 (h.batch : Int)) o2 hsb) hsb) hsb) hsb))
                  have L3 := hide (Lies.of_own (own_set (j := 3) (u := .slice A3 VO.length k3) (own_set (j := 2) (u := .slice A2 WE.length k2) (own_set (j := 1) (u := .slice A1 BAD.length k1) (own_set (j := 0) (u := .int .u64 (h.batch : Int)) o3 hsb) hsb) hsb) hsb))
                  have HHi := hide (And.intro (hi_of_own o1) (And.intro (hi_of_own o2) (hi_of_own o3)))
                  have HB1 := hide (show w.heap.size ≤ B1 by omega)
                  have HBb := hide ((((HS.out.below.setCell (p := ⟨w.heap.size + 1, 0, none⟩) (Nat.le_succ _) (.int .u64 (h.batch : Int))).setCell (p := ⟨w.heap.size + 1, 1, none⟩) (Nat.le_succ _) (.slice A1 BAD.length k1)).setCell (p := ⟨w.heap.size + 1, 2, none⟩) (Nat.le_succ _) (.slice A2 WE.length k2)).setCell (p := ⟨w.heap.size + 1, 3, none⟩) (Nat.le_succ _) (.slice A3 VO.length k3))
                  have Hk := hide (And.intro hk1 (And.intro hk2 hk3))
                  have HT : Hid (readT h d = ⟨h.batch, BAD, WE, VO⟩) := hide (by
                    unfold readT
                    rw [← hml.out, ← hd2.out, ← hd3.out, ← hN.out, ← hd4.out, ← hBAD.out, ← hWE.out, ← hVO.out])
                  have HV : Hid (∀ y ∈ VO, 0 ≤ y ∧ y < 18446744073709551616) := hide (fun y hy => by
                    rw [hVO.out] at hy
                    unfold ints at hy
                    obtain ⟨n, hn, rfl⟩ := List.mem_map.1 hy
                    have := rds_lt 4 d4 N n hn
                    have e : 256 ^ 4 = 4294967296 := by decide
                    omega)
                  clear hc o1 o2 o3 ha HS HR rb hsb hk1 hk2 hk3
                  go_wp2
                  generalize (((wr.setCell ⟨w.heap.size + 1, 0, none⟩ (.int .u64 (h.batch : Int))).setCell ⟨w.heap.size + 1, 1, none⟩ (.slice A1 BAD.length k1)).setCell ⟨w.heap.size + 1, 2, none⟩ (.slice A2 WE.length k2)).setCell ⟨w.heap.size + 1, 3, none⟩ (.slice A3 VO.length k3) = w9 at *
                  have hld := load_table (x := ⟨⟨h.batch, BAD, WE, VO⟩, A1, A2, A3, k1, k2, k3⟩) (k := w.heap.size + 1) (W := w9) HRB.out
                  refine bodyPost_ret (v := (Tl.mk ⟨h.batch, BAD, WE, VO⟩ A1 A2 A3 k1 k2 k3).val) ?_ rfl ⟨⟨⟨h.batch, BAD, WE, VO⟩, A1, A2, A3, k1, k2, k3⟩, rfl, HT.out.symm, ⟨L1.out, L2.out, L3.out, Hk.out.1, Hk.out.2.1, Hk.out.2.2, fun y hy => (HV.out y hy).1, Hbt.out, fun y hy => (HV.out y hy).2⟩, ⟨HHi.out.1.imp id (fun ⟨a, h1, h2⟩ => ⟨a, h1, Nat.le_trans HB1.out h2⟩), HHi.out.2.1.imp id (fun ⟨a, h1, h2⟩ => ⟨a, h1, Nat.le_trans HB1.out h2⟩), HHi.out.2.2.imp id (fun ⟨a, h1, h2⟩ => ⟨a, h1, Nat.le_trans HB1.out h2⟩)⟩, HBb.out⟩
                  rw [results_cell1P rfl]
                  simp only [asAddr, Array.getD]
                  exact hld
end Go.Proofs.YtigpplckddnghaaGreat
