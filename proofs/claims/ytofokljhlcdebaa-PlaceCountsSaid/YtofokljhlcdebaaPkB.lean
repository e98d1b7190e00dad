/-
  LAYER 20, CONTRACTS: users, Used, Count.
-/
import Derived.Test.YtofokljhlcdebaaPkU
import Derived.Test.YtofokljhlcdebaaPkV
import Derived.Test.YtofokljhlcdebaaPkS
namespace Go.Proofs.Ytofokljhlcdebaa
open Go.RowKit
open Go.Maps (Keyed IsMap)
set_option maxRecDepth 8000

abbrev Ok64 (x : Int) : Prop := -9223372036854775808 ≤ x ∧ x ≤ 9223372036854775807
def plc (q : Pl2) : List Value := [.int .i64 q.1, .int .i64 q.2]
theorem plc_len (q : Pl2) : (plc q).length = 2 := rfl
def rowQ (L : List Pl2) : List Value := L.flatMap plc
theorem rowQ_len (L : List Pl2) : (rowQ L).length = L.length * 2 := by
  induction L with
  | nil => rfl
  | cons x L ih => rw [rowQ, List.flatMap_cons, List.length_append]; show 2 + (rowQ L).length = _; rw [ih, List.length_cons]; omega
theorem rowQ_app (L : List Pl2) (q : Pl2) : rowQ (L ++ [q]) = rowQ L ++ plc q := by simp [rowQ]
theorem plelems : Elems Try.prog 40 30 2 16 := by
  obtain ⟨i0, hi, hz0, hz1, hz2⟩ := info_parts (show (Try.prog.info? 30).map (fun i => (i.zero, i.size, i.bytes)) = some (some (.agg #[.int .i64 0, .int .i64 0]), 2, 16) by kernel_rfl)
  exact ⟨Try.underlying40, ⟨i0, _, hi, hz0, hz1, hz2, rfl⟩, by decide⟩
theorem infoPl2 : (Try.prog.info? 30).map (·.size) = some 2 := by kernel_rfl
/-- A place in its box. -/
def BoxQ2 (q : Pl2) (k : Nat) (w : World) : Prop := w.heap[k]? = some (.cells #[.int .i64 q.1, .int .i64 q.2] 30 (0, 0))
theorem BoxQ2.lt {q : Pl2} {k : Nat} {w : World} (h : BoxQ2 q k w) : k < w.heap.size := (Array.getElem?_eq_some_iff.1 h).1
theorem BoxQ2.new (q : Pl2) (w : World) : BoxQ2 q w.heap.size (w.alloc (.cells #[.int .i64 q.1, .int .i64 q.2] 30)) := heap_alloc_new w _
theorem BoxQ2.below {q : Pl2} {k B : Nat} {w w' : World} (h : BoxQ2 q k w) (hb : Below B w w') (hk : k < B) : BoxQ2 q k w' := (hb.block k hk).trans h
theorem BoxQ2.c0 {q : Pl2} {k : Nat} {w : World} (h : BoxQ2 q k w) : w.cell? ⟨k, 0, none⟩ = some (.int .i64 q.1) := by simp [World.cell?, show w.heap[k]? = _ from h]
theorem BoxQ2.c1 {q : Pl2} {k : Nat} {w : World} (h : BoxQ2 q k w) : w.cell? ⟨k, 1, none⟩ = some (.int .i64 q.2) := by simp [World.cell?, show w.heap[k]? = _ from h]

/-- The numbers of the places in a block. -/
def idxF (L : List Pl2) (b : Int) : List Int := ((List.range L.length).filter fun i => decide ((L.getD i (0, 0)).1 = b)).map (fun i : Nat => (i : Int))
theorem idxF_next {L : List Pl2} {k : Nat} (h : k < L.length) (b : Int) : idxF (L.take (k + 1)) b = if b = L[k].1 then idxF (L.take k) b ++ [(k : Int)] else idxF (L.take k) b := by
  unfold idxF
  have e1 : (L.take (k + 1)).length = k + 1 := by rw [List.length_take]; omega
  have e2 : (L.take k).length = k := by rw [List.length_take]; omega
  rw [e1, e2, List.range_succ, List.filter_append, List.map_append]
  have e3 : (List.range k).filter (fun i => decide (((L.take (k + 1)).getD i (0, 0)).1 = b)) = (List.range k).filter (fun i => decide (((L.take k).getD i (0, 0)).1 = b)) := by
    apply List.filter_congr
    intro i hi
    rw [List.mem_range] at hi
    simp [List.getD, List.getElem?_take, hi, Nat.lt_succ_of_lt hi]
  rw [e3]
  have e4 : ((L.take (k + 1)).getD k (0, 0)) = L[k] := by simp [List.getD, h]
  by_cases hb : b = L[k].1
  · rw [if_pos hb]
    congr 1
    simp [e4, hb, h]
  · rw [if_neg hb]
    have hne : ¬ L[k].1 = b := fun e => hb e.symm
    simp [hne, h]
/-- Of each block just the numbers of its places, each once. -/
def UsesB (F : Int → List Int) (L : List Pl2) : Prop := ∀ b, (F b).Nodup ∧ ∀ i, i ∈ F b ↔ ∃ (k : Nat) (h : k < L.length), i = (k : Int) ∧ L[k].1 = b
theorem idxF_uses (L : List Pl2) : UsesB (idxF L) L := by
  intro b
  unfold idxF
  constructor
  · refine List.pairwise_map.2 (((List.nodup_range).filter _).imp fun {a c} h e => h (by omega))
  · intro i
    rw [List.mem_map]
    constructor
    · rintro ⟨k, hk, rfl⟩
      rw [List.mem_filter, List.mem_range] at hk
      refine ⟨k, hk.1, rfl, ?_⟩
      have := hk.2
      simpa [List.getD, hk.1] using this
    · rintro ⟨k, hk, rfl, e⟩
      exact ⟨k, by rw [List.mem_filter, List.mem_range]; exact ⟨hk, by simpa [List.getD, hk] using e⟩, rfl⟩
theorem UsesB.used {F : Int → List Int} {L : List Pl2} (h : UsesB F L) (b : Int) : F b ≠ [] ↔ b ∈ L.map Prod.fst := by
  rw [mem_map_at]
  constructor
  · intro hne
    cases hF : F b with
    | nil => exact absurd hF hne
    | cons i r =>
      obtain ⟨k, hk, _, e⟩ := ((h b).2 i).1 (by rw [hF]; exact List.mem_cons_self ..)
      exact ⟨k, hk, e⟩
  · rintro ⟨k, hk, e⟩ hF
    have := ((h b).2 (k : Int)).2 ⟨k, hk, rfl, e⟩
    rw [hF] at this
    cases this
theorem idxF_le (L : List Pl2) (b : Int) : (idxF L b).length ≤ L.length := by
  unfold idxF
  rw [List.length_map]
  exact Nat.le_trans (List.length_filter_le _ _) (Nat.le_of_eq List.length_range)

/-- What users keeps behind k of the places. -/
structure Uw (w0 : World) (L : List Pl2) (bm k : Nat) (D : DataW Value) (V : Int → Value) (W : World) : Prop where
  us : Us W bm k D V (idxF (L.take k))
  below : Below w0.heap.size w0 W
  lo : w0.heap.size ≤ bm
section
variable {w0 W W5 W6 W7 : World} {L : List Pl2} {bm k : Nat} {D : DataW Value} {V : Int → Value} {A : Option Addr} {c : Nat}
theorem Uw.later (h : Uw w0 L bm k D V W) (hb : Below W.heap.size W W5) : Uw w0 L bm k D V W5 := ⟨h.us.later hb, h.below.trans (hb.mono h.below.size), h.lo⟩
theorem Uw.map6 (h : Uw w0 L bm k D V W) (hb : Below W.heap.size W W5) {x : Int} (hg : W5.grownBy W6 (V x).ownBlock) : W6.ownsMap Try.prog 3 rawP bm k D := by
  have h5 := h.later hb
  refine h5.us.map_.kept hg ?_
  intro e
  have := (own_lowS (h5.us.own x) bm e.symm).1
  omega
theorem Uw.more {b y : Int} (h : Uw w0 L bm k D V W) (hk : L[k]? = some (b, y)) (hb : Below W.heap.size W W5)
    (hown : W6.ownsRow (bm + 1) 3 1 (.slice A ((idxF (L.take k) b).length + 1) c) ((idxF (L.take k) b).length + 1) (nums .i64 (idxF (L.take k) b) ++ [.int .i64 (k : Int)])) (hg : W5.grownBy W6 (V b).ownBlock)
    (hat : (Value.slice A ((idxF (L.take k) b).length + 1) c).ownBlock = (V b).ownBlock ∨ (Value.slice A ((idxF (L.take k) b).length + 1) c).ownBlock = some W5.heap.size)
    (hm : W7.ownsMap Try.prog 3 rawP bm (k + 1) (D.put (.int .i64 b) (.held (.slice A ((idxF (L.take k) b).length + 1) c)))) (hg7 : W6.grownBy W7 (some bm)) :
    ∃ D' V', Uw w0 L bm (k + 1) D' V' W7 := by
  obtain ⟨hl, hk'⟩ := List.getElem?_eq_some_iff.1 hk
  have hus := h.us.more hb hown hg hat hm hg7
  have e : (fun x => if x = b then idxF (L.take k) b ++ [(k : Int)] else idxF (L.take k) x) = idxF (L.take (k + 1)) := by
    funext x
    rw [idxF_next hl, hk']
    by_cases hx : x = b
    · rw [if_pos hx, if_pos hx, hx]
    · rw [if_neg hx, if_neg hx]
  rw [e] at hus
  have h5 := h.later hb
  exact ⟨_, _, hus, (h5.below.grown hg h5.below.size (fun j e => by have := (own_lowS (h5.us.own b) j e).1; have := h.lo; omega)).grown hg7 (Nat.le_trans h5.below.size hg.size) (fun j e => by injection e with e; have := h.lo; omega), h.lo⟩
end
set_option maxHeartbeats 4000000 in
theorem users_any (A : Option Addr) (n c B : Nat) (L : List Pl2) (w : World) (hl : Lies w B A (rowQ L)) (hB : B ≤ w.heap.size) (hn : n = L.length) (hbig : n ≤ 1000) (hok : ∀ q ∈ L, Ok64 q.1) :
    Calls Try.prog 42 #[.slice A n c] w fun e w' => ∃ (bm : Nat) (D : DataW Value) (V : Int → Value), e = .returned (.map (some bm)) ∧ Uw w L bm n D V w' := by
  have HL := hide hl
  have HB := hide hB
  have Hn := hide hn
  have Hbig := hide hbig
  have Hok := hide hok
  have C0 : Hid (Uw w L w.heap.size 0 (.map []) (fun _ => .slice none 0 0) (w.alloc (.map #[] 0))) := hide {
    us := by have e : idxF (L.take 0) = fun _ => [] := by funext x; rfl
             rw [e]; exact Us.made w
    below := (Below.refl _ w).alloc (Nat.le_refl _) _
    lo := Nat.le_refl _ }
  clear hl hn hbig hB hok
  go_enter Try.func42, Try.ntmps42
  have mk := madeIs w
  go_wp2_with fail
  clear mk
  generalize w.heap.size = bm at C0 ⊢
  generalize w.alloc (.map #[] 0) = w2 at *
  go_loopw [9] (fun i wr => ∃ k : Nat, k ≤ n ∧ i = .int .i64 (k : Int) ∧ ∃ D V, Hid (Uw w L bm k D V wr)) (fun i _ => n - (intOf i).toNat)
  case atStart => exact ⟨0, Nat.zero_le _, rfl, _, _, C0⟩
  case round =>
    clear C0
    obtain ⟨k, hk, rfl, D, V, HC⟩ := hrel
    by_cases hlt : k < n
    · have hlt' : (k : Int) < (n : Int) := by omega
      have e7 : wrap64 ((k : Int) + 1) = ((k + 1 : Nat) : Int) := by have := Hbig.out; unfold wrap64; omega
      have hnl : k < L.length := by rw [← Hn.out]; exact hlt
      obtain ⟨ad, rfl, hab, hca⟩ := (HL.out.below (HC.out.below.mono HB.out)).elem plc_len hnl (by decide)
      have Hca := hide hca
      have Hf := hide (Hok.out _ (List.getElem_mem hnl))
      have Hx : Hid (L[k]? = some L[k]) := hide (List.getElem?_eq_getElem hnl)
      generalize L[k] = f at *
      rcases f with ⟨fx, fy⟩
      clear hca hab hnl
      have Hlt := hide hlt
      have E7 := hide e7
      have HX4 := hide (BoxQ2.new (fx, fy) wr)
      have HA4 := hide (HC.out.later ((Below.refl wr.heap.size wr).alloc (Nat.le_refl _) (.cells #[.int .i64 fx, .int .i64 fy] 30)))
      have HVlt := hide (fun x g h => (own_lowS (HC.out.us.own x) g h).2)
      unfold plc at Hca
      dsimp only at *
      go_upto_region 5 with (with_reducible refine wpl_load_addr rfl 30 (.tmp 12) rfl (ad.add (k * 2)) _ Hca.out rfl _ Try.underlying30 rfl 2 infoPl2 rfl ?_)
      generalize wr.alloc (.cells #[.int .i64 fx, .int .i64 fy] 30) = w5 at *
      have H85 := hide HX4.out.lt
      clear Hca HC
      generalize wr.heap.size = q8 at *
      have x0 := HX4.out.c0
      have HA6 := hide (show Below w5.heap.size w5 (w5.alloc (.cells #[.int .i64 (k : Int)] 3)).drew from ((Below.refl _ _).alloc (Nat.le_refl _) _).drew)
      have y0 := (HX4.out.below HA6.out H85.out).c0
      try dsimp only at x0 y0
      have L1 := (HA4.out.later (Below.refl w5.heap.size w5).drew).us.look Hf.out
      have L2 := (HA4.out.later HA6.out).us.look Hf.out
      have Hkey := hide (key_pl Hf.out)
      have Hkm : Hid (k < maxLen) := hide (by have := Hbig.out; unfold maxLen; omega)
      have Hgl : Hid ((idxF (L.take k) fx).length ≤ 1000) := hide (Nat.le_trans (idxF_le _ _) (by rw [List.length_take]; have := Hbig.out; omega))
      have Hsz : Hid (bm + 1 ≤ (w5.alloc (.cells #[.int .i64 (k : Int)] 3)).drew.heap.size) := hide (Nat.le_trans HA4.out.us.hi HA6.out.size)
      try dsimp only at L1 L2 Hkey
      clear hlt hlt' e7 hk
      go_region_law (first
        | (refine step_app _ rfl ielems (.tmp 20) (.tmp 22) rfl (bm + 1) (V fx) (idxF (L.take k) fx).length (nums .i64 (idxF (L.take k) fx)) (by simp [Act.eval]) (own_keepT (HA4.out.us.own fx) HA6.out) (w5.heap.size + 1) (some ⟨w5.heap.size, 0, none⟩) 1 1 _ (by simp [Act.eval]) (by rfl) (Lies.new w5 _ _ _ _ (Nat.lt_succ_self _)).drew (by simp [Value.oneCell']) (by have := Hgl.out; unfold maxLen; omega) (by have := Hgl.out; omega) Hsz.out ?_; intro A3 c3 w6 hown hg hat; have z0 := (World.cell?_of_block (a := ⟨q8, 0, none⟩) (hg.block q8 (Nat.lt_of_lt_of_le H85.out HA6.out.size) (fun e => Nat.lt_irrefl _ (HVlt.out _ _ e.symm)))).trans y0; obtain ⟨w7, hrun, hm, hg7⟩ := (HA4.out.map6 HA6.out hg).update (t := 73) (e := 44) (val := .slice A3 ((idxF (L.take k) fx).length + 1) c3) keyP Try.underlying73 Hkm.out Hkey.out rfl; have HN := hide (HA4.out.more Hx.out HA6.out hown hg hat hm hg7); clear hown hg hat hm hg7))
      all_goals
        go_wp2
        go_roundw
        case rel => obtain ⟨D', V', h⟩ := HN.out; exact ⟨k + 1, Hlt.out, congrArg (Value.int .i64) E7.out, D', V', hide h⟩
        case measure => first | exact measT Hlt.out | exact measT2 E7.out Hlt.out
    · obtain rfl : k = n := by omega
      go_wp2
      go_ret
      exact ⟨bm, D, V, rfl, HC.out⟩
end Go.Proofs.Ytofokljhlcdebaa
