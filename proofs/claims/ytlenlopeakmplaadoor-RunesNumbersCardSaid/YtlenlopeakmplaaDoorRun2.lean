/-
  CONTRACTS of package runes, second part: what ends a piece, pieces, Words, Lines.
-/
import Derived.Test.YtlenlopeakmplaaDoorRun1
namespace Go.Proofs.YtlenlopeakmplaaDoor
open Go.RowKit

/-- Runes as cells. -/
def i32s (zs : List Int) : List Value := zs.map fun z => .int .i32 z

theorem index_run (A : Option Addr) (n c B : Nat) (zs : List Int) (r : Int) (w : World) (h : Lies w B A (i32s zs)) (hn : n = zs.length) (hbig : n ≤ 1000000) :
    Calls Tryd.prog 53 #[.slice A n c, .int .i32 r] w fun e w' => (∃ k : Int, e = .returned (.int .i64 k) ∧ (0 ≤ k ↔ r ∈ zs)) ∧ w' = w := by
  have Hn := hide hn
  have Hl := hide h
  clear hn h
  go_enter Tryd.func53, Tryd.ntmps53
  go_wp2
  go_loop [8] (fun i => ∃ j : Nat, j ≤ n ∧ i = .int .i64 (j : Int) ∧ Hid (∀ z ∈ zs.take j, z ≠ r)) (fun i => n - (intOf i).toNat)
  case atStart => exact ⟨0, Nat.zero_le _, rfl, hide (by simp)⟩
  case round =>
    obtain ⟨j, hj, rfl, Hw⟩ := hrel
    by_cases hlt : j < n
    · have h1 : (j : Int) < (n : Int) := by omega
      have hjl : j < zs.length := by have := Hn.out; omega
      obtain ⟨a, rfl, _, hc⟩ := Hl.out.at_ (k := j) (by simp [i32s]; exact hjl)
      rw [show (i32s zs)[j]'(by simp [i32s]; exact hjl) = .int .i32 (zs[j]'hjl) by simp [i32s]] at hc
      obtain ⟨z, hz⟩ : ∃ z, z = zs[j]'hjl := ⟨_, rfl⟩
      rw [← hz] at hc
      have Hz := hide hz
      clear hz
      by_cases he : r = z
      · subst he
        go_wp2
        go_ret
        exact ⟨⟨_, rfl, fun _ => by rw [Hz.out]; exact List.getElem_mem _, fun _ => by omega⟩, rfl⟩
      · go_wp2
        refine ⟨⟨j + 1, by omega, by go_num, hide ?_⟩, by simp [intOf]; omega⟩
        intro x hx
        rw [List.take_add_one, List.getElem?_eq_getElem hjl, ← Hz.out] at hx
        rcases List.mem_append.1 hx with hx | hx
        · exact Hw.out x hx
        · simp at hx; subst hx; exact fun h => he h.symm
    · obtain rfl : j = n := by omega
      go_wp2
      go_ret
      refine ⟨⟨-1, rfl, fun h => absurd h (by omega), fun h => ?_⟩, rfl⟩
      have := Hw.out r (by rw [List.take_of_length_le (by have := Hn.out; omega)]; exact h)
      exact absurd rfl this

theorem contains_run (A : Option Addr) (n c B : Nat) (zs : List Int) (r : Int) (w : World) (h : Lies w B A (i32s zs)) (hn : n = zs.length) (hbig : n ≤ 1000000) :
    Calls Tryd.prog 42 #[.slice A n c, .int .i32 r] w fun e w' => e = .returned (.bool (decide (r ∈ zs))) ∧ w' = w := by
  have hi := index_run A n c B zs r w h hn hbig
  clear h hn
  by_cases hm : r ∈ zs
  · rw [decide_eq_true hm]
    go_enter Tryd.func42, Tryd.ntmps42
    go_wp2_with fail
    (with_reducible refine hi.mono ?_)
    rintro e w' ⟨⟨k, rfl, hk⟩, rfl⟩
    have h1 := hk.2 hm
    clear hi hk hm
    go_wp2
    go_ret
    exact ⟨rfl, rfl⟩
  · rw [decide_eq_false hm]
    go_enter Tryd.func42, Tryd.ntmps42
    go_wp2_with fail
    (with_reducible refine hi.mono ?_)
    rintro e w' ⟨⟨k, rfl, hk⟩, rfl⟩
    have h1 : ¬ 0 ≤ k := fun h => hm (hk.1 h)
    clear hi hk hm
    go_wp2
    go_ret
    exact ⟨ret_bool (decide_eq_false (by omega)), rfl⟩

/-- The runes at which a piece ends, as the function that was made holds them: block gb is the captured variable, block ga the row. -/
def EndsAt (w : World) (gb ga : Nat) (zs : List Int) : Prop :=
  w.heap[gb]? = some (.cells #[.slice (some ⟨ga, 0, none⟩) zs.length zs.length] 60 (0, 0)) ∧ ∃ fr, w.heap[ga]? = some (.cells (i32s zs).toArray 21 fr)

theorem EndsAt.kept {w w' : World} {gb ga g : Nat} {zs : List Int} (h : EndsAt w gb ga zs) (hk : Lib.OthersKept 9 (some g) w w') (h1 : gb ≠ g) (h2 : ga ≠ g) : EndsAt w' gb ga zs := by
  obtain ⟨a, fr, b⟩ := h
  refine ⟨hk gb _ a (by simpa using h1) fun c fz he => ?_, fr, hk ga _ b (by simpa using h2) fun c fz he => ?_⟩
  · injection he with _ ht; exact absurd ht (by decide)
  · injection he with _ ht; exact absurd ht (by decide)

theorem ends_run (gb ga : Nat) (zs : List Int) (r : Int) (w : World) (h : EndsAt w gb ga zs) (hz : zs.length ≤ 100) :
    Calls Tryd.prog 41 #[.int .i32 r, .pointer (some ⟨gb, 0, none⟩)] w fun e w' => e = .returned (.bool (decide (r ∈ zs))) ∧ w' = w := by
  obtain ⟨hb, fr, ha⟩ := h
  have hl : Lies w (ga + 1) (some ⟨ga, 0, none⟩) (i32s zs) := by
    refine .inr ⟨_, rfl, Nat.lt_succ_self _, fun j u hu => ?_⟩
    have e : (⟨ga, 0, none⟩ : Addr).add j = ⟨ga, j, none⟩ := by
      unfold Addr.add; by_cases hj : j = 0 <;> simp [hj]
    rw [e]
    simp [World.cell?, ha, hu]
  obtain ⟨n, hn⟩ : ∃ n, n = zs.length := ⟨_, rfl⟩
  have hc := contains_run (some ⟨ga, 0, none⟩) n n (ga + 1) zs r w hl hn (by omega)
  rw [← hn] at hb
  have hcell := cell_of_one hb
  clear hb hl hn ha
  generalize decide (r ∈ zs) = d at hc ⊢
  go_enter Tryd.func41, Tryd.ntmps41
  go_wp2_with fail
  (with_reducible refine hc.mono ?_)
  rintro e w' ⟨rfl, rfl⟩
  go_wp2
  go_ret
  exact ⟨rfl, rfl⟩

/-- The texts handed on so far, as the function that takes them holds them: block g is the captured variable; the row is the call's own from block B on. -/
def Taken (w : World) (g B n : Nat) (acc : List (List UInt8)) : Prop := ∃ A c, w.heap[g]? = some (.cells #[.slice A n c] 23 (0, 0)) ∧ w.ownsRow B 9 1 (.slice A n c) n (strs acc)

theorem own_ne_var {w : World} {B n g : Nat} {v : Value} {xs : List Value} {cs : Array Value} {fr : Nat × Nat} (h : w.ownsRow B 9 1 v n xs) (hg : w.heap[g]? = some (.cells cs 23 fr)) : v.ownBlock ≠ some g :=
  own_ne h hg (by decide)

theorem taken_push {w w1 : World} {g B n : Nat} {A A1 : Option Addr} {c c1 : Nat} {acc : List (List UInt8)} {p : List UInt8} {t : TypeId} {cs : Array Value}
    (hv : w.heap[g]? = some (.cells #[.slice A n c] 23 (0, 0))) (ho : w.ownsRow B 9 1 (.slice A n c) n (strs acc)) (hB : B ≤ w.heap.size) (hgB : B ≤ g)
    (hown : w1.ownsRow B 9 1 (.slice A1 (n + 1) c1) (n + 1) (strs acc ++ [.string (st p)])) (hgr : (w.alloc (.cells cs t)).grownBy w1 (Value.slice A n c).ownBlock) (ht : t = 9) :
    (w1.heap[g]? = some (.cells #[.slice A n c] 23 (0, 0))) ∧ Taken (w1.setCell ⟨g, 0, none⟩ (.slice A1 (n + 1) c1)) g B (n + 1) (acc ++ [p]) ∧ Below B w (w1.setCell ⟨g, 0, none⟩ (.slice A1 (n + 1) c1)) ∧ Lib.OthersKept 9 (some g) w (w1.setCell ⟨g, 0, none⟩ (.slice A1 (n + 1) c1)) := by
  subst ht
  have hlt := lt_of_block hv
  have hne := own_ne_var ho hv
  have hkeep : w1.heap[g]? = some (.cells #[.slice A n c] 23 (0, 0)) := by
    rw [hgr.block g (by simp; omega) (fun h => hne h.symm), Below.heap_alloc _ _ _ hlt]
    exact hv
  refine ⟨hkeep, ⟨A1, c1, one_setCell hkeep, ?_⟩, ?_, ?_⟩
  · rw [strs_app]
    exact ownsRow_setCell_other hown (own_ne_var hown hkeep) _
  · exact (((Below.refl _ w).alloc hB _).grown hgr (by simp; omega) (fun k hk => (ho.lt k hk).1)).setCell hgB _
  · refine Lib.OthersKept.setCell (b := g) (((Lib.OthersKept.refl 9 (some g) w).alloc _).grown hgr fun k hk => ?_) ⟨g, 0, none⟩ rfl _
    rcases ho.2 with ⟨hvn, _⟩ | ⟨g', cap, cur, hvn, _, hh, _⟩
    · rw [hvn] at hk; simp [Value.ownBlock] at hk
    · rw [hvn] at hk
      simp only [Value.ownBlock, Option.some.injEq] at hk
      subst hk
      exact ⟨_, _, (Below.heap_alloc _ _ _ (Array.getElem?_eq_some_iff.1 hh).1).trans hh⟩

set_option maxRecDepth 100000 in
theorem lines1_run (g B n : Nat) (acc : List (List UInt8)) (p : List UInt8) (P : ByteArray) (w : World) (hP : P = st p) (h : Taken w g B n acc) (hB : B ≤ w.heap.size) (hgB : B ≤ g) (hn : n ≤ 1000000) :
    Calls Tryd.prog 30 #[.string P, .pointer (some ⟨g, 0, none⟩)] w fun e w' => e = .returned (.tuple #[]) ∧ Taken w' g B (n + 1) (acc ++ [p]) ∧ Below B w w' ∧ Lib.OthersKept 9 (some g) w w' := by
  obtain ⟨A, c, hv, ho⟩ := h
  have hcell := cell_of_one hv
  have hfree := free_of_one hv
  have hlt := lt_of_block hv
  have Ho := hide ho
  have Hv := hide hv
  clear ho hv
  go_enter Tryd.func30, Tryd.ntmps30
  go_wp2_with (at_builtin; refine wpl_app _ rfl strelems (.tmp 3) (.tmp 5) rfl B (.slice A n c) n _ rfl (Ho.out.alloc _) (w.heap.size + 1) (some ⟨w.heap.size, 0, none⟩) 1 1 _ rfl (by rfl) (Lies.new w _ _ _ _ (by omega)) (by simp [Value.oneCell']) (by unfold maxLen; omega) (by omega) (by simp; omega) ?_; intro A1 c1 w1 hown1 hg1 hat1; have Hk := hide (taken_push Hv.out Ho.out hB hgB hown1 hg1 rfl); clear hown1 hg1 hat1; have hcell1 := cell_of_one Hk.out.1; have hfree1 := free_of_one Hk.out.1)
  all_goals
    go_end0
    exact ⟨rfl, Hk.out.2⟩

set_option maxRecDepth 100000 in
theorem words1_run (g B n : Nat) (acc : List (List UInt8)) (p : List UInt8) (P : ByteArray) (w : World) (hP : P = st p) (h : Taken w g B n acc) (hB : B ≤ w.heap.size) (hgB : B ≤ g) (hn : n ≤ 1000000) :
    Calls Tryd.prog 29 #[.string P, .pointer (some ⟨g, 0, none⟩)] w fun e w' => e = .returned (.tuple #[]) ∧ Taken w' g B (n + (if p = [] then 0 else 1)) (acc ++ (if p = [] then [] else [p])) ∧ Below B w w' ∧ Lib.OthersKept 9 (some g) w w' := by
  by_cases hp : p = []
  · have hPe : P.toList.isEmpty = true := by rw [hP]; exact (st_empty p).2 hp
    rw [if_pos hp, if_pos hp, List.append_nil]
    clear hP
    have Hh := hide h
    clear h
    go_enter Tryd.func29, Tryd.ntmps29
    go_wp2
    go_end0
    exact ⟨rfl, Hh.out, Below.refl _ _, Lib.OthersKept.refl _ _ _⟩
  · have hPe : P.toList.isEmpty = false := by rw [hP]; exact Bool.eq_false_iff.2 fun h => hp ((st_empty p).1 h)
    rw [if_neg hp, if_neg hp]
    have HP := hide hP
    clear hP
    obtain ⟨A, c, hv, ho⟩ := h
    have hcell := cell_of_one hv
    have hfree := free_of_one hv
    have hlt := lt_of_block hv
    have Ho := hide ho
    have Hv := hide hv
    clear ho hv
    go_enter Tryd.func29, Tryd.ntmps29
    go_wp2_with (at_builtin; refine wpl_app _ rfl strelems (.tmp 5) (.tmp 7) rfl B (.slice A n c) n _ rfl (Ho.out.alloc _) (w.heap.size + 1) (some ⟨w.heap.size, 0, none⟩) 1 1 _ rfl (by rfl) (Lies.new w _ _ _ _ (by omega)) (by simp [Value.oneCell']) (by unfold maxLen; omega) (by omega) (by simp; omega) ?_; intro A1 c1 w1 hown1 hg1 hat1; have Hk := hide (taken_push Hv.out Ho.out hB hgB (by rw [HP.out] at hown1; exact hown1) hg1 rfl); clear hown1 hg1 hat1; have hcell1 := cell_of_one Hk.out.1; have hfree1 := free_of_one Hk.out.1)
    all_goals
      go_end0
      exact ⟨rfl, Hk.out.2⟩

def seg (l : List UInt8) (i j : Nat) : List UInt8 := (l.take j).drop i
theorem seg_app (l : List UInt8) (i j d : Nat) (h : i ≤ j) : seg l i j ++ (l.drop j).take d = seg l i (j + d) := by
  unfold seg
  rw [List.take_add, List.drop_append]
  by_cases hj : j ≤ l.length
  · rw [show i - (l.take j).length = 0 by rw [List.length_take]; omega, List.drop_zero]
  · rw [List.drop_eq_nil_of_le (show l.length ≤ j by omega)]; simp

theorem own_iterAt {w : World} {B n k : Nat} {e : TypeId} {v : Value} {xs : List Value} {s : ByteArray} {pos : Nat} (h : w.ownsRow B e 1 v n xs) (hk : w.heap[k]? = some (.stringIter s pos)) (pos' : Nat) : (w.iterAt k s pos').ownsRow B e 1 v n xs := by
  refine ⟨h.1, ?_⟩
  rcases h.2 with h2 | ⟨g, cap, cur, hv, hg, hh, r⟩
  · exact .inl h2
  · have hne : g ≠ k := by
      intro he
      subst he
      rw [hh] at hk
      injection hk with hk
      cases hk
    exact .inr ⟨g, cap, cur, hv, hg, (Lib.iterAt_other w k g s pos' hne).trans hh, r⟩
theorem Taken.iterAt {w : World} {g B n k : Nat} {acc : List (List UInt8)} {s : ByteArray} {pos : Nat} (h : Taken w g B n acc) (hk : w.heap[k]? = some (.stringIter s pos)) (hg : g ≠ k) (pos' : Nat) : Taken (w.iterAt k s pos') g B n acc := by
  obtain ⟨A, c, hv, ho⟩ := h
  exact ⟨A, c, (Lib.iterAt_other w k g s pos' hg).trans hv, own_iterAt ho hk pos'⟩
theorem EndsAt.iterAt {w : World} {gb ga k : Nat} {zs : List Int} {s : ByteArray} {pos : Nat} (h : EndsAt w gb ga zs) (hk : w.heap[k]? = some (.stringIter s pos)) (pos' : Nat) : EndsAt (w.iterAt k s pos') gb ga zs := by
  obtain ⟨a, fr, b⟩ := h
  have h1 : gb ≠ k := by
    intro he; subst he; rw [a] at hk; injection hk with hk; cases hk
  have h2 : ga ≠ k := by
    intro he; subst he; rw [b] at hk; injection hk with hk; cases hk
  exact ⟨(Lib.iterAt_other w k gb s pos' h1).trans a, fr, (Lib.iterAt_other w k ga s pos' h2).trans b⟩

/-- A function that takes pieces: what it hands on of one. -/
def TakesAs (T g B : Nat) (tk : List UInt8 → List (List UInt8)) : Prop :=
  ∀ (n : Nat) (acc : List (List UInt8)) (p : List UInt8) (P : ByteArray) (w : World), P = st p → Taken w g B n acc → B ≤ w.heap.size → n ≤ 1000000 →
    Calls Tryd.prog T #[.string P, .pointer (some ⟨g, 0, none⟩)] w fun e w' => e = .returned (.tuple #[]) ∧ Taken w' g B (n + (tk p).length) (acc ++ tk p) ∧ Below B w w' ∧ Lib.OthersKept 9 (some g) w w'

theorem runeLen_ascii {r : Int} (h0 : 0 ≤ r) (h1 : r < 128) : Lib.runeLen r = 1 := by
  unfold Lib.runeLen
  repeat' split
  all_goals omega

set_option maxRecDepth 100000 in
set_option maxHeartbeats 2000000 in
theorem pieces_run (s : ByteArray) (T g gb ga B : Nat) (zs : List Int) (ec : UInt8 → Bool) (tk : List UInt8 → List (List UInt8)) (w : World) (hs : s.size ≤ 100000)
    (hcf : ∀ args w, (callFunc T args).run Tryd.prog w = .ok (.enter T args) w)
    (hT : TakesAs T g B tk) (htk : ∀ p, (tk p).length ≤ 1) (hz0 : ∀ z ∈ zs, 0 ≤ z ∧ z < 128) (hz1 : ∀ c : UInt8, ec c = decide ((c.toNat : Int) ∈ zs)) (hzl : zs.length ≤ 100)
    (h : Taken w g B 0 []) (hE : EndsAt w gb ga zs) (hB : B ≤ g) (hg : g < w.heap.size) (hgb : gb ≠ g) (hga : ga ≠ g) :
    Calls Tryd.prog 27 #[.string s, .func (Fn.func 41) #[] #[.pointer (some ⟨gb, 0, none⟩)], .func (Fn.func T) #[] #[.pointer (some ⟨g, 0, none⟩)]] w fun e w' =>
      e = .returned (.tuple #[]) ∧ Taken w' g B ((pcs ec [] s.data.toList).flatMap tk).length ((pcs ec [] s.data.toList).flatMap tk) ∧ Below B w w' := by
  obtain ⟨R, hR⟩ : ∃ R, R = (pcs ec [] s.data.toList).flatMap tk := ⟨_, rfl⟩
  rw [← hR]
  have HR := hide hR
  clear hR
  have Hext := hide (st_ext s)
  have Hfrom := hide (st_from s)
  have Hlen := hide (show s.data.toList.length = s.size by rw [Array.length_toList]; rfl)
  have HT := hide hT
  have Hh := hide h
  have HE := hide hE
  have Hz0 := hide hz0
  have Hz1 := hide hz1
  have Htk := hide htk
  clear hT h hE hz0 hz1 htk
  go_enter Tryd.func27, Tryd.ntmps27
  go_wp2
  go_loopw [6] (fun f wr => ∃ (pos fr n : Nat) (acc : List (List UInt8)), f = .int .i64 (fr : Int) ∧ fr ≤ pos ∧ pos ≤ s.size ∧ n ≤ fr ∧ wr.heap[w.heap.size]? = some (.stringIter s pos) ∧ Below B w wr ∧
      Hid (Taken wr g B n acc ∧ EndsAt wr gb ga zs ∧ acc ++ (pcs ec (seg s.data.toList fr pos) (s.data.toList.drop pos)).flatMap tk = R)) (fun _ wr => s.size - wr.iterPos w.heap.size)
  case atStart =>
    refine ⟨0, 0, 0, [], rfl, Nat.le_refl _, Nat.zero_le _, Nat.le_refl _, ?_, (Below.refl _ w).alloc (by omega) _, hide ⟨?_, ?_, ?_⟩⟩
    · have := World.iter_heap w s 0
      simpa using this
    · obtain ⟨A, c, hv, ho⟩ := Hh.out
      exact ⟨A, c, (Below.heap_alloc _ _ _ hg).trans hv, ho.alloc _⟩
    · exact HE.out.kept ((Lib.OthersKept.refl _ (some g) w).alloc _) hgb hga
    · rw [HR.out]; rfl
  case round =>
    obtain ⟨pos, fr, n, acc, rfl, hfp, hps, hnf, hit, hbw, HP⟩ := hrel
    have hsz : w.heap.size < wr.heap.size := (Array.getElem?_eq_some_iff.1 hit).1
    by_cases hp : pos < s.size
    · have hnx := fun ty => nx wr w.heap.size s pos ty hit hp
      obtain ⟨hne, hw1, hw2, -⟩ := step_facts s pos hp
      have Hpb := hide (piece_bytes hne)
      have Hseg := hide (seg_app s.data.toList fr pos (wd (s.data.toList.drop pos)) hfp)
      have Hdr := hide (show s.data.toList.drop pos = (s.data.toList.drop pos).take (wd (s.data.toList.drop pos)) ++ s.data.toList.drop (pos + wd (s.data.toList.drop pos)) by
        rw [← List.drop_drop, List.take_append_drop])
      obtain ⟨p, hpp⟩ : ∃ p, p = (s.data.toList.drop pos).take (wd (s.data.toList.drop pos)) := ⟨_, rfl⟩
      obtain ⟨d, hd⟩ : ∃ d, d = wd (s.data.toList.drop pos) := ⟨_, rfl⟩
      obtain ⟨v, hv⟩ : ∃ v, v = va (s.data.toList.drop pos) := ⟨_, rfl⟩
      obtain ⟨b, hb⟩ : ∃ b, b = bt (s.data.toList.drop pos) 0 := ⟨_, rfl⟩
      obtain ⟨y, hy⟩ : ∃ y, y = (s.data.toList.drop pos).getD 0 0 := ⟨_, rfl⟩
      have Hby := hide (show b = y.toNat by rw [hb, hy]; rfl)
      rw [← hpp, ← hd, ← hv, ← hb, ← hy] at Hpb
      rw [← hpp] at Hdr Hseg
      rw [← hd] at hnx hw1 hw2 Hdr Hseg
      rw [← hv] at hnx
      clear hpp hd hv hb hy hne
      have hit2 := Lib.iterAt_heap wr w.heap.size s pos (pos + d) hit
      have hbw2 := Lib.below_iterAt hbw (k := w.heap.size) (by omega) s (pos + d)
      have hsz2 : B ≤ (wr.iterAt w.heap.size s (pos + d)).heap.size := by rw [Lib.iterAt_size]; omega
      have HP2 := hide (And.intro (HP.out.1.iterAt hit (by omega) (pos + d)) (HP.out.2.1.iterAt hit (pos + d)))
      generalize wr.iterAt w.heap.size s (pos + d) = w2 at hnx hit2 hbw2 HP2 hsz2
      have hends := ends_run gb ga zs (v : Nat) w2 HP2.out.2 hzl
      obtain ⟨r, hr⟩ : ∃ r : Int, r = (v : Nat) := ⟨_, rfl⟩
      rw [← hr] at hnx hends
      have Hr := hide hr
      clear hr
      by_cases hin : r ∈ zs
      · rw [decide_eq_true hin] at hends
        have hr1 := Hz0.out r hin
        have hrl := Tryd.utf8_RuneLen r
        rw [runeLen_ascii hr1.1 hr1.2] at hrl
        obtain ⟨hd1, hvb, hb128, hpy⟩ : d = 1 ∧ v = b ∧ b < 128 ∧ p = [y] := by
          rcases Hpb.out with h | h
          · exact h
          · exfalso; have := h.1; have := Hr.out; omega
        subst hd1
        have Hec := hide (show ec y = true by
          rw [Hz1.out y, decide_eq_true_eq, ← Hby.out, ← hvb, ← Hr.out]; exact hin)
        have Hx := hide (show s.extract fr pos = st (seg s.data.toList fr pos) from Hext.out fr pos)
        have Hacc := hide (show (acc ++ tk (seg s.data.toList fr pos)) ++ (pcs ec [] (s.data.toList.drop (pos + 1))).flatMap tk = R by
          have h := HP.out.2.2
          rw [Hdr.out, hpy, List.singleton_append, pcs_end ec y _ _ Hec.out, List.flatMap_cons] at h
          rw [← h]; simp)
        have ht := HT.out n acc (seg s.data.toList fr pos) (s.extract fr pos) w2 Hx.out HP2.out.1 hsz2 (by omega)
        have hl1 := Htk.out (seg s.data.toList fr pos)
        obtain ⟨q, hq⟩ : ∃ q, q = (tk (seg s.data.toList fr pos)).length := ⟨_, rfl⟩
        rw [← hq] at ht hl1
        clear hin hr1 hpy hvb hq
        have g1 : (fr : Int) ≤ (pos : Int) := by omega
        have g2 : (pos : Int) ≤ (s.size : Int) := by omega
        go_wp2_with fail
        (with_reducible refine hends.mono ?_)
        rintro e w' ⟨rfl, rfl⟩
        clear hends
        go_wp2_with fail
        (with_reducible refine ht.mono ?_)
        rintro e w3 ⟨rfl, htk3, hb3, ho3⟩
        have Htk3 := hide htk3
        have hit3 := ho3.iter hit2 (by omega)
        have HE3 := hide (HP2.out.2.kept ho3 hgb hga)
        clear ht htk3 ho3
        go_wp2_with (go_at_call 40; (with_reducible refine (hrl w3).mono ?_); rintro e w' ⟨rfl, rfl⟩)
        go_roundw
        case rel => exact ⟨pos + 1, pos + 1, n + q, acc ++ tk (seg s.data.toList fr pos), by go_num, Nat.le_refl _, by omega, by omega, hit3, hbw2.trans hb3, hide ⟨Htk3.out, HE3.out, by
          rw [show seg s.data.toList (pos + 1) (pos + 1) = [] by unfold seg; rw [List.drop_eq_nil_of_le (by rw [List.length_take]; omega)]]
          exact Hacc.out⟩⟩
        case measure => simp only [World.iterPos, hit3, hit]; omega
      · rw [decide_eq_false hin] at hends
        have Hacc := hide (show acc ++ (pcs ec (seg s.data.toList fr (pos + d)) (s.data.toList.drop (pos + d))).flatMap tk = R by
          have h := HP.out.2.2
          have hall : ∀ c ∈ p, ec c = false := by
            intro c hc
            rw [Hz1.out c, decide_eq_false_iff_not]
            rcases Hpb.out with ⟨-, hvb, -, hpy⟩ | ⟨-, hpy⟩
            · rw [hpy, List.mem_singleton] at hc
              rw [hc, ← Hby.out, ← hvb, ← Hr.out]; exact hin
            · intro hm
              have := Hz0.out _ hm
              have := hpy c hc
              omega
          rw [Hdr.out, pcs_app ec p _ _ hall, Hseg.out] at h
          exact h)
        clear hin
        go_wp2_with fail
        (with_reducible refine hends.mono ?_)
        rintro e w' ⟨rfl, rfl⟩
        clear hends
        go_wp2
        go_roundw
        case rel => exact ⟨pos + d, fr, n, acc, rfl, by omega, by omega, by omega, hit2, hbw2, hide ⟨HP2.out.1, HP2.out.2, Hacc.out⟩⟩
        case measure => simp only [World.iterPos, hit2, hit]; omega
    · have hnx := fun ty => nx_end wr w.heap.size s pos ty hit hp
      obtain rfl : pos = s.size := by omega
      have Hx := hide (show s.extract fr s.size = st (seg s.data.toList fr s.size) by rw [Hext.out]; rfl)
      have ht := HT.out n acc (seg s.data.toList fr s.size) (s.extract fr s.size) wr Hx.out HP.out.1 (by omega) (by omega)
      have Hacc := hide (show acc ++ tk (seg s.data.toList fr s.size) = R by
        have h := HP.out.2.2
        rw [List.drop_eq_nil_of_le (by rw [Hlen.out]; exact Nat.le_refl _)] at h
        unfold pcs at h
        rw [← h]; simp)
      rw [Hacc.out] at ht
      have g1 : (fr : Int) ≤ (s.size : Int) := by omega
      go_wp2_with fail
      (with_reducible refine ht.mono ?_)
      rintro e w3 ⟨rfl, htk3, hb3, ho3⟩
      go_wp2
      go_end0
      refine ⟨rfl, ?_, hbw.trans hb3⟩
      obtain ⟨A, c, hv, ho⟩ := htk3
      have hl := ho.1
      rw [strs_len, Nat.mul_one] at hl
      rw [hl]
      exact ⟨A, c, hv, ho⟩

end Go.Proofs.YtlenlopeakmplaaDoor
