/-
  LAYER 22, CONTRACTS: the function that tells how many places are in a block, and keeps what it told; the one that tells which of two blocks is collected first.
-/
import Derived.Test.YtabancgcokcfdaaVcM
import Derived.Test.YtabancgcokcfdaaWrA
import Derived.Test.YtabancgcokcfdaaWrF
namespace Go.Proofs.Ytabancgcokcfdaa
open Go.RowKit
open Go.Maps (Keyed IsMap)
set_option maxRecDepth 8000
namespace Vc

theorem step_callV {P : Program} {w : World} {ops : Array Oper} {o : Oper} {a : Act} {K : Act → World → Prop} {Q : Exit → Act → World → Prop} {F : Prop} (hgd : Region.wanted o (yielded ops a.tmps) = true) {f : FuncId} {args : Array Value} (hr : (execOp a.eval o).run P w = .ok (.enter f args) w)
    (hc : Calls P f args w fun e w' => ∃ v, e = .returned v ∧ K (a.put o.dst v) w') : if Region.wanted o (yielded ops a.tmps) = true then Oper.wp P o a w K Q else F := by
  rw [if_pos hgd]
  unfold Oper.wp
  rw [hr]
  refine hc.mono ?_
  rintro e w' ⟨v, rfl, h⟩
  exact h
theorem zeroInt (w : World) : (zeroValue 3).run Try.prog w = .ok (.int .i64 0) w := by kernel_rfl
theorem madeInts (w : World) : (Instr.makeMap 46 none).run Try.prog w = .ok (.map (some w.heap.size)) (w.alloc (.map #[] 0)) := by kernel_rfl
/-- What is known, behind the block that holds the places: the map is block q + 1, of keys that are among S, each with the number of its places. -/
structure Kp (L : List Pl2) (S : List Int) (q : Nat) (W : World) : Prop where
  box : ∃ (A : Option Addr) (c : Nat), W.heap[q]? = some (.cells #[.slice A L.length c] 23 (0, 0)) ∧ Lies W q A (rowQ L)
  known : W.heap[q + 2]? = some (.cells #[.map (some (q + 1))] 46 (0, 0))
  map_ : ∃ (D : DataW Value) (ks : List Int), W.ownsMap Try.prog 3 rawP (q + 1) ks.length D ∧ IsMap D ∧ ks.Nodup ∧ (∀ x ∈ ks, x ∈ S) ∧ (∀ x : Int, Maps.has D (.int .i64 x) = decide (x ∈ ks)) ∧
    ∀ x ∈ ks, D.atKey (.int .i64 x) (.held (.int .i64 0)) = .held (.int .i64 (cntB x L))
section
variable {L : List Pl2} {S : List Int} {q : Nat} {W W' : World}
/-- It stays what it is where a block behind it is written. -/
theorem Kp.kept {r : Option Nat} (h : Kp L S q W) (hg : W.grownBy W' r) (hr : ∀ k, r = some k → q + 3 ≤ k) : Kp L S q W' := by
  have hk2 := (Array.getElem?_eq_some_iff.1 h.known).1
  have hb : ∀ k, k < q + 3 → W'.heap[k]? = W.heap[k]? := fun k hk => hg.block k (by omega) (fun e => by have := hr k e.symm; omega)
  obtain ⟨A, c, h1, h2⟩ := h.box
  obtain ⟨D, ks, h3, h4⟩ := h.map_
  refine ⟨⟨A, c, (hb q (by omega)).trans h1, ?_⟩, (hb _ (by omega)).trans h.known, D, ks, h3.kept hg (fun e => by have := hr _ e.symm; omega), h4⟩
  rcases h2 with h2 | ⟨a, e1, e2, e3⟩
  · exact .inl h2
  · refine .inr ⟨a, e1, e2, fun j u hu => ?_⟩
    have e4 : (a.add j).block = a.block := by unfold Addr.add; split <;> rfl
    exact (World.cell?_of_block (a := a.add j) (by rw [e4]; exact hb _ (by omega))).trans (e3 j u hu)
theorem Kp.lt (h : Kp L S q W) : q + 2 < W.heap.size := (Array.getElem?_eq_some_iff.1 h.known).1
theorem Kp.below {B : Nat} (h : Kp L S q W) (hb : Below B W W') (hB : q + 3 ≤ B) : Kp L S q W' := by
  have hk2 := h.lt
  obtain ⟨A, c, h1, h2⟩ := h.box
  obtain ⟨D, ks, h3, h4⟩ := h.map_
  refine ⟨⟨A, c, (hb.block q (by omega)).trans h1, ?_⟩, (hb.block _ (by omega)).trans h.known, D, ks, ?_, h4⟩
  · rcases h2 with h2 | ⟨a, e1, e2, e3⟩
    · exact .inl h2
    · refine .inr ⟨a, e1, e2, fun j u hu => ?_⟩
      have e4 : (a.add j).block = a.block := by unfold Addr.add; split <;> rfl
      exact (World.cell?_of_block (a := a.add j) (by rw [e4]; exact hb.block _ (by omega))).trans (e3 j u hu)
  · obtain ⟨es, clock, h5, h6⟩ := h3
    exact ⟨es, clock, (hb.block _ (by omega)).trans h5, h6⟩
/-- The map is written. -/
theorem Kp.put {x : Int} {D : DataW Value} {ks : List Int} (h : Kp L S q W) (hx : x ∈ S) (hn : x ∉ ks)
    (hd : IsMap D ∧ ks.Nodup ∧ (∀ x ∈ ks, x ∈ S) ∧ (∀ x : Int, Maps.has D (.int .i64 x) = decide (x ∈ ks)) ∧ ∀ x ∈ ks, D.atKey (.int .i64 x) (.held (.int .i64 0)) = .held (.int .i64 (cntB x L)))
    (hm : W'.ownsMap Try.prog 3 rawP (q + 1) (ks.length + 1) (D.put (.int .i64 x) (.held (.int .i64 (cntB x L))))) (hg : W.grownBy W' (some (q + 1))) : Kp L S q W' := by
  have hk2 := h.lt
  have hb : ∀ k, k < W.heap.size → k ≠ q + 1 → W'.heap[k]? = W.heap[k]? := fun k hk hne => hg.block k hk (fun e => hne (by injection e))
  obtain ⟨A, c, h1, h2⟩ := h.box
  obtain ⟨d1, d2, d3, d4, d5⟩ := hd
  refine ⟨⟨A, c, (hb q (by omega) (by omega)).trans h1, ?_⟩, (hb _ (by omega) (by omega)).trans h.known, _, x :: ks, hm, d1.put _ _, List.nodup_cons.2 ⟨hn, d2⟩, ?_, fun y => ?_, fun y hy => ?_⟩
  · rcases h2 with h2 | ⟨a, e1, e2, e3⟩
    · exact .inl h2
    · refine .inr ⟨a, e1, e2, fun j u hu => ?_⟩
      have e4 : (a.add j).block = a.block := by unfold Addr.add; split <;> rfl
      exact (World.cell?_of_block (a := a.add j) (by rw [e4]; exact hb _ (by omega) (by omega))).trans (e3 j u hu)
  · intro y hy
    rcases List.mem_cons.1 hy with rfl | hy
    · exact hx
    · exact d3 y hy
  · by_cases he : y = x
    · rw [he, Go.Maps.has_put_same d1 (by simp [Go.WideAt.IsKeyLit])]
      simp
    · rw [Go.Maps.has_put_other (by intro e; injection e with _ e; exact he e), d4]
      simp [he]
  · by_cases he : y = x
    · rw [he]
      exact Go.Maps.atKey_put_same d1 (by simp [Go.WideAt.IsKeyLit]) _ _
    · rw [Go.Maps.atKey_put_other (by intro e; injection e with _ e; exact he e)]
      exact d5 y ((List.mem_cons.1 hy).resolve_left he)
end
set_option maxHeartbeats 2000000 in
theorem keeper_any (A : Option Addr) (c : Nat) (L : List Pl2) (S : List Int) (w : World) (hl : Lies w w.heap.size A (rowQ L)) :
    Calls Try.prog 15 #[.slice A L.length c] w fun e w' => e = .returned (.func (.func 21) #[] #[.pointer (some ⟨w.heap.size + 2, 0, none⟩), .pointer (some ⟨w.heap.size, 0, none⟩)]) ∧ Kp L S w.heap.size w' ∧ Below w.heap.size w w' ∧ w'.heap.size = w.heap.size + 3 := by
  obtain ⟨n, hn⟩ : ∃ n, L.length = n := ⟨_, rfl⟩
  have HK : Hid (Kp L S w.heap.size (((w.alloc (.cells #[.slice A n c] 23)).alloc (.map #[] 0)).alloc (.cells #[.map (some (w.heap.size + 1))] 46))) := by
    refine hide ⟨⟨A, c, ?_, ?_⟩, ?_, .map [], [], ?_, Go.Maps.isMap_empty, List.nodup_nil, fun x hx => absurd hx (List.not_mem_nil), fun x => rfl, fun x hx => absurd hx (List.not_mem_nil)⟩
    · rw [hn]
      have e1 := heap_alloc_new w (.cells #[.slice A n c] 23)
      have e2 := Below.heap_alloc (w.alloc (.cells #[.slice A n c] 23)) (.map #[] 0) w.heap.size (by simp)
      have e3 := Below.heap_alloc ((w.alloc (.cells #[.slice A n c] 23)).alloc (.map #[] 0)) (.cells #[.map (some (w.heap.size + 1))] 46) w.heap.size (by simp; omega)
      exact (e3.trans e2).trans e1
    · exact hl.below ((((Below.refl w.heap.size w).alloc (Nat.le_refl _) _).alloc (by simp) _).alloc (by simp; omega) _)
    · have e1 := heap_alloc_new ((w.alloc (.cells #[.slice A n c] 23)).alloc (.map #[] 0)) (.cells #[.map (some (w.heap.size + 1))] 46)
      simpa using e1
    · have e1 := World.ownsMap_made (H := Value) (w.alloc (.cells #[.slice A n c] 23)) Try.prog 3 rawP
      have e2 := e1.alloc (.cells #[.map (some (w.heap.size + 1))] 46)
      simpa using e2
  have HB := hide ((((Below.refl w.heap.size w).alloc (Nat.le_refl _) (.cells #[.slice A n c] 23)).alloc (by simp) (.map #[] 0)).alloc (by simp; omega) (.cells #[.map (some (w.heap.size + 1))] 46))
  rw [hn]
  clear hl hn
  have mk := madeInts (w.alloc (.cells #[.slice A n c] 23))
  go_enter Try.func15, Try.ntmps15
  go_wp2
  go_ret
  refine ⟨?_, ?_, ?_, ?_⟩
  all_goals first | rfl | exact HK.out | exact HB.out | simp
theorem KpOk_len {L : List Pl2} {S ks : List Int} {q : Nat} {W : World} (_ : Kp L S q W) (hn : ks.Nodup) (hs : ∀ x ∈ ks, x ∈ S) (hS : S.length ≤ 1000) : ks.length < maxLen := by
  have := nodup_len ks S hn hs
  unfold maxLen
  omega
theorem Kp.c0 {L : List Pl2} {S : List Int} {q : Nat} {W : World} {A : Option Addr} {c : Nat} (h1 : W.heap[q]? = some (.cells #[.slice A L.length c] 23 (0, 0))) : W.cell? ⟨q, 0, none⟩ = some (.slice A L.length c) := by simp [World.cell?, h1]
theorem Kp.c2 {L : List Pl2} {S : List Int} {q : Nat} {W : World} (h : Kp L S q W) : W.cell? ⟨q + 2, 0, none⟩ = some (.map (some (q + 1))) := by simp [World.cell?, h.known]
set_option maxHeartbeats 4000000 in
theorem keep1_any (L : List Pl2) (S : List Int) (q : Nat) (x : Int) (w : World) (h : Kp L S q w) (hx : x ∈ S) (hox : Ok64 x) (hL : L.length ≤ 1000) (hS : S.length ≤ 1000) :
    Calls Try.prog 21 #[.int .i64 x, .pointer (some ⟨q + 2, 0, none⟩), .pointer (some ⟨q, 0, none⟩)] w fun e w' => e = .returned (.int .i64 (cntB x L : Int)) ∧ Kp L S q w' ∧ w.grownBy w' (some (q + 1)) := by
  obtain ⟨A, c, h1, h2⟩ := h.box
  obtain ⟨D, ks, hm, hd⟩ := h.map_
  have c0 := Kp.c0 (S := S) h1
  have c2 := h.c2
  obtain ⟨v, ps, hrun, hat⟩ := hm.look_ok keyP Try.underlying46 (zeroInt w) (zd := .held (.int .i64 0)) (zp := []) rfl (key_pl hox)
  rw [hd.2.2.2.1 x] at hrun
  have FC := hide (count_any A L.length c q L x w h2 (by have := h.lt; omega) rfl hL)
  have H := hide h
  have Hx := hide hx
  have Hd := hide hd
  have Hm := hide hm
  have Hk := hide (key_pl hox)
  have HS := hide (KpOk_len h hd.2.1 hd.2.2.1 hS)
  obtain ⟨n, hn⟩ : ∃ n, cntB x L = n := ⟨_, rfl⟩
  have Hn := hide hn
  rw [hn] at FC ⊢
  by_cases hin : x ∈ ks
  · have hv : v = .int .i64 (n : Int) := by
      have e := hd.2.2.2.2 x hin
      have e2 : rawP v = some (D.atKey (.int .i64 x) (.held (.int .i64 0)), ps) := hat
      rw [e, hn] at e2
      injection e2 with e2
      injection e2 with e2 _
      injection e2
    subst hv
    rw [decide_eq_true hin] at hrun
    clear h h1 h2 hm hd hat hx hox hL hS hn hin FC Hm Hd Hk
    go_enter Try.func21, Try.ntmps21
    go_wp2
    go_ret
    exact ⟨rfl, H.out, ⟨rfl, rfl, rfl, Nat.le_refl _, fun _ _ _ => rfl⟩⟩
  · have Hin := hide hin
    rw [decide_eq_false hin] at hrun
    clear h h1 h2 hm hd hat hx hox hL hS hn hin
    go_enter Try.func21, Try.ntmps21
    go_wp2_with fail
    (with_reducible refine FC.out.mono ?_)
    rintro e w1 ⟨rfl, hb⟩
    have HB := hide hb
    have HL1 := hide H.out.lt
    have H1 := hide (H.out.kept (grown_below hb) (r := none) (fun k e => by cases e))
    have Hm1 := ownsMap_laterP Hm.out hb
    obtain ⟨w2, hput, hm2, hg2⟩ := Hm1.update (t := 46) (e := 3) (val := .int .i64 (n : Int)) keyP Try.underlying46 HS.out Hk.out rfl
    have H2 := hide (H1.out.put Hx.out Hin.out Hd.out (by rw [Hn.out]; exact hm2) hg2)
    have HG := hide (show w.grownBy w2 (some (q + 1)) from ⟨hg2.os.trans hb.os, hg2.tape.trans hb.tape, hg2.output.trans hb.output, Nat.le_trans hb.size hg2.size, fun k hk hne => (hg2.block k (Nat.lt_of_lt_of_le hk hb.size) hne).trans (hb.block k hk)⟩)
    have c2 := H1.out.c2
    clear hb Hm1 hm2 hg2 c0 hrun FC
    go_wp2
    go_ret
    exact ⟨rfl, H2.out, HG.out⟩
/-- The comparing function's box, too. -/
structure Ka (L : List Pl2) (S : List Int) (q : Nat) (W : World) : Prop where
  kp : Kp L S q W
  fn : W.heap[q + 3]? = some (.cells #[.func (.func 21) #[] #[.pointer (some ⟨q + 2, 0, none⟩), .pointer (some ⟨q, 0, none⟩)]] 37 (0, 0))
theorem Ka.kept {L : List Pl2} {S : List Int} {q : Nat} {W W' : World} {r : Option Nat} (h : Ka L S q W) (hg : W.grownBy W' r) (hr : ∀ k, r = some k → q + 4 ≤ k) : Ka L S q W' :=
  ⟨h.kp.kept hg (fun k e => by have := hr k e; omega), (hg.block _ (Array.getElem?_eq_some_iff.1 h.fn).1 (fun e => by have := hr _ e.symm; omega)).trans h.fn⟩
theorem Ka.lt {L : List Pl2} {S : List Int} {q : Nat} {W : World} (h : Ka L S q W) : q + 3 < W.heap.size := (Array.getElem?_eq_some_iff.1 h.fn).1
theorem Ka.c3 {L : List Pl2} {S : List Int} {q : Nat} {W : World} (h : Ka L S q W) : W.cell? ⟨q + 3, 0, none⟩ = some (.func (.func 21) #[] #[.pointer (some ⟨q + 2, 0, none⟩), .pointer (some ⟨q, 0, none⟩)]) := by simp [World.cell?, h.fn]
theorem ahead_any (L : List Pl2) (S : List Int) (q : Nat) (w : World) (h : Kp L S q w) (hq : w.heap.size = q + 3) :
    Calls Try.prog 17 #[.func (.func 21) #[] #[.pointer (some ⟨q + 2, 0, none⟩), .pointer (some ⟨q, 0, none⟩)]] w fun e w' => e = .returned (.func (.func 23) #[] #[.pointer (some ⟨q + 3, 0, none⟩)]) ∧ Ka L S q w' ∧ Below w.heap.size w w' := by
  have HB := hide ((Below.refl w.heap.size w).alloc (Nat.le_refl _) (.cells #[.func (.func 21) #[] #[.pointer (some ⟨q + 2, 0, none⟩), .pointer (some ⟨q, 0, none⟩)]] 37))
  have HK : Hid (Ka L S q (w.alloc (.cells #[.func (.func 21) #[] #[.pointer (some ⟨q + 2, 0, none⟩), .pointer (some ⟨q, 0, none⟩)]] 37))) := by
    refine hide ⟨h.kept (World.grownBy_alloc w _ none) (fun k e => by cases e), ?_⟩
    have := heap_alloc_new w (.cells #[.func (.func 21) #[] #[.pointer (some ⟨q + 2, 0, none⟩), .pointer (some ⟨q, 0, none⟩)]] 37)
    rwa [hq] at this
  rw [← hq]
  clear h hq
  go_enter Try.func17, Try.ntmps17
  go_wp2
  go_ret
  exact ⟨rfl, HK.out, HB.out⟩
theorem grown_drew (w : World) (r : Option Nat) : w.grownBy w.drew r := ⟨rfl, rfl, rfl, Nat.le_refl _, fun _ _ _ => rfl⟩
theorem Ka.drew {L : List Pl2} {S : List Int} {q : Nat} {W : World} (h : Ka L S q W) : Ka L S q W.drew := h.kept (grown_drew W none) (fun k e => by cases e)
theorem Ka.turn {L : List Pl2} {S : List Int} {q : Nat} {W W' : World} (h : Ka L S q W) (hk : Kp L S q W') (hg : W.grownBy W' (some (q + 1))) : Ka L S q W' :=
  ⟨hk, (hg.block _ h.lt (fun e => by injection e; omega)).trans h.fn⟩
theorem grown_trans {a b c : World} {r : Option Nat} (h : a.grownBy b r) (k : b.grownBy c r) : a.grownBy c r :=
  ⟨k.os.trans h.os, k.tape.trans h.tape, k.output.trans h.output, Nat.le_trans h.size k.size, fun j hj hne => (k.block j (Nat.lt_of_lt_of_le hj h.size) hne).trans (h.block j hj hne)⟩
set_option maxHeartbeats 4000000 in
/-- Which of two blocks is collected first: what it costs is the map alone. -/
theorem cmp1_any (L : List Pl2) (S : List Int) (q : Nat) (x y : Int) (w : World) (h : Ka L S q w) (hx : x ∈ S) (hy : y ∈ S) (hox : Ok64 x) (hoy : Ok64 y) (hL : L.length ≤ 1000) (hS : S.length ≤ 1000) :
    Calls Try.prog 23 #[.int .i64 x, .int .i64 y, .pointer (some ⟨q + 3, 0, none⟩)] w fun e w' => e = .returned (.int .i64 (cfV L x y)) ∧ Ka L S q w' ∧ w.grownBy w' (some (q + 1)) := by
  have eg : ∀ args w, (callFunc 21 args).run Try.prog w = .ok (.enter 21 args) w := enters_of Try.func21 (by kernel_rfl) rfl
  have FX := hide (fun W (h : Kp L S q W) => keep1_any L S q x W h hx hox hL hS)
  have FY := hide (fun W (h : Kp L S q W) => keep1_any L S q y W h hy hoy hL hS)
  have FC := hide (fun a b W => cmp21 a b W)
  have H := hide h
  obtain ⟨R, hR⟩ : ∃ R, cfV L x y = R := ⟨_, rfl⟩
  have HR : Hid (orW [cmpY (cntB x L : Int) (cntB y L : Int), cmpY x y] = R) := hide (by rw [orW_two]; exact hR)
  rw [hR]
  have c3 := h.c3
  generalize (cntB x L : Int) = nx at *
  generalize (cntB y L : Int) = ny at *
  clear h hx hy hox hoy hL hS hR
  go_enter Try.func23, Try.ntmps23
  go_upto_region 1 with fail
  go_region_law (first
    | (refine step_callV (f := 21) (args := #[.int .i64 x, .pointer (some ⟨q + 2, 0, none⟩), .pointer (some ⟨q, 0, none⟩)]) ?_ ?_ ?_; (focus (simp [Region.wanted]; done)); (focus (simp [Act.eval, go_sem, eg]; done)); refine (FX.out _ H.out.drew.kp).mono ?_; rintro e w2 ⟨rfl, hk, hg⟩; refine ⟨_, rfl, ?_⟩; have H2 := hide (H.out.drew.turn hk hg); have G2 := hide (grown_trans (grown_drew w _) hg); have d3 := H2.out.c3; clear hk hg)
    | (refine step_callV (f := 21) (args := #[.int .i64 y, .pointer (some ⟨q + 2, 0, none⟩), .pointer (some ⟨q, 0, none⟩)]) ?_ ?_ ?_; (focus (simp [Region.wanted]; done)); (focus (simp [Act.eval, go_sem, eg]; done)); refine (FY.out _ H2.out.kp).mono ?_; rintro e w3 ⟨rfl, hk, hg⟩; refine ⟨_, rfl, ?_⟩; have H3 := hide (H2.out.turn hk hg); have G3 := hide (grown_trans G2.out hg); clear hk hg)
    | (refine step_callV (f := 25) (args := #[.int .i64 nx, .int .i64 ny]) ?_ ?_ ?_; (focus (simp [Region.wanted]; done)); (focus (simp [Act.eval, go_sem]; done)); refine (FC.out nx ny _).mono ?_; rintro e w4 ⟨rfl, rfl⟩; refine ⟨_, rfl, ?_⟩)
    | (refine step_callV (f := 25) (args := #[.int .i64 x, .int .i64 y]) ?_ ?_ ?_; (focus (simp [Region.wanted]; done)); (focus (simp [Act.eval, go_sem]; done)); refine (FC.out x y _).mono ?_; rintro e w4 ⟨rfl, rfl⟩; refine ⟨_, rfl, ?_⟩)
    | (refine step_callV (f := 24) (args := #[.slice (some ⟨w3.heap.size, 0, none⟩) 2 2]) ?_ ?_ ?_; (focus (simp [Region.wanted]; done)); (focus (simp [Act.eval, go_sem]; done)); refine (or21 _ 2 2 _ [cmpY nx ny, cmpY x y] _ (Lies.new w3 #[.int .i64 (cmpY nx ny), .int .i64 (cmpY x y)] 3 (0, 0) (w3.heap.size + 1) (Nat.lt_succ_self _)) rfl (by decide)).mono ?_; rintro e w5 ⟨rfl, rfl⟩; refine ⟨_, rfl, ?_⟩; rw [HR.out])
    | fail)
  all_goals
    go_wp2
    go_ret
    exact ⟨rfl, H3.out.kept (World.grownBy_alloc w3 _ none) (fun k e => by cases e), grown_trans G3.out (World.grownBy_alloc w3 _ _)⟩
end Vc
end Go.Proofs.Ytabancgcokcfdaa
