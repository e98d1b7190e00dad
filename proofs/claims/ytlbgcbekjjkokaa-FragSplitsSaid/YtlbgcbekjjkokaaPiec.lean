/-
  CONTRACTS: frag.pieces.
-/
import Derived.Test.YtlbgcbekjjkokaaJoin
import Derived.Test.YtlbgcbekjjkokaaCutf
import Derived.Test.YtlbgcbekjjkokaaMany
import Derived.Laws.IdiomStrings
namespace Go.Proofs.Ytlbgcbekjjkokaa
open Go.RowKit

/-- The i-th piece of a bundle, its other blocks lying at A, cut at each s bytes. -/
def pieceOf (b : Bn) (A : Option Addr) (c s i : Nat) : Bn :=
  { p := { b.p with fl := b.p.fl - b.p.fl % 2 + 1, off := b.p.off + i * s, tot := if b.p.fl % 2 = 1 then b.p.tot else b.pay.data.size }
    A := if i = 0 then A else none, n := if i = 0 then b.n else 0, c := if i = 0 then c else 0, bs := if i = 0 then b.bs else []
    pay := { b.pay with data := str ((b.bytes.drop (i * s)).take s) } }
def firstOf (b : Bn) (A : Option Addr) (c : Nat) : Bn :=
  { b with p := { b.p with fl := b.p.fl - b.p.fl % 2 + 1, tot := if b.p.fl % 2 = 1 then b.p.tot else b.pay.data.size }, A := A, c := c }
theorem set_fl (b : Bn) (x : Nat) : b.cells.toArray.setIfInBounds 0 (.int .u64 (x : Int)) = (Bn.cells { b with p := { b.p with fl := x } }).toArray := rfl
theorem set_off (b : Bn) (x : Nat) : b.cells.toArray.setIfInBounds 17 (.int .u64 (x : Int)) = (Bn.cells { b with p := { b.p with off := x } }).toArray := rfl
theorem set_tot (b : Bn) (x : Nat) : b.cells.toArray.setIfInBounds 18 (.int .u64 (x : Int)) = (Bn.cells { b with p := { b.p with tot := x } }).toArray := rfl
theorem set_bs (b : Bn) : b.cells.toArray.setIfInBounds 19 (.slice none 0 0) = (Bn.cells { b with A := none, n := 0, c := 0, bs := [] }).toArray := rfl
theorem lt_any (b : Bn) (k : Nat) (h : k < 25) : k < b.cells.toArray.size := by rw [cells_size]; exact h
theorem bninfo : (Try.prog.info? 33).map (fun i => (i.zero, i.size, i.bytes)) = some (some zBn.val, 25, 248) := by kernel_rfl

theorem own_blockN {w : World} {base g n k : Nat} {e : TypeId} {xs : List Value} (h : w.ownsRow base e k (.slice (some ⟨g, 0, none⟩) n n) n xs) : w.heap[g]? = some (.cells xs.toArray e (0, 0)) := by
  rcases h.2 with ⟨hv, _⟩ | ⟨g', cap, cur, hv, _, hg, _, _, hs, ht⟩
  · cases hv
  · cases hv
    rw [hg, ← ht, List.take_of_length_le (by simp; omega)]
theorem range_of_row {w : World} {g : Nat} {cs : List Value} {t : TypeId} {fr : Nat × Nat} (hg : w.heap[g]? = some (.cells cs.toArray t fr)) : w.rangeAt g 0 cs := by
  intro j v hv
  rw [cell_of_row _ _ _ cs.toArray t fr hg]
  simpa using hv
theorem grown_new {w0 w : World} {r : Option Nat} {g : Nat} (h : w0.grownBy w r) (hg : w0.heap.size ≤ g) (C : Array Value) : w0.grownBy (w.setRow g C) r :=
  ⟨h.os, h.tape, h.output, by simpa using h.size, fun k hk hne => (setRow_other w g k C (by omega)).trans (h.block k hk hne)⟩
theorem grown_own {w0 w : World} {g : Nat} (h : w0.grownBy w (some g)) (C : Array Value) : w0.grownBy (w.setRow g C) (some g) :=
  ⟨h.os, h.tape, h.output, by simpa using h.size, fun k hk hne => (setRow_other w g k C (fun e => hne (by rw [e]))).trans (h.block k hk hne)⟩
theorem Lies.setRowU {w : World} {a : Addr} {xs : List Value} {g : Nat} (h : Lies w w.heap.size (some a) xs) (hne : a.block ≠ g) (C : Array Value) : Lies (w.setRow g C) (w.setRow g C).heap.size (some a) xs :=
  Lies.up (h.setRow (fun a' ha => by injection ha with ha; rw [← ha]; exact hne) C) (by simp)
theorem addr0 (g z : Nat) : (⟨g, 0, none⟩ : Addr).add z = ⟨g, z, none⟩ := by unfold Addr.add; split <;> simp_all
theorem part_lies {w : World} {B : Nat} {a : Addr} {l : List UInt8} (h : Lies w B (some a) (bys l)) (z s : Nat) : Lies w B (some (a.add z)) (bys ((l.drop z).take s)) := by
  have h1 := h.drop z ((bys l).length + z + 1) (by omega)
  rw [if_neg (by omega)] at h1
  have h2 := h1.take s
  rwa [← bys_drop, ← bys_take] at h2
theorem part_len {l : List UInt8} {z s e : Nat} (_hz : z ≤ l.length) (he : e = min (z + s) l.length) : e - z = ((l.drop z).take s).length := by
  rw [List.length_take, List.length_drop]; omega
theorem row_put {cur : List Value} {k m : Nat} (hcl : cur.length = m * 25) (hk : k < m) (P : Bn) : (cur.take (k * 25) ++ (P.cells ++ cur.drop (k * 25 + 25))).length = m * 25 ∧ (cur.take (k * 25) ++ (P.cells ++ cur.drop (k * 25 + 25))).take ((k + 1) * 25) = cur.take (k * 25) ++ P.cells := by
  have h1 : (cur.take (k * 25)).length = k * 25 := by rw [List.length_take]; omega
  have h2 : P.cells.length = 25 := rfl
  refine ⟨by rw [List.length_append, List.length_append, h1, h2, List.length_drop]; omega, ?_⟩
  rw [← List.append_assoc, List.take_append_of_le_length (by rw [List.length_append, h1, h2]; omega), List.take_of_length_le (by rw [List.length_append, h1, h2]; omega)]
theorem row_fits {cur : List Value} {k m : Nat} (hcl : cur.length = m * 25) (hk : k < m) : decide (k * 25 + 25 ≤ cur.toArray.size) = true := by
  rw [decide_eq_true_iff, List.size_toArray]; omega
theorem wrN (z : Nat) (h : z ≤ 1000000) : wrap64 (z : Int) = (z : Int) := wr64 ⟨by omega, by omega⟩
theorem wrI (z : Nat) (h : z ≤ 1000000) : IntKind.i64.wrap (z : Int) = (z : Int) := IntWalk.i64_in _ ⟨by omega, by omega⟩
theorem wrU (x y z : Nat) (h : z = x + y) (h2 : x + y < 18446744073709551616) : IntKind.u64.wrap ((x : Int) + (y : Int)) = (z : Int) := by rw [IntKind.wrap_u64]; omega
theorem bytes_lies (w : World) (s : ByteArray) (cap : Nat) (t : TypeId) (fr : Nat × Nat) (B : Nat) (hB : w.heap.size < B) : Lies (w.alloc (.cells (bytesRow s cap) t fr)) B (some ⟨w.heap.size, 0, none⟩) (bys s.data.toList) := by
  refine .inr ⟨_, rfl, hB, fun j u hu => ?_⟩
  have e1 : (⟨w.heap.size, 0, none⟩ : Addr).add j = ⟨w.heap.size, j, none⟩ := by unfold Addr.add; split <;> simp_all
  have hj : j < s.data.size := by have := (List.getElem?_eq_some_iff.1 hu).1; rw [bys_len] at this; simpa using this
  rw [e1, cell_of_row _ _ _ _ _ _ (heap_alloc_new w _), bytesRow_at s cap j hj, ← hu, bys_at _ _ (by simpa using hj)]
  simp

set_option maxRecDepth 100000 in
set_option maxHeartbeats 4000000 in
theorem pieces_any (b : Bn) (B s m : Nat) (w : World) (hok : b.Ok w B) (hB : B ≤ w.heap.size) (hs : 1 ≤ s) (hs2 : s ≤ 1000000) (hm : 2 ≤ m) (hm2 : m ≤ 1024) (hlo : (m - 1) * s < b.bytes.length) (hhi : b.bytes.length ≤ m * s) (hfit : b.p.off + b.bytes.length < 18446744073709551616) :
    Calls Try.prog 19 #[b.val, .int .i64 (s : Int), .int .i64 (m : Int)] w fun e w' => ∃ A c g, e = .returned (.slice (some ⟨g, 0, none⟩) m m) ∧ Lies w' w'.heap.size (some ⟨g, 0, none⟩) (((List.range m).map (pieceOf b A c s)).flatMap Bn.cells) ∧ Bn.Ok w' w'.heap.size { b with A := A, c := c } ∧ Below w.heap.size w w' := by
  obtain ⟨w1, hw1⟩ : ∃ w1, w1 = w.alloc (.cells b.cells.toArray 33) := ⟨_, rfl⟩
  have HW1 := hide hw1
  have c24 : w1.cell? ⟨w.heap.size, 24, none⟩ = some (.string b.pay.data) := by rw [hw1]; exact range_new w b.cells 33 (0, 0) 24 _ rfl
  have Hb1 := hide (show Below w.heap.size w w1 by rw [hw1]; exact (Below.refl w.heap.size w).alloc (Nat.le_refl _) _)
  have hr1 : w1.heap[w.heap.size]? = some (.cells b.cells.toArray 33 (0, 0)) := by rw [hw1]; exact heap_alloc_last w _
  have hcv := run_bytes_of_string (P := Try.prog) w1 9 59 5 b.pay.data Try.underlying9 Try.underlying59 Try.underlying5
  have hgc := grownCap_ge w1 b.pay.data.size 0 5
  have hgm := grownCap_le_maxLen w1 b.pay.data.size 0 5 (by have := hok.data; unfold maxLen; omega)
  generalize hcap : grownCap w1 b.pay.data.size 0 5 = cap at *
  obtain ⟨w2, hw2⟩ : ∃ w2, w2 = w1.drew.alloc (.cells (bytesRow b.pay.data cap) 5 ((bytesRow b.pay.data cap).size, (bytesRow b.pay.data cap).size + 1)) := ⟨_, rfl⟩
  rw [← hw2] at hcv
  have hz1 : w.heap.size < w1.heap.size := (Array.getElem?_eq_some_iff.1 hr1).1
  have hz2 : w1.heap.size < w2.heap.size := by rw [hw2]; simp
  have HD2 := hide (show Lies w2 w2.heap.size (some ⟨w1.heap.size, 0, none⟩) (bys b.bytes) by rw [hw2]; exact bytes_lies w1.drew b.pay.data cap _ _ _ (by simp))
  have hb12 : Below w1.heap.size w1 w2 := by rw [hw2]; exact Below.alloc (bel_drewN (Below.refl _ _) 1) (Nat.le_refl _) _
  have Hb2 := hide (Hb1.out.trans (hb12.mono (Nat.le_of_lt hz1)))
  have Hr2 := hide ((hb12.block w.heap.size hz1).trans hr1)
  have Hok := hide hok
  have Hlo := hide hlo
  have Hhi := hide hhi
  have Hfit := hide hfit
  have Hval := hide (show b.val = .agg b.cells.toArray from rfl)
  rw [Hval.out]
  clear hw1 hw2 hok hlo hhi hfit hb12 hr1
  go_enter Try.func19, Try.ntmps19
  go_upto_region 1 with fail
  rw [← HW1.out]
  go_wp2_with (with_reducible refine wpl_load_at rfl 33 (.tmp 3) rfl w.heap.size 33 b.cells.toArray _ Hr2.out rfl Try.underlying33 rfl 25 info33 (cells_size b) ?_)
  refine (clone_any b B w2 (Hok.out.below (Hb2.out.mono hB)) (Nat.le_trans hB Hb2.out.size)).mono ?_
  rintro e w3 ⟨A1, c1, rfl, hok3, hb3, hab3⟩
  have hsz2 := Hb2.out.size
  have hsz3 := hb3.size
  have Hb3 := hide (Hb2.out.trans (hb3.mono hsz2))
  have Hr3 := hide ((hb3.block w.heap.size (by omega)).trans Hr2.out)
  have HD3 := hide ((HD2.out.below hb3).up hb3.size)
  obtain ⟨x0, hx0⟩ : ∃ x0, x0 = ({ b with A := A1, c := c1 } : Bn) := ⟨_, rfl⟩
  rw [show ({ b with A := A1, c := c1 } : Bn) = x0 from hx0.symm] at hok3
  have Hok3 := hide hok3
  rw [show Bn.val { b with A := A1, c := c1 } = .agg x0.cells.toArray by rw [hx0]; rfl]
  have Hx0 := hide hx0
  obtain ⟨g8, hg8⟩ : ∃ g8, g8 = w3.heap.size := ⟨_, rfl⟩
  have Hg8 := hide hg8
  have Hb3a := hide (fun o => (Below.refl w3.heap.size w3).alloc (Nat.le_refl _) o)
  have Hl3 := hide (fun A => heap_alloc_last w3 (.cells A 33))
  rw [← hg8] at Hl3
  clear hok3 hb3 hab3 hx0 hg8 HD2 Hr2 hcv c24
  go_upto_region 3 with (with_reducible refine wpl_store_last w3 rfl 33 (.tmp 8) (.tmp 17) rfl 33 _ x0.cells.toArray rfl rfl 25 info33 (cells_size x0) (by with_unfolding_all rfl) (cells_one x0) ?_; rw [← Hg8.out]; have Hr4 := hide (((Hb3a.out (.cells x0.cells.toArray 33)).block w.heap.size (by omega)).trans Hr3.out); have Hx4 := hide (Hl3.out x0.cells.toArray); have Hb4 := hide (Hb3a.out (.cells x0.cells.toArray 33)); have hz4 : w3.heap.size < (w3.alloc (.cells x0.cells.toArray 33)).heap.size := (by simp); clear Hb3a Hl3; generalize w3.alloc (.cells x0.cells.toArray 33) = w4 at *)
  try simp only [Act.put]
  try simp only [Act.put]
  try simp only [Act.put]
  try simp only [Act.put]
  try simp only [Act.put]
  try simp only [Act.put]
  try simp only [Act.put]
  try simp only [Act.put]
  try simp only [Act.put]
  try simp only [Act.put]
  try simp only [Act.put]
  try simp only [Act.put]
  try simp only [Act.put]
  try simp only [Act.put]
  try simp only [Act.put]
  try simp only [Act.put]
  try simp only [Act.put]
  -- (behind this line: wip/gen/Piec.gen.py)
  have RP4 := hide (range_p (range_of_row Hr4.out))
  go_wp2_with (with_reducible refine wpl_load_mid rfl 28 (.tmp 18) rfl w.heap.size 0 b.p.cells RP4.out rfl _ Try.underlying28 rfl 19 info28 (by with_unfolding_all rfl) ?_)
  refine (fragment_any b.p w4 Hok.out.fl).mono ?_
  rintro e w5 ⟨rfl, hb5⟩
  have hg84 : g8 < w4.heap.size := (Array.getElem?_eq_some_iff.1 Hx4.out).1
  have Hx5 := hide ((hb5.block g8 hg84).trans Hx4.out)
  have HD5 := hide ((HD3.out.below Hb4.out).below (hb5.mono (Nat.le_of_lt hz4)))
  have HO5 := hide ((Hok3.out.below Hb4.out).below (hb5.mono (Nat.le_of_lt hz4)))
  have Hb5 := hide ((Hb3.out.trans (Hb4.out.mono (by omega))).trans (hb5.mono (by have := Hb3.out.size; omega)))
  have hg85 : g8 < w5.heap.size := (Array.getElem?_eq_some_iff.1 Hx5.out).1
  have hg83 : g8 = w3.heap.size := Hg8.out
  rw [← hg83] at HD5 HO5
  clear hb5 Hr4 Hx4 HD3 Hok3 Hb4 RP4 Hr3
  have hw83 : w.heap.size ≤ g8 := by have := Hb3.out.size; omega
  have hw1g : w1.heap.size < g8 := by omega
  clear hg83 Hb3
  by_cases hfr : b.p.fl % 2 = 1
  · rw [decide_eq_true hfr]
    simp only []
    have HX1 := hide (show x0 = firstOf b A1 c1 by rw [Hx0.out]; unfold firstOf; rw [if_pos hfr, show b.p.fl - b.p.fl % 2 + 1 = b.p.fl by omega])
    have Hx6 := Hx5
    have HD6 := hide (HD5.out.up (Nat.le_of_lt hg85))
    have HO6 := hide (HO5.out.up (Nat.le_of_lt hg85))
    have Hb6 := Hb5
    have hg86 := hg85
    clear Hx5 HD5 HO5 Hb5 hfr
    generalize w5 = w6 at *
    generalize hXX : x0 = X at *
    clear hXX
    obtain ⟨i0, hi0, hz0, hzs, hzb⟩ := info_parts bninfo
    obtain ⟨w7, hmk, ho7, hg7⟩ := run_make_full (P := Try.prog) w6 w6.heap.size 36 33 i0 zBn.val 25 Try.underlying36 hi0 hz0 hzs .i64 .i64 m (by rw [hzb]; omega) (by unfold maxLen; omega) (Nat.le_refl _)
    have hrow7 := own_blockN ho7
    have hcur7 := ho7.1
    generalize (madeCells zBn.val.cells (m * 25)).toList = cur0 at *
    have hb67 : Below w6.heap.size w6 w7 := ⟨hg7.os, hg7.tape, hg7.output, hg7.size, fun k hk => hg7.block k hk (by simp)⟩
    have hG7 : w6.heap.size < w7.heap.size := (Array.getElem?_eq_some_iff.1 hrow7).1
    have Hx7 := hide ((hb67.block g8 hg86).trans Hx6.out)
    have HD7 := hide (HD6.out.below hb67)
    have HO7 := hide (HO6.out.below hb67)
    have Hb7 := hide (Hb6.out.trans (hb67.mono Hb6.out.size))
    have Hrow7 := hide hrow7
    have Hcur7 := hide hcur7
    have hsz6 := Hb6.out.size
    obtain ⟨GR, hGR⟩ : ∃ GR, GR = w6.heap.size := ⟨_, rfl⟩
    simp only [← hGR] at hmk Hx7 HD7 HO7 Hrow7 hG7 hsz6 hg86
    clear ho7 hg7 hrow7 hcur7 hb67 hi0 hz0 hzs hzb Hx6 HD6 HO6 Hb6
    have HGR := hide hGR
    clear hGR
    have hm0 : (0 : Int) ≤ (m : Int) := by omega
    go_wp2_with fail
    clear hmk
    go_loopw [10, 11, 37] (fun s10 s11 s37 wr => ∃ k : Nat, k ≤ m ∧ s37 = .int .i64 (k : Int) ∧ w7.grownBy wr (some GR) ∧ ∃ cur : List Value, Hid (wr.heap[GR]? = some (.cells cur.toArray 33 (0, 0))) ∧ cur.length = m * 25 ∧ Hid (cur.take (k * 25) = ((List.range k).map (pieceOf b A1 c1 s)).flatMap Bn.cells)) (fun s10 s11 s37 wr => m - (intOf s37).toNat)
    case atStart => exact ⟨0, Nat.zero_le _, rfl, World.grownBy.refl w7 _, cur0, Hrow7, Hcur7.out, hide (by simp)⟩
    case round =>
      obtain ⟨k, hk, rfl, hgr, cur, HR, hcl, HT⟩ := hrel
      have Hgr := hide hgr
      have hszr := hgr.size
      clear hgr
      by_cases hlt : k < m
      · have hlt' : (k : Int) < (m : Int) := by omega
        have hxr := hide ((Hgr.out.block g8 (by omega) (by intro h; injection h; omega)).trans Hx7.out)
        have HDr := hide (HD7.out.grown Hgr.out (Nat.le_refl _) (Nat.le_of_lt hG7))
        have hg11 : g8 < wr.heap.size := (Array.getElem?_eq_some_iff.1 hxr.out).1
        have hGRw : GR < wr.heap.size := (Array.getElem?_eq_some_iff.1 HR.out).1
        obtain ⟨g11, hgg⟩ : ∃ g11, g11 = wr.heap.size := ⟨_, rfl⟩
        have Hgg := hide hgg
        have hg117 : w7.heap.size ≤ g11 := by omega
        have hGR11 : GR < g11 := by omega
        have hneG : GR ≠ g11 := by omega
        have hne1 : w1.heap.size ≠ g11 := by omega
        have Hba := hide (fun o => (Below.refl wr.heap.size wr).alloc (Nat.le_refl _) o)
        have Hla := hide (fun A => heap_alloc_last wr (.cells A 33))
        rw [← hgg] at Hla
        clear hgg
        have hdl := Hok.out.data
        have hbl := bytes_len b
        have hzl : k * s < b.bytes.length := Nat.lt_of_le_of_lt (Nat.mul_le_mul_right s (by omega)) Hlo.out
        obtain ⟨z, hz⟩ : ∃ z, z = k * s := ⟨_, rfl⟩
        rw [← hz] at hzl
        have hzb : z ≤ 1000000 := by omega
        have hmulE : ((k : Int) * (s : Int)) = (z : Int) := by rw [hz]; exact (Int.natCast_mul k s).symm
        have Hz := hide hz
        clear hz
        obtain ⟨o2, ho2⟩ : ∃ o2, o2 = b.p.off + z := ⟨_, rfl⟩
        have hadd : IntKind.u64.wrap ((b.p.off : Int) + (z : Int)) = (o2 : Int) := wrU _ _ _ ho2 (Nat.lt_of_le_of_lt (Nat.add_le_add_left (Nat.le_of_lt hzl) _) Hfit.out)
        obtain ⟨e2, he2⟩ : ∃ e2, e2 = min (z + s) b.bytes.length := ⟨_, rfl⟩
        have hze : z < e2 := by rw [he2]; exact Nat.lt_min.2 ⟨Nat.lt_add_of_pos_right hs, hzl⟩
        obtain ⟨X1, hX1⟩ : ∃ X1, X1 = ({ X with p := { X.p with off := o2 } } : Bn) := ⟨_, rfl⟩
        have Hs1 := hide (set_off X o2)
        rw [← hX1] at Hs1
        obtain ⟨part, hpart⟩ : ∃ part, part = (b.bytes.drop z).take s := ⟨_, rfl⟩
        obtain ⟨X2, hX2⟩ : ∃ X2, X2 = ({ X1 with pay := { X1.pay with data := str part } } : Bn) := ⟨_, rfl⟩
        have Hs2 := hide (put_data X1 (str part))
        rw [← hX2] at Hs2
        obtain ⟨X3, hX3⟩ : ∃ X3, X3 = ({ X2 with A := none, n := 0, c := 0, bs := [] } : Bn) := ⟨_, rfl⟩
        have Hs3 := hide (set_bs X2)
        rw [← hX3] at Hs3
        have HP0 := hide (show k = 0 → X2 = pieceOf b A1 c1 s k by
          intro h0
          rw [hX2, hX1, HX1.out]
          unfold pieceOf firstOf
          rw [if_pos h0, if_pos h0, if_pos h0, if_pos h0, hpart, ho2, Hz.out])
        have HP1 := hide (show ¬ k = 0 → X3 = pieceOf b A1 c1 s k by
          intro h0
          rw [hX3, hX2, hX1, HX1.out]
          unfold pieceOf firstOf
          rw [if_neg h0, if_neg h0, if_neg h0, if_neg h0, hpart, ho2, Hz.out])
        have hXoff : X.p.off = b.p.off := by rw [HX1.out]; rfl
        have Hcut := hide (fun W => cut_any ⟨w1.heap.size, 0, none⟩ b.bytes.length cap z s e2 W hze he2 hs2 (by rw [hbl]; exact hdl) (by rw [hbl]; exact hgc) hgm)
        have Hconv := hide (fun W (hD : Lies W W.heap.size (some ⟨w1.heap.size, 0, none⟩) (bys b.bytes)) => strU8 (n := e2 - z) (e2 - z) (show Lies W W.heap.size (some ⟨w1.heap.size, z, none⟩) (bys part) by rw [hpart, ← addr0]; exact part_lies hD z s) (by rw [hpart]; exact part_len (Nat.le_of_lt hzl) he2))
        rw [hbl] at Hcut
        have hz0 : (0 : Int) ≤ (z : Int) := Int.natCast_nonneg z
        clear hX1 hX2 hX3 hdl hpart ho2 he2 hbl
        go_upto_region 11 with (first
          | (with_reducible refine wpl_load_at rfl 33 (.tmp 8) rfl g8 33 X.cells.toArray _ hxr.out rfl Try.underlying33 rfl 25 info33 (cells_size X) ?_)
          | (with_reducible refine wpl_store_last wr rfl 33 (.tmp 11) (.tmp 40) rfl 33 _ X.cells.toArray rfl rfl 25 info33 (cells_size X) (by with_unfolding_all rfl) (cells_one X) ?_; rw [← Hgg.out]; have Hx8 := hide (Hla.out X.cells.toArray); have Hb8 := hide (Hba.out (.cells X.cells.toArray 33)); clear Hla Hba; generalize wr.alloc (.cells X.cells.toArray 33) = w8 at *))
        try simp only [Act.put]
        have c17 : w8.cell? ⟨g11, 17, none⟩ = some (.int .u64 (b.p.off : Int)) := by rw [cell_of_row _ _ _ _ _ _ Hx8.out, ← hXoff]; rfl
        have Hgr8 := hide (grown_trans Hgr.out (grown_below Hb8.out))
        have HD8 := hide (((HDr.out.up (Nat.le_of_lt hGRw)).below Hb8.out).up Hb8.out.size)
        have HR8 := hide ((Hb8.out.block GR hGRw).trans HR.out)
        clear Hgr HDr HR hxr Hb8 hXoff
        go_upto_region 12 with (with_reducible refine wpl_store_field rfl 22 (.tmp 50) (.tmp 48) rfl g11 17 rfl (.int .u64 (o2 : Int)) rfl 33 X.cells.toArray Hx8.out (lt_any X 17 (by decide)) rfl rfl info_u64 ?_; rw [Hs1.out]; have Hx9 := hide (setRow_heap w8 g11 _ X1.cells.toArray _ _ Hx8.out); have Hgr9 := hide (grown_new Hgr8.out hg117 X1.cells.toArray); have HR9 := hide ((setRow_other w8 g11 GR X1.cells.toArray hneG).trans HR8.out); have HD9 := hide (HD8.out.setRowU hne1 X1.cells.toArray); clear Hx8 Hgr8 HR8 HD8 c17; generalize w8.setRow g11 X1.cells.toArray = w9 at *)
        try simp only [Act.put]
        clear hadd
        have Hcv9 := hide (Hconv.out w9 HD9.out)
        have hcv9 := Hcv9.out
        go_upto_region 13 with (first
          | (go_at_call 33; refine (Hcut.out w9).mono ?_; rintro e w10 ⟨rfl, hw10⟩; subst hw10)
          | (with_reducible refine wpl_store_field rfl 9 (.tmp 59) (.tmp 57) rfl g11 24 rfl (.string (str part)) rfl 33 X1.cells.toArray Hx9.out (lt_any X1 24 (by decide)) rfl rfl info_str ?_; rw [Hs2.out]; have Hx10 := hide (setRow_heap w10 g11 _ X2.cells.toArray _ _ Hx9.out); have Hgr10 := hide (grown_new Hgr9.out hg117 X2.cells.toArray); have HR10 := hide ((setRow_other w10 g11 GR X2.cells.toArray hneG).trans HR9.out); clear Hx9 Hgr9 HR9 HD9 hcv9 Hcv9; generalize w10.setRow g11 X2.cells.toArray = w11 at *))
        try simp only [Act.put]
        by_cases hk0 : k = 0
        · have hk0' : ¬ (0 : Int) < (k : Int) := by omega
          have HPe := hide (HP0.out hk0)
          clear hk0
          have hcl9 := hcl
          go_wp2_with (first
            | (with_reducible refine wpl_store_field rfl 29 (.tmp 62) (.const (.slice none 0 0)) rfl g11 19 rfl (.slice none 0 0) rfl 33 X2.cells.toArray Hx10.out (lt_any X2 19 (by decide)) rfl rfl info_blks ?_; rw [Hs3.out]; have Hx11 := hide (setRow_heap w11 g11 _ X3.cells.toArray _ _ Hx10.out); have Hgr11 := hide (grown_new Hgr10.out hg117 X3.cells.toArray); have HR11 := hide ((setRow_other w11 g11 GR X3.cells.toArray hneG).trans HR10.out); clear Hx10 Hgr10 HR10; generalize w11.setRow g11 X3.cells.toArray = w12 at *)
            | (with_reducible refine wpl_load_at rfl 33 (.tmp 11) rfl g11 33 X2.cells.toArray _ Hx10.out rfl Try.underlying33 rfl 25 info33 (cells_size X2) ?_)
            | (with_reducible refine wpl_store_part rfl 33 (.tmp 66) (.tmp 65) rfl GR (k * 25) 33 cur.toArray X2.cells.toArray HR10.out rfl rfl 25 info33 (cells_size X2) (row_fits hcl hlt) (cells_one X2) ?_; rw [show X2.cells.toArray.toList = X2.cells from rfl, putArr_eq X2.cells (k * 25) cur (by rw [hcl, Bn.cells_len]; omega)]; rw [show k * 25 + X2.cells.length = k * 25 + 25 from rfl]; obtain ⟨cur2, hcur2⟩ : ∃ c2, c2 = cur.take (k * 25) ++ (X2.cells ++ cur.drop (k * 25 + 25)) := ⟨_, rfl⟩; rw [← hcur2]; have Hgr13 := hide (grown_own Hgr10.out cur2.toArray); have HR13 := hide (setRow_heap w11 GR _ cur2.toArray _ _ HR10.out); clear HR10 Hgr10 Hx10; generalize w11.setRow GR cur2.toArray = w13 at *))
          have Hc2 := row_put hcl hlt X2
          rw [← hcur2] at Hc2
          have HT2 := hide (show cur2.take ((k + 1) * 25) = ((List.range (k + 1)).map (pieceOf b A1 c1 s)).flatMap Bn.cells by
            rw [Hc2.2, HT.out, List.range_succ, List.map_append, List.flatMap_append, List.map_cons, List.map_nil, ← HPe.out]
            simp)
          have hc3 := Hc2.1
          clear hcur2 Hc2 hmulE
          go_roundw
          case rel => exact ⟨k + 1, hlt, by go_num, Hgr13.out, cur2, HR13, hc3, HT2⟩
          case measure => simp [intOf]; omega
        · have hk0' : (0 : Int) < (k : Int) := by omega
          have HPe := hide (HP1.out hk0)
          clear hk0
          have hcl9 := hcl
          go_wp2_with (first
            | (with_reducible refine wpl_store_field rfl 29 (.tmp 62) (.const (.slice none 0 0)) rfl g11 19 rfl (.slice none 0 0) rfl 33 X2.cells.toArray Hx10.out (lt_any X2 19 (by decide)) rfl rfl info_blks ?_; rw [Hs3.out]; have Hx11 := hide (setRow_heap w11 g11 _ X3.cells.toArray _ _ Hx10.out); have Hgr11 := hide (grown_new Hgr10.out hg117 X3.cells.toArray); have HR11 := hide ((setRow_other w11 g11 GR X3.cells.toArray hneG).trans HR10.out); clear Hx10 Hgr10 HR10; generalize w11.setRow g11 X3.cells.toArray = w12 at *)
            | (with_reducible refine wpl_load_at rfl 33 (.tmp 11) rfl g11 33 X3.cells.toArray _ Hx11.out rfl Try.underlying33 rfl 25 info33 (cells_size X3) ?_)
            | (with_reducible refine wpl_store_part rfl 33 (.tmp 66) (.tmp 65) rfl GR (k * 25) 33 cur.toArray X3.cells.toArray HR11.out rfl rfl 25 info33 (cells_size X3) (row_fits hcl hlt) (cells_one X3) ?_; rw [show X3.cells.toArray.toList = X3.cells from rfl, putArr_eq X3.cells (k * 25) cur (by rw [hcl, Bn.cells_len]; omega)]; rw [show k * 25 + X3.cells.length = k * 25 + 25 from rfl]; obtain ⟨cur2, hcur2⟩ : ∃ c2, c2 = cur.take (k * 25) ++ (X3.cells ++ cur.drop (k * 25 + 25)) := ⟨_, rfl⟩; rw [← hcur2]; have Hgr13 := hide (grown_own Hgr11.out cur2.toArray); have HR13 := hide (setRow_heap w12 GR _ cur2.toArray _ _ HR11.out); clear HR11 Hgr11 Hx11; generalize w12.setRow GR cur2.toArray = w13 at *))
          have Hc2 := row_put hcl hlt X3
          rw [← hcur2] at Hc2
          have HT2 := hide (show cur2.take ((k + 1) * 25) = ((List.range (k + 1)).map (pieceOf b A1 c1 s)).flatMap Bn.cells by
            rw [Hc2.2, HT.out, List.range_succ, List.map_append, List.flatMap_append, List.map_cons, List.map_nil, ← HPe.out]
            simp)
          have hc3 := Hc2.1
          clear hcur2 Hc2 hmulE
          go_roundw
          case rel => exact ⟨k + 1, hlt, by go_num, Hgr13.out, cur2, HR13, hc3, HT2⟩
          case measure => simp [intOf]; omega
      · have hlt' : ¬ (k : Int) < (m : Int) := by omega
        obtain rfl : k = m := by omega
        have hszg := Hgr.out.size
        generalize wr = w14 at *
        go_wp2
        go_ret
        have hall : cur = ((List.range k).map (pieceOf b A1 c1 s)).flatMap Bn.cells := by rw [← HT.out, List.take_of_length_le (by omega)]
        have hGR14 : GR < w14.heap.size := (Array.getElem?_eq_some_iff.1 HR.out).1
        refine ⟨A1, c1, GR, rfl, ?_, ?_, ?_⟩
        · rw [← hall]
          refine .inr ⟨_, rfl, hGR14, fun j u hu => ?_⟩
          rw [addr0, cell_of_row _ _ _ _ _ _ HR.out]
          simpa using hu
        · have h1 := HO7.out
          rw [Hx0.out] at h1
          exact { h1 with lies := (h1.lies.grown Hgr.out (Nat.le_refl _) (Nat.le_of_lt hG7)).up (Nat.le_of_lt hGR14) }
        · exact ⟨Hgr.out.os.trans Hb7.out.os, Hgr.out.tape.trans Hb7.out.tape, Hgr.out.output.trans Hb7.out.output, Nat.le_trans Hb7.out.size Hgr.out.size, fun j hj => (Hgr.out.block j (Nat.lt_of_lt_of_le hj Hb7.out.size) (fun e => by injection e; omega)).trans (Hb7.out.block j hj)⟩
  · rw [decide_eq_false hfr]
    simp only []
    have c0 : w5.cell? ⟨g8, 0, none⟩ = some (.int .u64 (b.p.fl : Int)) := by rw [cell_of_row _ _ _ _ _ _ Hx5.out, Hx0.out]; rfl
    have hor : bits .or .u64 (b.p.fl : Int) 1 = ((b.p.fl - b.p.fl % 2 + 1 : Nat) : Int) := or_one b.p.fl Hok.out.fl
    have hsz : IntKind.u64.wrap (b.pay.data.size : Int) = (b.pay.data.size : Int) := by rw [IntKind.wrap_u64]; have := Hok.out.data; omega
    obtain ⟨x1, hx1⟩ : ∃ x1, x1 = ({ x0 with p := { x0.p with fl := b.p.fl - b.p.fl % 2 + 1 } } : Bn) := ⟨_, rfl⟩
    have Hs1 := hide (set_fl x0 (b.p.fl - b.p.fl % 2 + 1))
    rw [← hx1] at Hs1
    obtain ⟨x2, hx2⟩ : ∃ x2, x2 = ({ x1 with p := { x1.p with tot := b.pay.data.size } } : Bn) := ⟨_, rfl⟩
    have Hs2 := hide (set_tot x1 b.pay.data.size)
    rw [← hx2] at Hs2
    have HX1 := hide (show x2 = firstOf b A1 c1 by rw [hx2, hx1, Hx0.out]; unfold firstOf; rw [if_neg hfr])
    generalize b.p.fl - b.p.fl % 2 + 1 = fl1 at *
    clear hx1 hx2 hfr
    go_upto_region 6 with (first
      | (with_reducible refine wpl_store_field rfl 22 (.tmp 27) (.tmp 25) rfl g8 0 rfl (.int .u64 (fl1 : Int)) rfl 33 x0.cells.toArray Hx5.out (lt_any x0 0 (by omega)) rfl rfl info_u64 ?_; rw [Hs1.out]; have Hx5b := hide (setRow_heap w5 g8 _ x1.cells.toArray _ _ Hx5.out); have HD5b := hide (HD5.out.below (below_setRow (Below.refl g8 w5) (Nat.le_refl _) x1.cells.toArray)); have HO5b := hide (HO5.out.below (below_setRow (Below.refl g8 w5) (Nat.le_refl _) x1.cells.toArray)); have Hb5b := hide (below_setRow Hb5.out (by omega) x1.cells.toArray); clear Hx5 HD5 HO5 Hb5 c0; generalize w5.setRow g8 x1.cells.toArray = w5b at *)
      | (with_reducible refine wpl_store_field rfl 22 (.tmp 32) (.tmp 30) rfl g8 18 rfl (.int .u64 (b.pay.data.size : Int)) rfl 33 x1.cells.toArray Hx5b.out (lt_any x1 18 (by omega)) rfl rfl info_u64 ?_; rw [Hs2.out]; have Hx6 := hide (setRow_heap w5b g8 _ x2.cells.toArray _ _ Hx5b.out); have hg86 : g8 < (w5b.setRow g8 x2.cells.toArray).heap.size := (Array.getElem?_eq_some_iff.1 Hx6.out).1; have HD6 := hide ((HD5b.out.below (below_setRow (Below.refl g8 w5b) (Nat.le_refl _) x2.cells.toArray)).up (Nat.le_of_lt hg86)); have HO6 := hide ((HO5b.out.below (below_setRow (Below.refl g8 w5b) (Nat.le_refl _) x2.cells.toArray)).up (Nat.le_of_lt hg86)); have Hb6 := hide (below_setRow Hb5b.out (by omega) x2.cells.toArray); clear Hx5b HD5b HO5b Hb5b; generalize w5b.setRow g8 x2.cells.toArray = w6 at *))
    try simp only [Act.put]
    clear hor hsz Hs1 Hs2
    generalize x2 = X at *
    obtain ⟨i0, hi0, hz0, hzs, hzb⟩ := info_parts bninfo
    obtain ⟨w7, hmk, ho7, hg7⟩ := run_make_full (P := Try.prog) w6 w6.heap.size 36 33 i0 zBn.val 25 Try.underlying36 hi0 hz0 hzs .i64 .i64 m (by rw [hzb]; omega) (by unfold maxLen; omega) (Nat.le_refl _)
    have hrow7 := own_blockN ho7
    have hcur7 := ho7.1
    generalize (madeCells zBn.val.cells (m * 25)).toList = cur0 at *
    have hb67 : Below w6.heap.size w6 w7 := ⟨hg7.os, hg7.tape, hg7.output, hg7.size, fun k hk => hg7.block k hk (by simp)⟩
    have hG7 : w6.heap.size < w7.heap.size := (Array.getElem?_eq_some_iff.1 hrow7).1
    have Hx7 := hide ((hb67.block g8 hg86).trans Hx6.out)
    have HD7 := hide (HD6.out.below hb67)
    have HO7 := hide (HO6.out.below hb67)
    have Hb7 := hide (Hb6.out.trans (hb67.mono Hb6.out.size))
    have Hrow7 := hide hrow7
    have Hcur7 := hide hcur7
    have hsz6 := Hb6.out.size
    obtain ⟨GR, hGR⟩ : ∃ GR, GR = w6.heap.size := ⟨_, rfl⟩
    simp only [← hGR] at hmk Hx7 HD7 HO7 Hrow7 hG7 hsz6 hg86
    clear ho7 hg7 hrow7 hcur7 hb67 hi0 hz0 hzs hzb Hx6 HD6 HO6 Hb6
    have HGR := hide hGR
    clear hGR
    have hm0 : (0 : Int) ≤ (m : Int) := by omega
    go_wp2_with fail
    clear hmk
    go_loopw [10, 11, 37] (fun s10 s11 s37 wr => ∃ k : Nat, k ≤ m ∧ s37 = .int .i64 (k : Int) ∧ w7.grownBy wr (some GR) ∧ ∃ cur : List Value, Hid (wr.heap[GR]? = some (.cells cur.toArray 33 (0, 0))) ∧ cur.length = m * 25 ∧ Hid (cur.take (k * 25) = ((List.range k).map (pieceOf b A1 c1 s)).flatMap Bn.cells)) (fun s10 s11 s37 wr => m - (intOf s37).toNat)
    case atStart => exact ⟨0, Nat.zero_le _, rfl, World.grownBy.refl w7 _, cur0, Hrow7, Hcur7.out, hide (by simp)⟩
    case round =>
      obtain ⟨k, hk, rfl, hgr, cur, HR, hcl, HT⟩ := hrel
      have Hgr := hide hgr
      have hszr := hgr.size
      clear hgr
      by_cases hlt : k < m
      · have hlt' : (k : Int) < (m : Int) := by omega
        have hxr := hide ((Hgr.out.block g8 (by omega) (by intro h; injection h; omega)).trans Hx7.out)
        have HDr := hide (HD7.out.grown Hgr.out (Nat.le_refl _) (Nat.le_of_lt hG7))
        have hg11 : g8 < wr.heap.size := (Array.getElem?_eq_some_iff.1 hxr.out).1
        have hGRw : GR < wr.heap.size := (Array.getElem?_eq_some_iff.1 HR.out).1
        obtain ⟨g11, hgg⟩ : ∃ g11, g11 = wr.heap.size := ⟨_, rfl⟩
        have Hgg := hide hgg
        have hg117 : w7.heap.size ≤ g11 := by omega
        have hGR11 : GR < g11 := by omega
        have hneG : GR ≠ g11 := by omega
        have hne1 : w1.heap.size ≠ g11 := by omega
        have Hba := hide (fun o => (Below.refl wr.heap.size wr).alloc (Nat.le_refl _) o)
        have Hla := hide (fun A => heap_alloc_last wr (.cells A 33))
        rw [← hgg] at Hla
        clear hgg
        have hdl := Hok.out.data
        have hbl := bytes_len b
        have hzl : k * s < b.bytes.length := Nat.lt_of_le_of_lt (Nat.mul_le_mul_right s (by omega)) Hlo.out
        obtain ⟨z, hz⟩ : ∃ z, z = k * s := ⟨_, rfl⟩
        rw [← hz] at hzl
        have hzb : z ≤ 1000000 := by omega
        have hmulE : ((k : Int) * (s : Int)) = (z : Int) := by rw [hz]; exact (Int.natCast_mul k s).symm
        have Hz := hide hz
        clear hz
        obtain ⟨o2, ho2⟩ : ∃ o2, o2 = b.p.off + z := ⟨_, rfl⟩
        have hadd : IntKind.u64.wrap ((b.p.off : Int) + (z : Int)) = (o2 : Int) := wrU _ _ _ ho2 (Nat.lt_of_le_of_lt (Nat.add_le_add_left (Nat.le_of_lt hzl) _) Hfit.out)
        obtain ⟨e2, he2⟩ : ∃ e2, e2 = min (z + s) b.bytes.length := ⟨_, rfl⟩
        have hze : z < e2 := by rw [he2]; exact Nat.lt_min.2 ⟨Nat.lt_add_of_pos_right hs, hzl⟩
        obtain ⟨X1, hX1⟩ : ∃ X1, X1 = ({ X with p := { X.p with off := o2 } } : Bn) := ⟨_, rfl⟩
        have Hs1 := hide (set_off X o2)
        rw [← hX1] at Hs1
        obtain ⟨part, hpart⟩ : ∃ part, part = (b.bytes.drop z).take s := ⟨_, rfl⟩
        obtain ⟨X2, hX2⟩ : ∃ X2, X2 = ({ X1 with pay := { X1.pay with data := str part } } : Bn) := ⟨_, rfl⟩
        have Hs2 := hide (put_data X1 (str part))
        rw [← hX2] at Hs2
        obtain ⟨X3, hX3⟩ : ∃ X3, X3 = ({ X2 with A := none, n := 0, c := 0, bs := [] } : Bn) := ⟨_, rfl⟩
        have Hs3 := hide (set_bs X2)
        rw [← hX3] at Hs3
        have HP0 := hide (show k = 0 → X2 = pieceOf b A1 c1 s k by
          intro h0
          rw [hX2, hX1, HX1.out]
          unfold pieceOf firstOf
          rw [if_pos h0, if_pos h0, if_pos h0, if_pos h0, hpart, ho2, Hz.out])
        have HP1 := hide (show ¬ k = 0 → X3 = pieceOf b A1 c1 s k by
          intro h0
          rw [hX3, hX2, hX1, HX1.out]
          unfold pieceOf firstOf
          rw [if_neg h0, if_neg h0, if_neg h0, if_neg h0, hpart, ho2, Hz.out])
        have hXoff : X.p.off = b.p.off := by rw [HX1.out]; rfl
        have Hcut := hide (fun W => cut_any ⟨w1.heap.size, 0, none⟩ b.bytes.length cap z s e2 W hze he2 hs2 (by rw [hbl]; exact hdl) (by rw [hbl]; exact hgc) hgm)
        have Hconv := hide (fun W (hD : Lies W W.heap.size (some ⟨w1.heap.size, 0, none⟩) (bys b.bytes)) => strU8 (n := e2 - z) (e2 - z) (show Lies W W.heap.size (some ⟨w1.heap.size, z, none⟩) (bys part) by rw [hpart, ← addr0]; exact part_lies hD z s) (by rw [hpart]; exact part_len (Nat.le_of_lt hzl) he2))
        rw [hbl] at Hcut
        have hz0 : (0 : Int) ≤ (z : Int) := Int.natCast_nonneg z
        clear hX1 hX2 hX3 hdl hpart ho2 he2 hbl
        go_upto_region 11 with (first
          | (with_reducible refine wpl_load_at rfl 33 (.tmp 8) rfl g8 33 X.cells.toArray _ hxr.out rfl Try.underlying33 rfl 25 info33 (cells_size X) ?_)
          | (with_reducible refine wpl_store_last wr rfl 33 (.tmp 11) (.tmp 40) rfl 33 _ X.cells.toArray rfl rfl 25 info33 (cells_size X) (by with_unfolding_all rfl) (cells_one X) ?_; rw [← Hgg.out]; have Hx8 := hide (Hla.out X.cells.toArray); have Hb8 := hide (Hba.out (.cells X.cells.toArray 33)); clear Hla Hba; generalize wr.alloc (.cells X.cells.toArray 33) = w8 at *))
        try simp only [Act.put]
        have c17 : w8.cell? ⟨g11, 17, none⟩ = some (.int .u64 (b.p.off : Int)) := by rw [cell_of_row _ _ _ _ _ _ Hx8.out, ← hXoff]; rfl
        have Hgr8 := hide (grown_trans Hgr.out (grown_below Hb8.out))
        have HD8 := hide (((HDr.out.up (Nat.le_of_lt hGRw)).below Hb8.out).up Hb8.out.size)
        have HR8 := hide ((Hb8.out.block GR hGRw).trans HR.out)
        clear Hgr HDr HR hxr Hb8 hXoff
        go_upto_region 12 with (with_reducible refine wpl_store_field rfl 22 (.tmp 50) (.tmp 48) rfl g11 17 rfl (.int .u64 (o2 : Int)) rfl 33 X.cells.toArray Hx8.out (lt_any X 17 (by decide)) rfl rfl info_u64 ?_; rw [Hs1.out]; have Hx9 := hide (setRow_heap w8 g11 _ X1.cells.toArray _ _ Hx8.out); have Hgr9 := hide (grown_new Hgr8.out hg117 X1.cells.toArray); have HR9 := hide ((setRow_other w8 g11 GR X1.cells.toArray hneG).trans HR8.out); have HD9 := hide (HD8.out.setRowU hne1 X1.cells.toArray); clear Hx8 Hgr8 HR8 HD8 c17; generalize w8.setRow g11 X1.cells.toArray = w9 at *)
        try simp only [Act.put]
        clear hadd
        have Hcv9 := hide (Hconv.out w9 HD9.out)
        have hcv9 := Hcv9.out
        go_upto_region 13 with (first
          | (go_at_call 33; refine (Hcut.out w9).mono ?_; rintro e w10 ⟨rfl, hw10⟩; subst hw10)
          | (with_reducible refine wpl_store_field rfl 9 (.tmp 59) (.tmp 57) rfl g11 24 rfl (.string (str part)) rfl 33 X1.cells.toArray Hx9.out (lt_any X1 24 (by decide)) rfl rfl info_str ?_; rw [Hs2.out]; have Hx10 := hide (setRow_heap w10 g11 _ X2.cells.toArray _ _ Hx9.out); have Hgr10 := hide (grown_new Hgr9.out hg117 X2.cells.toArray); have HR10 := hide ((setRow_other w10 g11 GR X2.cells.toArray hneG).trans HR9.out); clear Hx9 Hgr9 HR9 HD9 hcv9 Hcv9; generalize w10.setRow g11 X2.cells.toArray = w11 at *))
        try simp only [Act.put]
        by_cases hk0 : k = 0
        · have hk0' : ¬ (0 : Int) < (k : Int) := by omega
          have HPe := hide (HP0.out hk0)
          clear hk0
          have hcl9 := hcl
          go_wp2_with (first
            | (with_reducible refine wpl_store_field rfl 29 (.tmp 62) (.const (.slice none 0 0)) rfl g11 19 rfl (.slice none 0 0) rfl 33 X2.cells.toArray Hx10.out (lt_any X2 19 (by decide)) rfl rfl info_blks ?_; rw [Hs3.out]; have Hx11 := hide (setRow_heap w11 g11 _ X3.cells.toArray _ _ Hx10.out); have Hgr11 := hide (grown_new Hgr10.out hg117 X3.cells.toArray); have HR11 := hide ((setRow_other w11 g11 GR X3.cells.toArray hneG).trans HR10.out); clear Hx10 Hgr10 HR10; generalize w11.setRow g11 X3.cells.toArray = w12 at *)
            | (with_reducible refine wpl_load_at rfl 33 (.tmp 11) rfl g11 33 X2.cells.toArray _ Hx10.out rfl Try.underlying33 rfl 25 info33 (cells_size X2) ?_)
            | (with_reducible refine wpl_store_part rfl 33 (.tmp 66) (.tmp 65) rfl GR (k * 25) 33 cur.toArray X2.cells.toArray HR10.out rfl rfl 25 info33 (cells_size X2) (row_fits hcl hlt) (cells_one X2) ?_; rw [show X2.cells.toArray.toList = X2.cells from rfl, putArr_eq X2.cells (k * 25) cur (by rw [hcl, Bn.cells_len]; omega)]; rw [show k * 25 + X2.cells.length = k * 25 + 25 from rfl]; obtain ⟨cur2, hcur2⟩ : ∃ c2, c2 = cur.take (k * 25) ++ (X2.cells ++ cur.drop (k * 25 + 25)) := ⟨_, rfl⟩; rw [← hcur2]; have Hgr13 := hide (grown_own Hgr10.out cur2.toArray); have HR13 := hide (setRow_heap w11 GR _ cur2.toArray _ _ HR10.out); clear HR10 Hgr10 Hx10; generalize w11.setRow GR cur2.toArray = w13 at *))
          have Hc2 := row_put hcl hlt X2
          rw [← hcur2] at Hc2
          have HT2 := hide (show cur2.take ((k + 1) * 25) = ((List.range (k + 1)).map (pieceOf b A1 c1 s)).flatMap Bn.cells by
            rw [Hc2.2, HT.out, List.range_succ, List.map_append, List.flatMap_append, List.map_cons, List.map_nil, ← HPe.out]
            simp)
          have hc3 := Hc2.1
          clear hcur2 Hc2 hmulE
          go_roundw
          case rel => exact ⟨k + 1, hlt, by go_num, Hgr13.out, cur2, HR13, hc3, HT2⟩
          case measure => simp [intOf]; omega
        · have hk0' : (0 : Int) < (k : Int) := by omega
          have HPe := hide (HP1.out hk0)
          clear hk0
          have hcl9 := hcl
          go_wp2_with (first
            | (with_reducible refine wpl_store_field rfl 29 (.tmp 62) (.const (.slice none 0 0)) rfl g11 19 rfl (.slice none 0 0) rfl 33 X2.cells.toArray Hx10.out (lt_any X2 19 (by decide)) rfl rfl info_blks ?_; rw [Hs3.out]; have Hx11 := hide (setRow_heap w11 g11 _ X3.cells.toArray _ _ Hx10.out); have Hgr11 := hide (grown_new Hgr10.out hg117 X3.cells.toArray); have HR11 := hide ((setRow_other w11 g11 GR X3.cells.toArray hneG).trans HR10.out); clear Hx10 Hgr10 HR10; generalize w11.setRow g11 X3.cells.toArray = w12 at *)
            | (with_reducible refine wpl_load_at rfl 33 (.tmp 11) rfl g11 33 X3.cells.toArray _ Hx11.out rfl Try.underlying33 rfl 25 info33 (cells_size X3) ?_)
            | (with_reducible refine wpl_store_part rfl 33 (.tmp 66) (.tmp 65) rfl GR (k * 25) 33 cur.toArray X3.cells.toArray HR11.out rfl rfl 25 info33 (cells_size X3) (row_fits hcl hlt) (cells_one X3) ?_; rw [show X3.cells.toArray.toList = X3.cells from rfl, putArr_eq X3.cells (k * 25) cur (by rw [hcl, Bn.cells_len]; omega)]; rw [show k * 25 + X3.cells.length = k * 25 + 25 from rfl]; obtain ⟨cur2, hcur2⟩ : ∃ c2, c2 = cur.take (k * 25) ++ (X3.cells ++ cur.drop (k * 25 + 25)) := ⟨_, rfl⟩; rw [← hcur2]; have Hgr13 := hide (grown_own Hgr11.out cur2.toArray); have HR13 := hide (setRow_heap w12 GR _ cur2.toArray _ _ HR11.out); clear HR11 Hgr11 Hx11; generalize w12.setRow GR cur2.toArray = w13 at *))
          have Hc2 := row_put hcl hlt X3
          rw [← hcur2] at Hc2
          have HT2 := hide (show cur2.take ((k + 1) * 25) = ((List.range (k + 1)).map (pieceOf b A1 c1 s)).flatMap Bn.cells by
            rw [Hc2.2, HT.out, List.range_succ, List.map_append, List.flatMap_append, List.map_cons, List.map_nil, ← HPe.out]
            simp)
          have hc3 := Hc2.1
          clear hcur2 Hc2 hmulE
          go_roundw
          case rel => exact ⟨k + 1, hlt, by go_num, Hgr13.out, cur2, HR13, hc3, HT2⟩
          case measure => simp [intOf]; omega
      · have hlt' : ¬ (k : Int) < (m : Int) := by omega
        obtain rfl : k = m := by omega
        have hszg := Hgr.out.size
        generalize wr = w14 at *
        go_wp2
        go_ret
        have hall : cur = ((List.range k).map (pieceOf b A1 c1 s)).flatMap Bn.cells := by rw [← HT.out, List.take_of_length_le (by omega)]
        have hGR14 : GR < w14.heap.size := (Array.getElem?_eq_some_iff.1 HR.out).1
        refine ⟨A1, c1, GR, rfl, ?_, ?_, ?_⟩
        · rw [← hall]
          refine .inr ⟨_, rfl, hGR14, fun j u hu => ?_⟩
          rw [addr0, cell_of_row _ _ _ _ _ _ HR.out]
          simpa using hu
        · have h1 := HO7.out
          rw [Hx0.out] at h1
          exact { h1 with lies := (h1.lies.grown Hgr.out (Nat.le_refl _) (Nat.le_of_lt hG7)).up (Nat.le_of_lt hGR14) }
        · exact ⟨Hgr.out.os.trans Hb7.out.os, Hgr.out.tape.trans Hb7.out.tape, Hgr.out.output.trans Hb7.out.output, Nat.le_trans Hb7.out.size Hgr.out.size, fun j hj => (Hgr.out.block j (Nat.lt_of_lt_of_le hj Hb7.out.size) (fun e => by injection e; omega)).trans (Hb7.out.block j hj)⟩

end Go.Proofs.Ytlbgcbekjjkokaa
