/-
  THE REFERENCE's Joins of fragments (wagtailref12).
-/
import Derived.Test.YtlbgcbekjjkokaaJoinM
import Derived.Test.YtlbgcbekjjkokaaRf11
import Derived.Test.YtlbgcbekjjkokaaJoin
namespace Go.Proofs.Ytlbgcbekjjkokaa
open Go.RowKit

theorem neq26 (a b c d : Nat) (w : World) : (binOp .neq 26 (.agg #[.int .u64 (a : Int), .int .u64 (b : Int)]) (.agg #[.int .u64 (c : Int), .int .u64 (d : Int)])).run Try.prog w = .ok (.bool (!(((a : Int) == (c : Int)) && ((b : Int) == (d : Int))))) w := by
  rw [run_neq_struct, show (10000 : Nat) = 9998 + 2 from rfl]
  have hS : Try.prog.underlying 26 = some (.struct (Try.prog.fieldsOf 26)) := by kernel_rfl
  have hp : Try.prog.stoodInHeld 26 = false := by kernel_rfl
  have key : (Op.equalIn (9998 + 2) 26 (.agg #[.int .u64 (a : Int), .int .u64 (b : Int)]) (.agg #[.int .u64 (c : Int), .int .u64 (d : Int)])).run Try.prog w = .ok (((a : Int) == (c : Int)) && (((b : Int) == (d : Int)) && true)) w := by
    rw [run_equalIn_agg w (9998 + 1) 26 _ _ hS hp]
    simp only [Program.fieldsOf, Try.underlying26]
    clear hS
    exact eqF_and (by decide) (by go_simp) (by go_simp) (eqI 9998 a c w)
      (eqF_and (by decide) (by go_simp) (by go_simp) (eqI 9998 b d w) eqF_nil)
  rw [key, Bool.and_true]
  rfl

theorem strange_same {f b : Bn} (h : ¬ b.p.sameB f.p = true) : strangeB f b = true := by
  unfold strangeB
  cases hs : b.p.sameB f.p with
  | true => exact absurd hs h
  | false => simp

/-- Places gone through up to x, the bytes so far, and whether there was a hole. -/
structure JInv (l : List Bn) (x : Nat) (D : List UInt8) (hole : Bool) : Prop where
  nocl : ∀ y, y < x → ∀ b ∈ l, ∀ c ∈ l, b.has y = true → c.has y = true → b.byte y = c.byte y
  gap : hole = true → ∃ y, y < x ∧ ∀ b ∈ l, b.has y = false
  len : D.length ≤ x
  full : hole = false → D.length = x ∧ ∀ y, y < x → (∃ b ∈ l, b.has y = true) ∧ ∀ b ∈ l, b.has y = true → D[y]? = some (b.byte y)
theorem JInv.nil (l : List Bn) : JInv l 0 [] false := ⟨fun y hy => by omega, fun h => (by cases h), by simp, fun _ => ⟨rfl, fun y hy => by omega⟩⟩
/-- One place: the byte there of the first i fragments, if there is one. -/
structure CInv (l : List Bn) (x i : Nat) (c : Option UInt8) : Prop where
  non : c = none → ∀ b ∈ l.take i, b.has x = false
  som : ∀ u, c = some u → (∃ b ∈ l.take i, b.has x = true) ∧ ∀ b ∈ l.take i, b.has x = true → b.byte x = u
theorem CInv.nil (l : List Bn) (x : Nat) : CInv l x 0 none := ⟨fun _ b hb => by simp at hb, fun u h => (by cases h)⟩
def cval : Option UInt8 → Value
  | none => .int .i64 (-1)
  | some u => .int .i64 (u.toNat : Int)
theorem CInv.skip {l : List Bn} {x i : Nat} {c : Option UInt8} {b : Bn} (h : CInv l x i c) (ht : l.take (i + 1) = l.take i ++ [b]) (hh : b.has x = false) : CInv l x (i + 1) c := by
  refine ⟨fun hc d hd => ?_, fun u hu => ?_⟩
  · rw [ht] at hd
    rcases List.mem_append.1 hd with hd | hd
    · exact h.non hc d hd
    · rw [List.mem_singleton] at hd; rw [hd]; exact hh
  · obtain ⟨⟨d, hd, hd2⟩, h2⟩ := h.som u hu
    refine ⟨⟨d, by rw [ht]; exact List.mem_append_left _ hd, hd2⟩, fun e he hx => ?_⟩
    rw [ht] at he
    rcases List.mem_append.1 he with he | he
    · exact h2 e he hx
    · rw [List.mem_singleton] at he; rw [he, hh] at hx; cases hx
theorem CInv.first {l : List Bn} {x i : Nat} {b : Bn} (h : CInv l x i none) (ht : l.take (i + 1) = l.take i ++ [b]) (hh : b.has x = true) : CInv l x (i + 1) (some (b.byte x)) := by
  refine ⟨fun hc => (by cases hc), fun u hu => ?_⟩
  injection hu with hu
  subst hu
  refine ⟨⟨b, by rw [ht]; exact List.mem_append_right _ (List.mem_singleton.2 rfl), hh⟩, fun e he hx => ?_⟩
  rw [ht] at he
  rcases List.mem_append.1 he with he | he
  · rw [h.non rfl e he] at hx; cases hx
  · rw [List.mem_singleton] at he; rw [he]
theorem CInv.again {l : List Bn} {x i : Nat} {b : Bn} {u : UInt8} (h : CInv l x i (some u)) (ht : l.take (i + 1) = l.take i ++ [b]) (hu : b.byte x = u) : CInv l x (i + 1) (some (b.byte x)) := by
  refine ⟨fun hc => (by cases hc), fun v hv => ?_⟩
  injection hv with hv
  obtain ⟨⟨d, hd, hd2⟩, h2⟩ := h.som u rfl
  refine ⟨⟨d, by rw [ht]; exact List.mem_append_left _ hd, hd2⟩, fun e he hx => ?_⟩
  rw [ht] at he
  rcases List.mem_append.1 he with he | he
  · rw [h2 e he hx, ← hv, hu]
  · rw [List.mem_singleton] at he; rw [he, hv]
theorem CInv.clash {l : List Bn} {x i : Nat} {b : Bn} {u : UInt8} (h : CInv l x i (some u)) (hb : b ∈ l) (hh : b.has x = true) (hu : ¬ b.byte x = u) : Clash l := by
  obtain ⟨⟨d, hd, hd2⟩, h2⟩ := h.som u rfl
  exact ⟨x, b, d, hb, List.mem_of_mem_take hd, hh, hd2, by rw [h2 d hd hd2]; exact hu⟩
theorem JInv.hole {l : List Bn} {x i : Nat} {D : List UInt8} {h : Bool} (hj : JInv l x D h) (hc : CInv l x i none) (hi : l.take i = l) : JInv l (x + 1) D true := by
  have hn := hc.non rfl
  rw [hi] at hn
  refine ⟨fun y hy b hb c hcl h1 h2 => ?_, fun _ => ⟨x, by omega, hn⟩, by have := hj.len; omega, fun h => (by cases h)⟩
  by_cases hyx : y < x
  · exact hj.nocl y hyx b hb c hcl h1 h2
  · obtain rfl : y = x := by omega
    rw [hn b hb] at h1; cases h1
theorem JInv.more {l : List Bn} {x i : Nat} {D : List UInt8} {h : Bool} {u : UInt8} (hj : JInv l x D h) (hc : CInv l x i (some u)) (hi : l.take i = l) : JInv l (x + 1) (D ++ [u]) h := by
  obtain ⟨h1, h2⟩ := hc.som u rfl
  rw [hi] at h1 h2
  refine ⟨fun y hy b hb c hcl e1 e2 => ?_, fun hh => ?_, by have := hj.len; rw [List.length_append]; simp; omega, fun hh => ?_⟩
  · by_cases hyx : y < x
    · exact hj.nocl y hyx b hb c hcl e1 e2
    · obtain rfl : y = x := by omega
      rw [h2 b hb e1, h2 c hcl e2]
  · obtain ⟨y, hy, h3⟩ := hj.gap hh
    exact ⟨y, by omega, h3⟩
  · obtain ⟨h3, h4⟩ := hj.full hh
    refine ⟨by rw [List.length_append, h3]; rfl, fun y hy => ?_⟩
    by_cases hyx : y < x
    · exact ⟨(h4 y hyx).1, fun b hb e => by rw [List.getElem?_append_left (by omega)]; exact (h4 y hyx).2 b hb e⟩
    · obtain rfl : y = x := by omega
      exact ⟨h1, fun b hb e => by rw [List.getElem?_append_right (by omega), h3, h2 b hb e]; simp⟩
theorem JInv.ends {l : List Bn} {T : Nat} {D : List UInt8} {h : Bool} (hj : JInv l T D h) (hT : ∀ b ∈ l, ∀ y, b.has y = true → y < T) :
    ¬ Clash l ∧ (h = true → Gap T l) ∧ (h = false → ¬ Gap T l ∧ D.length = T ∧ ∀ b ∈ l, ∀ y, b.has y = true → D[y]? = some (b.byte y)) := by
  refine ⟨?_, hj.gap, fun hh => ?_⟩
  · rintro ⟨y, b, c, hb, hc, h1, h2, h3⟩
    exact h3 (hj.nocl y (hT b hb y h1) b hb c hc h1 h2)
  · obtain ⟨h3, h4⟩ := hj.full hh
    refine ⟨?_, h3, fun b hb y hy => (h4 y (hT b hb y hy)).2 b hb hy⟩
    rintro ⟨y, hy, h5⟩
    obtain ⟨b, hb, h6⟩ := (h4 y hy).1
    rw [h5 b hb] at h6; cases h6

/-- What the reference tells of fragments: all data, an error. -/
def JoinsIs (l : List Bn) (d : ByteArray) (e : Int) : Prop :=
  (l = [] ∧ e = 8) ∨
  (fErr l ≠ 0 ∧ e = fErr l) ∨
  (∃ b, l = [b] ∧ fErr l = 0 ∧ ¬ b.p.fl % 2 = 1 ∧ d = b.pay.data ∧ e = 0) ∨
  ∃ f r, l = f :: r ∧ Base f r ∧
    ((l.any (strangeB f) = true ∧ e = 6) ∨
     (l.any (strangeB f) = false ∧
       ((Clash l ∧ e = 6) ∨
        (¬ Clash l ∧ Gap f.p.tot l ∧ e = 8) ∨
        (¬ Clash l ∧ ¬ Gap f.p.tot l ∧ e = 0 ∧ ∃ data, d = str data ∧ data.length = f.p.tot ∧ ∀ b ∈ l, ∀ x, b.has x = true → data[x]? = some (b.byte x)))))
def JoinsPost (l : List Bn) (w : World) (e : Ending) (w' : World) : Prop := ∃ d er, e = .returned (.tuple #[.string d, .int .i64 er]) ∧ JoinsIs l d er ∧ Below w.heap.size w w'

set_option maxRecDepth 100000 in
theorem joins_nil (A : Option Addr) (c : Nat) (w : World) : Calls Try.prog 13 #[.slice A 0 c] w (JoinsPost [] w) := by
  go_enter Try.func13, Try.ntmps13
  go_wp2
  go_ret2
  exact ⟨⟨#[]⟩, 8, rfl, .inl ⟨rfl, rfl⟩, Below.refl _ _⟩

set_option maxRecDepth 100000 in
set_option maxHeartbeats 8000000 in
theorem joins_any (a : Addr) (n c B : Nat) (f : Bn) (r l : List Bn) (w : World) (hfr : l = f :: r) (h : Lies w B (some a) (l.flatMap Bn.cells)) (hok : ∀ b ∈ l, b.Ok w B) (hn : n = l.length) (hB : B ≤ w.heap.size) (hbig : n ≤ 1000000) :
    Calls Try.prog 13 #[.slice (some a) n c] w (JoinsPost l w) := by
  have Hl := hide h
  have Hok := hide hok
  have Hn := hide hn
  have Hf := hide hfr
  have hn0 : ¬ n = 0 := by rw [hn, hfr]; simp
  have hn0' : ¬ (n : Int) = 0 := by omega
  have hnp : (0 : Int) < (n : Int) := by omega
  have hnb : ((n : Int) == 0) = false := beq_eq_false_iff_ne.2 hn0'
  clear h hok hn hfr
  go_enter Try.func13, Try.ntmps13
  go_wp2_with fail
  go_loopw [4, 5] (fun s4 s5 wr => ∃ k : Nat, k ≤ n ∧ s4 = .int .i64 (k : Int) ∧ Below w.heap.size w wr ∧ Hid (fErr l = fErr (l.drop k))) (fun s4 s5 wr => n - (intOf s4).toNat)
  case atStart => exact ⟨0, Nat.zero_le _, rfl, Below.refl _ _, hide rfl⟩
  case round =>
    obtain ⟨k, hk, rfl, hb, HF⟩ := hrel
    have Hb := hide hb
    have hzw := hb.size
    clear hb
    by_cases hlt : k < n
    · have hlt' : (k : Int) < (n : Int) := by omega
      have hkl : k < l.length := by rw [← Hn.out]; exact hlt
      obtain ⟨a', ha', hab, hca⟩ := (Hl.out.below (Hb.out.mono hB)).elem (f := Bn.cells) (m := 25) Bn.cells_len hkl (by omega)
      cases ha'
      have HF2 := hide (show fErr l = if l[k].check = 0 then fErr (l.drop (k + 1)) else l[k].check by rw [HF.out, fErr_drop hkl])
      have hokb := (Hok.out l[k] (List.getElem_mem hkl)).below (Hb.out.mono hB)
      have Hca := hide hca
      clear hca HF
      generalize l[k] = b at *
      have FC := hide (ref11_any b B wr hokb (by omega))
      clear hokb
      go_wp2_with (with_reducible refine wpl_load_addr rfl 33 (.tmp 26) rfl (a.add (k * 25)) b.cells Hca.out rfl _ Try.underlying33 rfl 25 info33 (by with_unfolding_all rfl) ?_)
      refine FC.out.mono ?_
      rintro e w3 ⟨rfl, hb3⟩
      have Hb3 := hide (Hb.out.trans (hb3.mono hzw))
      clear hb3 FC Hca Hb
      by_cases hc0 : b.check = 0
      · have HF3 := hide (show fErr l = fErr (l.drop (k + 1)) by rw [HF2.out, if_pos hc0])
        clear HF2
        go_wp2
        go_roundw
        case rel => exact ⟨k + 1, by omega, by go_num, Hb3.out, HF3⟩
        case measure => simp [intOf]; omega
      · have HF3 := hide (show fErr l = b.check by rw [HF2.out, if_neg hc0])
        have Hc0 := hide hc0
        generalize b.check = z at *
        clear HF2
        go_wp2
        go_ret2
        exact ⟨⟨#[]⟩, z, rfl, .inr (.inl ⟨by rw [HF3.out]; exact Hc0.out, HF3.out.symm⟩), Hb3.out⟩
    · have hlt' : ¬ (k : Int) < (n : Int) := by omega
      have HF0 := hide (show fErr l = 0 by rw [HF.out, List.drop_of_length_le (by rw [← Hn.out]; omega)]; rfl)
      have HC := hide (fun W (hb : Below w.heap.size w W) => first_cells Hf.out (Hl.out.below (hb.mono hB)))
      have hokf := hide (Hok.out f (by rw [Hf.out]; exact List.mem_cons_self))
      have Hp3 := hide (fun j v (hv : f.p.cells[j]? = some v) => HC.out wr Hb.out j v (cells_p hv))
      clear HF hk hlt
      generalize wr = w3 at *
      obtain ⟨q, hq⟩ : ∃ q, q = w3.heap.size := ⟨_, rfl⟩
      have Hq := hide hq
      have RF := hide (show (w3.alloc (.cells f.p.cells.toArray 28)).rangeAt q 0 f.p.cells by rw [Hq.out]; exact range_new w3 f.p.cells 28 (0, 0))
      have HBa := hide (show Below w.heap.size w (w3.alloc (.cells f.p.cells.toArray 28)) from Hb.out.alloc hzw _)
      have hq2 : q < (w3.alloc (.cells f.p.cells.toArray 28)).heap.size := by simp; omega
      clear hq
      go_upto_region 10 with (first
        | (with_reducible refine wpl_load_addr rfl 28 (.tmp 34) rfl a f.p.cells Hp3.out rfl _ Try.underlying28 rfl 19 info28 (by with_unfolding_all rfl) ?_)
        | (with_reducible refine wpl_store_last w3 rfl 28 (.tmp 6) (.tmp 35) rfl 28 _ f.p.cells.toArray rfl rfl 19 info28 (pcells_size f.p) (by with_unfolding_all rfl) (pcells_one f.p) ?_; rw [← Hq.out]; generalize w3.alloc (.cells f.p.cells.toArray 28) = w4 at *))
      have c0 : w4.cell? ⟨q, 0, none⟩ = some (.int .u64 (f.p.fl : Int)) := RF.out 0 _ rfl
      by_cases h1 : n = 1
      · have h1b : ((n : Int) == 1) = true := by rw [h1]; rfl
        have hlf : l = [f] := by
          have := Hn.out
          rw [h1, Hf.out, List.length_cons] at this
          rw [Hf.out, List.eq_nil_of_length_eq_zero (l := r) (by omega)]
        have H1 := hide h1
        have Hlf := hide hlf
        clear h1 hlf
        by_cases hfl : f.p.fl % 2 = 1
        · have hfb : ((f.p.fl : Int) % 2 == 0) = false := beq_eq_false_iff_ne.2 (by omega)
          have HB := hide (show Base f r from ⟨by rw [← Hf.out]; exact HF0.out, fun ⟨b, hb, hb2⟩ => by rw [← Hf.out, Hlf.out] at hb; injection hb with hb; rw [← hb] at hb2; exact hb2 hfl⟩)
          clear hfl H1 Hlf
          go_wp2_with fail
          clear c0
          try clear hfb
          go_loopw [7, 8] (fun s7 s8 wr => ∃ k : Nat, k ≤ n ∧ s7 = .int .i64 (k : Int) ∧ Below w4.heap.size w4 wr ∧ Hid ((l.take k).any (strangeB f) = false)) (fun s7 s8 wr => n - (intOf s7).toNat)
          case atStart => exact ⟨0, Nat.zero_le _, rfl, Below.refl _ _, hide rfl⟩
          case round =>
            obtain ⟨k, hk, rfl, hb, HS⟩ := hrel
            have Hb := hide hb
            have hzw := hb.size
            have Hbw := hide (HBa.out.trans (hb.mono HBa.out.size))
            have RFk := hide (range_below RF.out hb hq2)
            clear hb
            by_cases hlt : k < n
            · have hlt' : (k : Int) < (n : Int) := by omega
              have hkl : k < l.length := by rw [← Hn.out]; exact hlt
              obtain ⟨a', ha', hab, hca⟩ := (Hl.out.below (Hbw.out.mono hB)).elem (f := Bn.cells) (m := 25) Bn.cells_len hkl (by omega)
              cases ha'
              have HS2 := hide (show (l.take (k + 1)).any (strangeB f) = strangeB f l[k] by rw [List.take_succ_eq_append_getElem hkl, List.any_append, HS.out]; simp)
              have Hcp := hide (fun j v (hv : l[k].p.cells[j]? = some v) => hca j v (cells_p hv))
              have Hmem := hide (List.getElem_mem hkl)
              have hc24 := hca 24 _ rfl
              have hokb := hide (Hok.out l[k] (List.getElem_mem hkl))
              have Hck := hide (fErr_zero HF0.out l[k] (List.getElem_mem hkl))
              clear hca HS
              generalize l[k] = b at *
              obtain ⟨p, hp⟩ : ∃ p, p = wr.heap.size := ⟨_, rfl⟩
              have Hp := hide hp
              have RB := hide (show (wr.alloc (.cells b.p.cells.toArray 28)).rangeAt p 0 b.p.cells by rw [Hp.out]; exact range_new wr b.p.cells 28 (0, 0))
              have RF2 := hide (range_alloc RFk.out (by omega) (.cells b.p.cells.toArray 28))
              have Hb5 := hide (show Below w4.heap.size w4 (wr.alloc (.cells b.p.cells.toArray 28)) from Hb.out.alloc hzw _)
              have hc24' : (wr.alloc (.cells b.p.cells.toArray 28)).cell? ⟨(a.add (k * 25)).block, (a.add (k * 25)).off + 20 + 4, none⟩ = some (.string b.pay.data) := ((Below.refl wr.heap.size wr).alloc (Nat.le_refl _) _).cell (p := ⟨(a.add (k * 25)).block, (a.add (k * 25)).off + 20 + 4, none⟩) (by show (a.add (k * 25)).block < _; rw [Addr.add_block]; have := Hbw.out.size; omega) |>.trans hc24
              have Hc24 := hide hc24'
              clear hp hc24 hc24' RFk
              go_upto_region 16 with (first
                | (with_reducible refine wpl_load_addr rfl 28 (.tmp 59) rfl (a.add (k * 25)) b.p.cells Hcp.out rfl _ Try.underlying28 rfl 19 info28 (by with_unfolding_all rfl) ?_)
                | (with_reducible refine wpl_store_last wr rfl 28 (.tmp 8) (.tmp 60) rfl 28 _ b.p.cells.toArray rfl rfl 19 info28 (pcells_size b.p) (by with_unfolding_all rfl) (pcells_one b.p) ?_; rw [← Hp.out]; generalize wr.alloc (.cells b.p.cells.toArray 28) = w5 at *))
              simp only [Act.put]
              have p0 : w5.cell? ⟨p, 0, none⟩ = some (.int .u64 (b.p.fl : Int)) := RB.out 0 _ rfl
              have p6 : w5.cell? ⟨p, 6, none⟩ = some (.int .i64 b.p.src.sch) := RB.out 6 _ rfl
              have p7 : w5.cell? ⟨p, 7, none⟩ = some (.string b.p.src.name) := RB.out 7 _ rfl
              have p8 : w5.cell? ⟨p, 8, none⟩ = some (.int .u64 (b.p.src.node : Int)) := RB.out 8 _ rfl
              have p9 : w5.cell? ⟨p, 9, none⟩ = some (.int .u64 (b.p.src.svc : Int)) := RB.out 9 _ rfl
              have p14 : w5.cell? ⟨p, 14, none⟩ = some (.int .u64 (b.p.time : Int)) := RB.out 14 _ rfl
              have p15 : w5.cell? ⟨p, 15, none⟩ = some (.int .u64 (b.p.seq : Int)) := RB.out 15 _ rfl
              have p17 : w5.cell? ⟨p, 17, none⟩ = some (.int .u64 (b.p.off : Int)) := RB.out 17 _ rfl
              have p18 : w5.cell? ⟨p, 18, none⟩ = some (.int .u64 (b.p.tot : Int)) := RB.out 18 _ rfl
              have q0 : w5.cell? ⟨q, 0, none⟩ = some (.int .u64 (f.p.fl : Int)) := RF2.out 0 _ rfl
              have q6 : w5.cell? ⟨q, 6, none⟩ = some (.int .i64 f.p.src.sch) := RF2.out 6 _ rfl
              have q7 : w5.cell? ⟨q, 7, none⟩ = some (.string f.p.src.name) := RF2.out 7 _ rfl
              have q8 : w5.cell? ⟨q, 8, none⟩ = some (.int .u64 (f.p.src.node : Int)) := RF2.out 8 _ rfl
              have q9 : w5.cell? ⟨q, 9, none⟩ = some (.int .u64 (f.p.src.svc : Int)) := RF2.out 9 _ rfl
              have q14 : w5.cell? ⟨q, 14, none⟩ = some (.int .u64 (f.p.time : Int)) := RF2.out 14 _ rfl
              have q15 : w5.cell? ⟨q, 15, none⟩ = some (.int .u64 (f.p.seq : Int)) := RF2.out 15 _ rfl
              have q18 : w5.cell? ⟨q, 18, none⟩ = some (.int .u64 (f.p.tot : Int)) := RF2.out 18 _ rfl
              have c24 := Hc24.out
              have nS : ∀ W, (binOp .neq 24 (.agg #[.int .i64 b.p.src.sch, .string b.p.src.name, .int .u64 (b.p.src.node : Int), .int .u64 (b.p.src.svc : Int)]) (.agg #[.int .i64 f.p.src.sch, .string f.p.src.name, .int .u64 (f.p.src.node : Int), .int .u64 (f.p.src.svc : Int)])).run Try.prog W = .ok (.bool (!b.p.src.eqB f.p.src)) W := fun W => neq24 b.p.src f.p.src W
              have nT := fun W => neq26 b.p.time b.p.seq f.p.time f.p.seq W
              have Hodd := hide (fun (hs : strangeB f b = true) => (show JoinsIs l ⟨#[]⟩ 6 from .inr (.inr (.inr ⟨f, r, Hf.out, HB.out, .inl ⟨List.any_eq_true.2 ⟨b, Hmem.out, hs⟩, rfl⟩⟩))))
              have HBe := hide (HBa.out.trans (Hb5.out.mono HBa.out.size))
              have Hsame := hide (Pr.sameB_iff b.p f.p)
              by_cases hA : b.p.fl % 2 = 1
              · have hAb : ((b.p.fl : Int) % 2 == 0) = false := beq_eq_false_iff_ne.2 (by omega)
                have hoff := check_off Hck.out hA
                have HA := hide hA
                clear hA
                cases hN : b.p.src.eqB f.p.src with
                | false =>
                  rw [hN] at nS
                  have Hs := hide (Hodd.out (strange_same (fun h => by have := (Nm.eqB_iff _ _).2 (Hsame.out.1 h).2.1; rw [hN] at this; cases this)))
                  clear hN hoff Hodd Hsame HS2 Hck Hc24 hokb Hmem Hcp RB RF2 p14 p15 p17 p18 q0 q14 q15 q18 c24 nT
                  go_quiet (fail)
                  go_wp2
                  go_ret2
                  exact ⟨⟨#[]⟩, 6, rfl, Hs.out, bel_drewN HBe.out _⟩
                | true =>
                  rw [hN] at nS
                  have HN := hide ((Nm.eqB_iff _ _).1 hN)
                  clear hN
                  cases hT : ((b.p.time : Int) == (f.p.time : Int)) && ((b.p.seq : Int) == (f.p.seq : Int)) with
                  | false =>
                    rw [hT] at nT
                    have Hs := hide (Hodd.out (strange_same (fun h => by have h2 := (Hsame.out.1 h).2.2; rw [h2.1, h2.2.1] at hT; simp at hT)))
                    clear hT hoff Hodd Hsame HS2 Hck Hc24 hokb Hmem Hcp RB RF2 p17 p18 q0 q18 c24
                    go_quiet (fail)
                    go_wp2
                    go_ret2
                    exact ⟨⟨#[]⟩, 6, rfl, Hs.out, bel_drewN HBe.out _⟩
                  | true =>
                    rw [hT] at nT
                    rw [Bool.and_eq_true, beq_iff_eq, beq_iff_eq] at hT
                    have HT := hide (show b.p.time = f.p.time ∧ b.p.seq = f.p.seq by omega)
                    clear hT
                    by_cases hTo : b.p.tot = f.p.tot
                    · have hTob : ((b.p.tot : Int) != (f.p.tot : Int)) = false := by rw [hTo]; simp
                      by_cases hF : f.p.fl % 2 = 1
                      · have hFb : ((f.p.fl : Int) % 2 == 0) = false := beq_eq_false_iff_ne.2 (by omega)
                        have HsB := hide (Hsame.out.2 ⟨by rw [HA.out, hF], HN.out, HT.out.1, HT.out.2, hTo⟩)
                        have hsub : IntKind.u64.wrap ((b.p.tot : Int) - (b.p.off : Int)) = ((b.p.tot - b.p.off : Nat) : Int) := by rw [IntKind.wrap_u64]; have := hokb.out.tot; omega
                        have hsz : IntKind.u64.wrap (b.pay.data.size : Int) = (b.pay.data.size : Int) := by rw [IntKind.wrap_u64]; have := hokb.out.data; omega
                        have hts := hokb.out.tot
                        clear hTo hF
                        by_cases hZ : b.p.tot - b.p.off < b.pay.data.size
                        · have hZb : ((b.p.tot - b.p.off : Nat) : Int) < (b.pay.data.size : Int) := by omega
                          have Hs := hide (Hodd.out (by unfold strangeB; rw [decide_eq_true hZ]; simp))
                          clear hZ hoff Hodd Hsame HS2 Hck Hc24 hokb Hmem Hcp RB RF2
                          generalize b.p.tot - b.p.off = z at *
                          go_quiet (fail)
                          go_wp2
                          go_ret2
                          exact ⟨⟨#[]⟩, 6, rfl, Hs.out, bel_drewN HBe.out _⟩
                        · have hZb : ¬ ((b.p.tot - b.p.off : Nat) : Int) < (b.pay.data.size : Int) := by omega
                          by_cases hM : 65536 < b.p.tot
                          · have hMb : (65536 : Int) < (b.p.tot : Int) := by omega
                            have Hs := hide (Hodd.out (by unfold strangeB; rw [decide_eq_true hM]; simp))
                            clear hM hZ hoff Hodd Hsame HS2 Hck Hc24 hokb Hmem Hcp RB RF2
                            generalize b.p.tot - b.p.off = z at *
                            go_quiet (fail)
                            go_wp2
                            go_ret2
                            exact ⟨⟨#[]⟩, 6, rfl, Hs.out, bel_drewN HBe.out _⟩
                          · have hMb : ¬ (65536 : Int) < (b.p.tot : Int) := by omega
                            have Hns := hide (show (l.take (k + 1)).any (strangeB f) = false by rw [HS2.out]; unfold strangeB; rw [decide_eq_false hM, decide_eq_false hZ, HsB.out, decide_eq_true HA.out]; rfl)
                            clear hM hZ hoff Hodd Hsame HS2 Hck Hc24 hokb Hmem Hcp RB RF2
                            generalize b.p.tot - b.p.off = z at *
                            go_quiet (fail)
                            go_wp2
                            go_roundw
                            case rel => exact ⟨k + 1, by omega, by go_num, bel_drewN Hb5.out _, Hns⟩
                            case measure => simp [intOf]; omega
                      · have hFb : ((f.p.fl : Int) % 2 == 0) = true := beq_iff_eq.2 (by omega)
                        have Hs := hide (Hodd.out (strange_same (fun h => hF (by rw [← (Hsame.out.1 h).1]; exact HA.out))))
                        clear hF hTo hoff Hodd Hsame HS2 Hck Hc24 hokb Hmem Hcp RB RF2 p17 c24
                        go_quiet (fail)
                        go_wp2
                        go_ret2
                        exact ⟨⟨#[]⟩, 6, rfl, Hs.out, bel_drewN HBe.out _⟩
                    · have hTob : ((b.p.tot : Int) != (f.p.tot : Int)) = true := bne_iff_ne.2 (by omega)
                      have Hs := hide (Hodd.out (strange_same (fun h => hTo (Hsame.out.1 h).2.2.2.2)))
                      clear hTo hoff Hodd Hsame HS2 Hck Hc24 hokb Hmem Hcp RB RF2 p17 q0 c24
                      go_quiet (fail)
                      go_wp2
                      go_ret2
                      exact ⟨⟨#[]⟩, 6, rfl, Hs.out, bel_drewN HBe.out _⟩
              · have hAb : ((b.p.fl : Int) % 2 == 0) = true := beq_iff_eq.2 (by omega)
                have Hs := hide (Hodd.out (by unfold strangeB; rw [decide_eq_false hA]; rfl))
                clear hA Hodd Hsame HS2 Hck Hc24 hokb Hmem Hcp RB RF2 p6 p7 p8 p9 p14 p15 p17 p18 q0 q6 q7 q8 q9 q14 q15 q18 c24 nS nT
                go_quiet (fail)
                go_wp2
                go_ret2
                exact ⟨⟨#[]⟩, 6, rfl, Hs.out, bel_drewN HBe.out _⟩
            · have hlt' : ¬ (k : Int) < (n : Int) := by omega
              have Hany := hide (show l.any (strangeB f) = false by have := HS.out; rwa [List.take_of_length_le (by rw [← Hn.out]; omega)] at this)
              have HFit := hide (none_strange Hany.out HF0.out)
              have hTm : f.p.tot ≤ 65536 := (HFit.out f (by rw [Hf.out]; exact List.mem_cons_self)).most
              have hq6 : q < wr.heap.size := by omega
              clear HS hk hlt hzw Hb HBa RF hq2 Hp3 HC
              generalize wr = w6 at *
              have q18 : ∀ W, Below w6.heap.size w6 W → W.cell? ⟨q, 18, none⟩ = some (.int .u64 (f.p.tot : Int)) := fun W hb => (hb.cell (p := ⟨q, 18, none⟩) hq6).trans (RFk.out 18 _ rfl)
              have Hq18 := hide q18
              clear q18
              obtain ⟨T, hT⟩ : ∃ T, T = f.p.tot := ⟨_, rfl⟩
              have HT := hide hT
              rw [← HT.out] at Hq18 hTm
              clear hT
              go_wp2_with fail
              go_loopw [9, 10, 11, 12, 13, 14] (fun s9 s10 s11 s12 s13 s14 wr => ∃ x : Nat, x ≤ T ∧ s11 = .int .u64 (x : Int) ∧ Below w6.heap.size w6 wr ∧ ∃ (D : List UInt8) (hole : Bool), s9 = .string (str D) ∧ s10 = .bool hole ∧ Hid (JInv l x D hole)) (fun s9 s10 s11 s12 s13 s14 wr => T - (intOf s11).toNat)
              case atStart => exact ⟨0, Nat.zero_le _, rfl, Below.refl _ _, [], false, rfl, rfl, hide (JInv.nil l)⟩
              case round =>
                obtain ⟨x, hx, rfl, hb, D, hole, rfl, rfl, HJ⟩ := hrel
                have Hb := hide hb
                have hzw := hb.size
                have c18 := Hq18.out wr hb
                clear hb
                by_cases hxt : x < T
                · have hxt' : (x : Int) < (T : Int) := by omega
                  go_wp2_with fail
                  clear c18
                  generalize wr = w7 at *
                  go_loopw [12, 13, 14] (fun s12 s13 s14 wr => ∃ i : Nat, i ≤ n ∧ s13 = .int .i64 (i : Int) ∧ Below w7.heap.size w7 wr ∧ ∃ c : Option UInt8, s12 = cval c ∧ Hid (CInv l x i c)) (fun s12 s13 s14 wr => n - (intOf s13).toNat)
                  case atStart => exact ⟨0, Nat.zero_le _, rfl, Below.refl _ _, none, rfl, hide (CInv.nil l x)⟩
                  case round =>
                    obtain ⟨i, hi, rfl, hb2, c1, rfl, HI⟩ := hrel
                    have Hb2 := hide hb2
                    have hzw2 := hb2.size
                    clear hb2
                    have Hbw2 := hide (Hbw.out.trans ((Hb.out.trans (Hb2.out.mono hzw)).mono Hbw.out.size))
                    by_cases hlt : i < n
                    · have hlt' : (i : Int) < (n : Int) := by omega
                      have hkl : i < l.length := by rw [← Hn.out]; exact hlt
                      obtain ⟨a', ha', hab, hca⟩ := (Hl.out.below (Hbw2.out.mono hB)).elem (f := Bn.cells) (m := 25) Bn.cells_len hkl (by omega)
                      cases ha'
                      have hokb := hide (Hok.out l[i] (List.getElem_mem hkl))
                      have Hmem := hide (List.getElem_mem hkl)
                      have Htk := hide (show l.take (i + 1) = l.take i ++ [l[i]] from List.take_succ_eq_append_getElem hkl)
                      have hfit := HFit.out l[i] (List.getElem_mem hkl)
                      have Hca := hide hca
                      clear hca
                      generalize l[i] = b at *
                      have hoT : b.p.off < T := by rw [HT.out]; exact hfit.off
                      clear hfit
                      have FI := hide (in_any b x wr (by omega) (by have := hokb.out.data; omega))
                      cases hh : b.has x with
                      | false =>
                        rw [hh] at FI
                        have HI2 := hide (show CInv l x (i + 1) c1 from HI.out.skip Htk.out hh)
                        clear HI hh
                        generalize hcv : cval c1 = cv at *
                        have Hcv := hide hcv
                        clear hcv
                        go_wp2_with (with_reducible refine wpl_load_addr rfl 33 (.tmp 127) rfl (a.add (i * 25)) b.cells Hca.out rfl _ Try.underlying33 rfl 25 info33 (by with_unfolding_all rfl) ?_)
                        refine FI.out.mono ?_
                        rintro e w8 ⟨rfl, hb3⟩
                        have Hb8 := hide (Hb2.out.trans (hb3.mono hzw2))
                        clear hb3 FI Hca
                        go_wp2
                        go_roundw
                        case rel => exact ⟨i + 1, by omega, by go_num, Hb8.out, c1, Hcv.out.symm, HI2⟩
                        case measure => simp [intOf]; omega
                      | true =>
                        rw [hh] at FI
                        have hin := (has_iff b x).1 hh
                        have hbl := bytes_len b
                        have Hby := hide (byte_at b x hh)
                        have Hh := hide hh
                        clear hh
                        generalize hcv : cval c1 = cv at *
                        have Hcv := hide hcv
                        clear hcv
                        go_wp2_with (with_reducible refine wpl_load_addr rfl 33 (.tmp 127) rfl (a.add (i * 25)) b.cells Hca.out rfl _ Try.underlying33 rfl 25 info33 (by with_unfolding_all rfl) ?_)
                        refine FI.out.mono ?_
                        rintro e w8 ⟨rfl, hb3⟩
                        have hba : (a.add (i * 25)).block < wr.heap.size := by rw [Addr.add_block]; have := Hbw2.out.size; omega
                        have c17 : w8.cell? ⟨(a.add (i * 25)).block, (a.add (i * 25)).off + 17, none⟩ = some (.int .u64 (b.p.off : Int)) := (hb3.cell (p := ⟨(a.add (i * 25)).block, (a.add (i * 25)).off + 17, none⟩) hba).trans (Hca.out 17 _ rfl)
                        have c24 : w8.cell? ⟨(a.add (i * 25)).block, (a.add (i * 25)).off + 20 + 4, none⟩ = some (.string b.pay.data) := (hb3.cell (p := ⟨(a.add (i * 25)).block, (a.add (i * 25)).off + 20 + 4, none⟩) hba).trans (Hca.out 24 _ rfl)
                        have Hb8 := hide (Hb2.out.trans (hb3.mono hzw2))
                        have HbE := hide (Hbw2.out.trans (hb3.mono Hbw2.out.size))
                        have hsub : IntKind.u64.wrap ((x : Int) - (b.p.off : Int)) = ((x - b.p.off : Nat) : Int) := by rw [IntKind.wrap_u64]; omega
                        have hlt2 : ((x - b.p.off : Nat) : Int) < (b.pay.data.size : Int) := by omega
                        have hlt3 : x - b.p.off < b.pay.data.size := by omega
                        generalize x - b.p.off = z at *
                        clear hb3 FI Hca hba hin
                        obtain ⟨u, hu⟩ : ∃ u, u = b.byte x := ⟨_, rfl⟩
                        have hw : wrap64 ((b.pay.data[z]'hlt3).toNat : Int) = (u.toNat : Int) := by
                          have h1 := Hby.out
                          rw [← hu] at h1
                          obtain ⟨h2, h3⟩ := List.getElem?_eq_some_iff.1 h1
                          have h4 : b.pay.data[z]'hlt3 = u := h3
                          rw [h4, wr64 (by have := u.toNat_lt; omega)]
                        have Hw := hide hw
                        clear hw Hby
                        go_upto_region 28 with fail
                        go_quiet (fail)
                        rw [Hw.out]
                        have Hb9 := hide (bel_drewN (B := w7.heap.size) Hb8.out nq)
                        have HbE9 := hide (bel_drewN (B := w.heap.size) HbE.out nq)
                        generalize w8.drewN nq = w9 at *
                        clear c17 c24 hsub Hw Hb8 HbE
                        cases c1 with
                        | none =>
                          have HI2 := hide (show CInv l x (i + 1) (some u) by rw [hu]; exact HI.out.first Htk.out Hh.out)
                          obtain rfl : cv = .int .i64 (-1) := Hcv.out.symm
                          clear HI hu
                          go_wp2
                          go_roundw
                          case rel => exact ⟨i + 1, by omega, by go_num, Hb9.out, some u, rfl, HI2⟩
                          case measure => simp [intOf]; omega
                        | some v =>
                          obtain rfl : cv = .int .i64 (v.toNat : Int) := Hcv.out.symm
                          have hv0 : (0 : Int) ≤ (v.toNat : Int) := by omega
                          by_cases huv : u = v
                          · have HI2 := hide (show CInv l x (i + 1) (some u) by rw [hu]; exact HI.out.again Htk.out (by rw [← hu]; exact huv))
                            have hneb : ((v.toNat : Int) != (u.toNat : Int)) = false := by rw [huv]; simp
                            clear HI hu huv
                            go_wp2
                            go_roundw
                            case rel => exact ⟨i + 1, by omega, by go_num, Hb9.out, some u, rfl, HI2⟩
                            case measure => simp [intOf]; omega
                          · have HCl := hide (HI.out.clash Hmem.out Hh.out (by rw [← hu]; exact huv))
                            have hneb : ((v.toNat : Int) != (u.toNat : Int)) = true := bne_iff_ne.2 (fun h => huv (UInt8.toNat_inj.1 (by omega)))
                            clear HI hu huv
                            go_wp2
                            go_ret2
                            exact ⟨⟨#[]⟩, 6, rfl, .inr (.inr (.inr ⟨f, r, Hf.out, HB.out, .inr ⟨Hany.out, .inl ⟨HCl.out, rfl⟩⟩⟩)), HbE9.out⟩
                    · have hlt' : ¬ (i : Int) < (n : Int) := by omega
                      have hil : l.take i = l := List.take_of_length_le (by rw [← Hn.out]; omega)
                      have Hb3 := hide (Hb.out.trans (Hb2.out.mono hzw))
                      have hz3 := Hb3.out.size
                      have Hx1 := hide (show IntKind.u64.wrap ((x : Int) + 1) = ((x + 1 : Nat) : Int) by rw [IntKind.wrap_u64]; omega)
                      clear Hb2 hzw2 Hbw2
                      generalize wr = w8 at *
                      cases c1 with
                      | none =>
                        have HJ2 := hide (HJ.out.hole HI.out hil)
                        clear HI hil HJ
                        simp only [cval]
                        cases hole with
                        | true =>
                          go_wp2
                          go_roundw
                          case rel => exact ⟨x + 1, by omega, by go_num, Hb3.out, D, true, rfl, rfl, HJ2⟩
                          case measure => simp [intOf]; omega
                        | false =>
                          go_wp2
                          go_roundw
                          case rel => exact ⟨x + 1, by omega, by go_num, Hb3.out, D, true, rfl, rfl, HJ2⟩
                          case measure => simp [intOf]; omega
                      | some u =>
                        have HJ2 := hide (HJ.out.more HI.out hil)
                        have hDl := HJ.out.len
                        clear HI hil HJ
                        simp only [cval]
                        have hv0 : (0 : Int) ≤ (u.toNat : Int) := by omega
                        have hvn : ¬ (u.toNat : Int) < 0 := by omega
                        have hwu : IntKind.u8.wrap (u.toNat : Int) = (u.toNat : Int) := by rw [IntKind.wrap_u8]; have := u.toNat_lt; omega
                        have hst := strU8 (n := 1) 1 (Lies.fresh w8 [u] 5 (0, 0) #[.int .u8 (u.toNat : Int)] rfl w8.heap.size (w8.heap.size + 1) rfl (by omega)) rfl
                        have hcat : ¬ 9223372036854775807 < (str D).size + (str [u]).size := by rw [str_size, str_size]; simp; omega
                        have happ := str_app D [u]
                        have Hb4 := hide (Hb3.out.alloc hz3 (.cells #[.int .u8 (u.toNat : Int)] 5))
                        cases hole with
                        | true =>
                          go_wp2
                          go_roundw
                          case rel => exact ⟨x + 1, by omega, by go_num, Hb4.out, D ++ [u], true, by rw [← happ], rfl, HJ2⟩
                          case measure => simp [intOf]; omega
                        | false =>
                          go_wp2
                          go_roundw
                          case rel => exact ⟨x + 1, by omega, by go_num, Hb4.out, D ++ [u], false, by rw [← happ], rfl, HJ2⟩
                          case measure => simp [intOf]; omega
                · have hxt' : ¬ (x : Int) < (T : Int) := by omega
                  obtain rfl : x = T := by omega
                  have HE := hide (HJ.out.ends (fun b hb y hy => by have := (HFit.out b hb).end_; have := (has_iff b y).1 hy; rw [HT.out]; omega))
                  have HbE := hide (Hbw.out.trans (Hb.out.mono Hbw.out.size))
                  generalize wr = w9 at *
                  cases hole with
                  | true =>
                    go_wp2
                    go_ret2
                    exact ⟨⟨#[]⟩, 8, rfl, .inr (.inr (.inr ⟨f, r, Hf.out, HB.out, .inr ⟨Hany.out, .inr (.inl ⟨HE.out.1, by rw [← HT.out]; exact HE.out.2.1 (by first | exact rfl | trivial), rfl⟩)⟩⟩)), HbE.out⟩
                  | false =>
                    go_wp2
                    go_ret2
                    exact ⟨str D, 0, rfl, .inr (.inr (.inr ⟨f, r, Hf.out, HB.out, .inr ⟨Hany.out, .inr (.inr ⟨HE.out.1, by rw [← HT.out]; exact (HE.out.2.2 (by first | exact rfl | trivial)).1, rfl, D, rfl, by rw [← HT.out]; exact (HE.out.2.2 (by first | exact rfl | trivial)).2.1, (HE.out.2.2 (by first | exact rfl | trivial)).2.2⟩)⟩⟩)), HbE.out⟩
        · have hfb : ((f.p.fl : Int) % 2 == 0) = true := beq_iff_eq.2 (by omega)
          have c24 : w4.cell? ⟨a.block, a.off + 20 + 4, none⟩ = some (.string f.pay.data) := HC.out w4 HBa.out 24 _ rfl
          have Hfl := hide hfl
          clear hfl
          go_wp2
          go_ret2
          exact ⟨f.pay.data, 0, rfl, .inr (.inr (.inl ⟨f, Hlf.out, HF0.out, Hfl.out, rfl, rfl⟩)), HBa.out⟩
      · have h1' : ¬ (n : Int) = 1 := by omega
        have h1b : ((n : Int) == 1) = false := beq_eq_false_iff_ne.2 h1'
        have HB := hide (show Base f r from ⟨by rw [← Hf.out]; exact HF0.out, fun ⟨b, hb, hb2⟩ => by rw [← Hf.out] at hb; have := Hn.out; rw [hb] at this; exact h1 this⟩)
        clear h1
        go_wp2_with fail
        clear c0
        try clear hfb
        go_loopw [7, 8] (fun s7 s8 wr => ∃ k : Nat, k ≤ n ∧ s7 = .int .i64 (k : Int) ∧ Below w4.heap.size w4 wr ∧ Hid ((l.take k).any (strangeB f) = false)) (fun s7 s8 wr => n - (intOf s7).toNat)
        case atStart => exact ⟨0, Nat.zero_le _, rfl, Below.refl _ _, hide rfl⟩
        case round =>
          obtain ⟨k, hk, rfl, hb, HS⟩ := hrel
          have Hb := hide hb
          have hzw := hb.size
          have Hbw := hide (HBa.out.trans (hb.mono HBa.out.size))
          have RFk := hide (range_below RF.out hb hq2)
          clear hb
          by_cases hlt : k < n
          · have hlt' : (k : Int) < (n : Int) := by omega
            have hkl : k < l.length := by rw [← Hn.out]; exact hlt
            obtain ⟨a', ha', hab, hca⟩ := (Hl.out.below (Hbw.out.mono hB)).elem (f := Bn.cells) (m := 25) Bn.cells_len hkl (by omega)
            cases ha'
            have HS2 := hide (show (l.take (k + 1)).any (strangeB f) = strangeB f l[k] by rw [List.take_succ_eq_append_getElem hkl, List.any_append, HS.out]; simp)
            have Hcp := hide (fun j v (hv : l[k].p.cells[j]? = some v) => hca j v (cells_p hv))
            have Hmem := hide (List.getElem_mem hkl)
            have hc24 := hca 24 _ rfl
            have hokb := hide (Hok.out l[k] (List.getElem_mem hkl))
            have Hck := hide (fErr_zero HF0.out l[k] (List.getElem_mem hkl))
            clear hca HS
            generalize l[k] = b at *
            obtain ⟨p, hp⟩ : ∃ p, p = wr.heap.size := ⟨_, rfl⟩
            have Hp := hide hp
            have RB := hide (show (wr.alloc (.cells b.p.cells.toArray 28)).rangeAt p 0 b.p.cells by rw [Hp.out]; exact range_new wr b.p.cells 28 (0, 0))
            have RF2 := hide (range_alloc RFk.out (by omega) (.cells b.p.cells.toArray 28))
            have Hb5 := hide (show Below w4.heap.size w4 (wr.alloc (.cells b.p.cells.toArray 28)) from Hb.out.alloc hzw _)
            have hc24' : (wr.alloc (.cells b.p.cells.toArray 28)).cell? ⟨(a.add (k * 25)).block, (a.add (k * 25)).off + 20 + 4, none⟩ = some (.string b.pay.data) := ((Below.refl wr.heap.size wr).alloc (Nat.le_refl _) _).cell (p := ⟨(a.add (k * 25)).block, (a.add (k * 25)).off + 20 + 4, none⟩) (by show (a.add (k * 25)).block < _; rw [Addr.add_block]; have := Hbw.out.size; omega) |>.trans hc24
            have Hc24 := hide hc24'
            clear hp hc24 hc24' RFk
            go_upto_region 16 with (first
              | (with_reducible refine wpl_load_addr rfl 28 (.tmp 59) rfl (a.add (k * 25)) b.p.cells Hcp.out rfl _ Try.underlying28 rfl 19 info28 (by with_unfolding_all rfl) ?_)
              | (with_reducible refine wpl_store_last wr rfl 28 (.tmp 8) (.tmp 60) rfl 28 _ b.p.cells.toArray rfl rfl 19 info28 (pcells_size b.p) (by with_unfolding_all rfl) (pcells_one b.p) ?_; rw [← Hp.out]; generalize wr.alloc (.cells b.p.cells.toArray 28) = w5 at *))
            simp only [Act.put]
            have p0 : w5.cell? ⟨p, 0, none⟩ = some (.int .u64 (b.p.fl : Int)) := RB.out 0 _ rfl
            have p6 : w5.cell? ⟨p, 6, none⟩ = some (.int .i64 b.p.src.sch) := RB.out 6 _ rfl
            have p7 : w5.cell? ⟨p, 7, none⟩ = some (.string b.p.src.name) := RB.out 7 _ rfl
            have p8 : w5.cell? ⟨p, 8, none⟩ = some (.int .u64 (b.p.src.node : Int)) := RB.out 8 _ rfl
            have p9 : w5.cell? ⟨p, 9, none⟩ = some (.int .u64 (b.p.src.svc : Int)) := RB.out 9 _ rfl
            have p14 : w5.cell? ⟨p, 14, none⟩ = some (.int .u64 (b.p.time : Int)) := RB.out 14 _ rfl
            have p15 : w5.cell? ⟨p, 15, none⟩ = some (.int .u64 (b.p.seq : Int)) := RB.out 15 _ rfl
            have p17 : w5.cell? ⟨p, 17, none⟩ = some (.int .u64 (b.p.off : Int)) := RB.out 17 _ rfl
            have p18 : w5.cell? ⟨p, 18, none⟩ = some (.int .u64 (b.p.tot : Int)) := RB.out 18 _ rfl
            have q0 : w5.cell? ⟨q, 0, none⟩ = some (.int .u64 (f.p.fl : Int)) := RF2.out 0 _ rfl
            have q6 : w5.cell? ⟨q, 6, none⟩ = some (.int .i64 f.p.src.sch) := RF2.out 6 _ rfl
            have q7 : w5.cell? ⟨q, 7, none⟩ = some (.string f.p.src.name) := RF2.out 7 _ rfl
            have q8 : w5.cell? ⟨q, 8, none⟩ = some (.int .u64 (f.p.src.node : Int)) := RF2.out 8 _ rfl
            have q9 : w5.cell? ⟨q, 9, none⟩ = some (.int .u64 (f.p.src.svc : Int)) := RF2.out 9 _ rfl
            have q14 : w5.cell? ⟨q, 14, none⟩ = some (.int .u64 (f.p.time : Int)) := RF2.out 14 _ rfl
            have q15 : w5.cell? ⟨q, 15, none⟩ = some (.int .u64 (f.p.seq : Int)) := RF2.out 15 _ rfl
            have q18 : w5.cell? ⟨q, 18, none⟩ = some (.int .u64 (f.p.tot : Int)) := RF2.out 18 _ rfl
            have c24 := Hc24.out
            have nS : ∀ W, (binOp .neq 24 (.agg #[.int .i64 b.p.src.sch, .string b.p.src.name, .int .u64 (b.p.src.node : Int), .int .u64 (b.p.src.svc : Int)]) (.agg #[.int .i64 f.p.src.sch, .string f.p.src.name, .int .u64 (f.p.src.node : Int), .int .u64 (f.p.src.svc : Int)])).run Try.prog W = .ok (.bool (!b.p.src.eqB f.p.src)) W := fun W => neq24 b.p.src f.p.src W
            have nT := fun W => neq26 b.p.time b.p.seq f.p.time f.p.seq W
            have Hodd := hide (fun (hs : strangeB f b = true) => (show JoinsIs l ⟨#[]⟩ 6 from .inr (.inr (.inr ⟨f, r, Hf.out, HB.out, .inl ⟨List.any_eq_true.2 ⟨b, Hmem.out, hs⟩, rfl⟩⟩))))
            have HBe := hide (HBa.out.trans (Hb5.out.mono HBa.out.size))
            have Hsame := hide (Pr.sameB_iff b.p f.p)
            by_cases hA : b.p.fl % 2 = 1
            · have hAb : ((b.p.fl : Int) % 2 == 0) = false := beq_eq_false_iff_ne.2 (by omega)
              have hoff := check_off Hck.out hA
              have HA := hide hA
              clear hA
              cases hN : b.p.src.eqB f.p.src with
              | false =>
                rw [hN] at nS
                have Hs := hide (Hodd.out (strange_same (fun h => by have := (Nm.eqB_iff _ _).2 (Hsame.out.1 h).2.1; rw [hN] at this; cases this)))
                clear hN hoff Hodd Hsame HS2 Hck Hc24 hokb Hmem Hcp RB RF2 p14 p15 p17 p18 q0 q14 q15 q18 c24 nT
                go_quiet (fail)
                go_wp2
                go_ret2
                exact ⟨⟨#[]⟩, 6, rfl, Hs.out, bel_drewN HBe.out _⟩
              | true =>
                rw [hN] at nS
                have HN := hide ((Nm.eqB_iff _ _).1 hN)
                clear hN
                cases hT : ((b.p.time : Int) == (f.p.time : Int)) && ((b.p.seq : Int) == (f.p.seq : Int)) with
                | false =>
                  rw [hT] at nT
                  have Hs := hide (Hodd.out (strange_same (fun h => by have h2 := (Hsame.out.1 h).2.2; rw [h2.1, h2.2.1] at hT; simp at hT)))
                  clear hT hoff Hodd Hsame HS2 Hck Hc24 hokb Hmem Hcp RB RF2 p17 p18 q0 q18 c24
                  go_quiet (fail)
                  go_wp2
                  go_ret2
                  exact ⟨⟨#[]⟩, 6, rfl, Hs.out, bel_drewN HBe.out _⟩
                | true =>
                  rw [hT] at nT
                  rw [Bool.and_eq_true, beq_iff_eq, beq_iff_eq] at hT
                  have HT := hide (show b.p.time = f.p.time ∧ b.p.seq = f.p.seq by omega)
                  clear hT
                  by_cases hTo : b.p.tot = f.p.tot
                  · have hTob : ((b.p.tot : Int) != (f.p.tot : Int)) = false := by rw [hTo]; simp
                    by_cases hF : f.p.fl % 2 = 1
                    · have hFb : ((f.p.fl : Int) % 2 == 0) = false := beq_eq_false_iff_ne.2 (by omega)
                      have HsB := hide (Hsame.out.2 ⟨by rw [HA.out, hF], HN.out, HT.out.1, HT.out.2, hTo⟩)
                      have hsub : IntKind.u64.wrap ((b.p.tot : Int) - (b.p.off : Int)) = ((b.p.tot - b.p.off : Nat) : Int) := by rw [IntKind.wrap_u64]; have := hokb.out.tot; omega
                      have hsz : IntKind.u64.wrap (b.pay.data.size : Int) = (b.pay.data.size : Int) := by rw [IntKind.wrap_u64]; have := hokb.out.data; omega
                      have hts := hokb.out.tot
                      clear hTo hF
                      by_cases hZ : b.p.tot - b.p.off < b.pay.data.size
                      · have hZb : ((b.p.tot - b.p.off : Nat) : Int) < (b.pay.data.size : Int) := by omega
                        have Hs := hide (Hodd.out (by unfold strangeB; rw [decide_eq_true hZ]; simp))
                        clear hZ hoff Hodd Hsame HS2 Hck Hc24 hokb Hmem Hcp RB RF2
                        generalize b.p.tot - b.p.off = z at *
                        go_quiet (fail)
                        go_wp2
                        go_ret2
                        exact ⟨⟨#[]⟩, 6, rfl, Hs.out, bel_drewN HBe.out _⟩
                      · have hZb : ¬ ((b.p.tot - b.p.off : Nat) : Int) < (b.pay.data.size : Int) := by omega
                        by_cases hM : 65536 < b.p.tot
                        · have hMb : (65536 : Int) < (b.p.tot : Int) := by omega
                          have Hs := hide (Hodd.out (by unfold strangeB; rw [decide_eq_true hM]; simp))
                          clear hM hZ hoff Hodd Hsame HS2 Hck Hc24 hokb Hmem Hcp RB RF2
                          generalize b.p.tot - b.p.off = z at *
                          go_quiet (fail)
                          go_wp2
                          go_ret2
                          exact ⟨⟨#[]⟩, 6, rfl, Hs.out, bel_drewN HBe.out _⟩
                        · have hMb : ¬ (65536 : Int) < (b.p.tot : Int) := by omega
                          have Hns := hide (show (l.take (k + 1)).any (strangeB f) = false by rw [HS2.out]; unfold strangeB; rw [decide_eq_false hM, decide_eq_false hZ, HsB.out, decide_eq_true HA.out]; rfl)
                          clear hM hZ hoff Hodd Hsame HS2 Hck Hc24 hokb Hmem Hcp RB RF2
                          generalize b.p.tot - b.p.off = z at *
                          go_quiet (fail)
                          go_wp2
                          go_roundw
                          case rel => exact ⟨k + 1, by omega, by go_num, bel_drewN Hb5.out _, Hns⟩
                          case measure => simp [intOf]; omega
                    · have hFb : ((f.p.fl : Int) % 2 == 0) = true := beq_iff_eq.2 (by omega)
                      have Hs := hide (Hodd.out (strange_same (fun h => hF (by rw [← (Hsame.out.1 h).1]; exact HA.out))))
                      clear hF hTo hoff Hodd Hsame HS2 Hck Hc24 hokb Hmem Hcp RB RF2 p17 c24
                      go_quiet (fail)
                      go_wp2
                      go_ret2
                      exact ⟨⟨#[]⟩, 6, rfl, Hs.out, bel_drewN HBe.out _⟩
                  · have hTob : ((b.p.tot : Int) != (f.p.tot : Int)) = true := bne_iff_ne.2 (by omega)
                    have Hs := hide (Hodd.out (strange_same (fun h => hTo (Hsame.out.1 h).2.2.2.2)))
                    clear hTo hoff Hodd Hsame HS2 Hck Hc24 hokb Hmem Hcp RB RF2 p17 q0 c24
                    go_quiet (fail)
                    go_wp2
                    go_ret2
                    exact ⟨⟨#[]⟩, 6, rfl, Hs.out, bel_drewN HBe.out _⟩
            · have hAb : ((b.p.fl : Int) % 2 == 0) = true := beq_iff_eq.2 (by omega)
              have Hs := hide (Hodd.out (by unfold strangeB; rw [decide_eq_false hA]; rfl))
              clear hA Hodd Hsame HS2 Hck Hc24 hokb Hmem Hcp RB RF2 p6 p7 p8 p9 p14 p15 p17 p18 q0 q6 q7 q8 q9 q14 q15 q18 c24 nS nT
              go_quiet (fail)
              go_wp2
              go_ret2
              exact ⟨⟨#[]⟩, 6, rfl, Hs.out, bel_drewN HBe.out _⟩
          · have hlt' : ¬ (k : Int) < (n : Int) := by omega
            have Hany := hide (show l.any (strangeB f) = false by have := HS.out; rwa [List.take_of_length_le (by rw [← Hn.out]; omega)] at this)
            have HFit := hide (none_strange Hany.out HF0.out)
            have hTm : f.p.tot ≤ 65536 := (HFit.out f (by rw [Hf.out]; exact List.mem_cons_self)).most
            have hq6 : q < wr.heap.size := by omega
            clear HS hk hlt hzw Hb HBa RF hq2 Hp3 HC
            generalize wr = w6 at *
            have q18 : ∀ W, Below w6.heap.size w6 W → W.cell? ⟨q, 18, none⟩ = some (.int .u64 (f.p.tot : Int)) := fun W hb => (hb.cell (p := ⟨q, 18, none⟩) hq6).trans (RFk.out 18 _ rfl)
            have Hq18 := hide q18
            clear q18
            obtain ⟨T, hT⟩ : ∃ T, T = f.p.tot := ⟨_, rfl⟩
            have HT := hide hT
            rw [← HT.out] at Hq18 hTm
            clear hT
            go_wp2_with fail
            go_loopw [9, 10, 11, 12, 13, 14] (fun s9 s10 s11 s12 s13 s14 wr => ∃ x : Nat, x ≤ T ∧ s11 = .int .u64 (x : Int) ∧ Below w6.heap.size w6 wr ∧ ∃ (D : List UInt8) (hole : Bool), s9 = .string (str D) ∧ s10 = .bool hole ∧ Hid (JInv l x D hole)) (fun s9 s10 s11 s12 s13 s14 wr => T - (intOf s11).toNat)
            case atStart => exact ⟨0, Nat.zero_le _, rfl, Below.refl _ _, [], false, rfl, rfl, hide (JInv.nil l)⟩
            case round =>
              obtain ⟨x, hx, rfl, hb, D, hole, rfl, rfl, HJ⟩ := hrel
              have Hb := hide hb
              have hzw := hb.size
              have c18 := Hq18.out wr hb
              clear hb
              by_cases hxt : x < T
              · have hxt' : (x : Int) < (T : Int) := by omega
                go_wp2_with fail
                clear c18
                generalize wr = w7 at *
                go_loopw [12, 13, 14] (fun s12 s13 s14 wr => ∃ i : Nat, i ≤ n ∧ s13 = .int .i64 (i : Int) ∧ Below w7.heap.size w7 wr ∧ ∃ c : Option UInt8, s12 = cval c ∧ Hid (CInv l x i c)) (fun s12 s13 s14 wr => n - (intOf s13).toNat)
                case atStart => exact ⟨0, Nat.zero_le _, rfl, Below.refl _ _, none, rfl, hide (CInv.nil l x)⟩
                case round =>
                  obtain ⟨i, hi, rfl, hb2, c1, rfl, HI⟩ := hrel
                  have Hb2 := hide hb2
                  have hzw2 := hb2.size
                  clear hb2
                  have Hbw2 := hide (Hbw.out.trans ((Hb.out.trans (Hb2.out.mono hzw)).mono Hbw.out.size))
                  by_cases hlt : i < n
                  · have hlt' : (i : Int) < (n : Int) := by omega
                    have hkl : i < l.length := by rw [← Hn.out]; exact hlt
                    obtain ⟨a', ha', hab, hca⟩ := (Hl.out.below (Hbw2.out.mono hB)).elem (f := Bn.cells) (m := 25) Bn.cells_len hkl (by omega)
                    cases ha'
                    have hokb := hide (Hok.out l[i] (List.getElem_mem hkl))
                    have Hmem := hide (List.getElem_mem hkl)
                    have Htk := hide (show l.take (i + 1) = l.take i ++ [l[i]] from List.take_succ_eq_append_getElem hkl)
                    have hfit := HFit.out l[i] (List.getElem_mem hkl)
                    have Hca := hide hca
                    clear hca
                    generalize l[i] = b at *
                    have hoT : b.p.off < T := by rw [HT.out]; exact hfit.off
                    clear hfit
                    have FI := hide (in_any b x wr (by omega) (by have := hokb.out.data; omega))
                    cases hh : b.has x with
                    | false =>
                      rw [hh] at FI
                      have HI2 := hide (show CInv l x (i + 1) c1 from HI.out.skip Htk.out hh)
                      clear HI hh
                      generalize hcv : cval c1 = cv at *
                      have Hcv := hide hcv
                      clear hcv
                      go_wp2_with (with_reducible refine wpl_load_addr rfl 33 (.tmp 127) rfl (a.add (i * 25)) b.cells Hca.out rfl _ Try.underlying33 rfl 25 info33 (by with_unfolding_all rfl) ?_)
                      refine FI.out.mono ?_
                      rintro e w8 ⟨rfl, hb3⟩
                      have Hb8 := hide (Hb2.out.trans (hb3.mono hzw2))
                      clear hb3 FI Hca
                      go_wp2
                      go_roundw
                      case rel => exact ⟨i + 1, by omega, by go_num, Hb8.out, c1, Hcv.out.symm, HI2⟩
                      case measure => simp [intOf]; omega
                    | true =>
                      rw [hh] at FI
                      have hin := (has_iff b x).1 hh
                      have hbl := bytes_len b
                      have Hby := hide (byte_at b x hh)
                      have Hh := hide hh
                      clear hh
                      generalize hcv : cval c1 = cv at *
                      have Hcv := hide hcv
                      clear hcv
                      go_wp2_with (with_reducible refine wpl_load_addr rfl 33 (.tmp 127) rfl (a.add (i * 25)) b.cells Hca.out rfl _ Try.underlying33 rfl 25 info33 (by with_unfolding_all rfl) ?_)
                      refine FI.out.mono ?_
                      rintro e w8 ⟨rfl, hb3⟩
                      have hba : (a.add (i * 25)).block < wr.heap.size := by rw [Addr.add_block]; have := Hbw2.out.size; omega
                      have c17 : w8.cell? ⟨(a.add (i * 25)).block, (a.add (i * 25)).off + 17, none⟩ = some (.int .u64 (b.p.off : Int)) := (hb3.cell (p := ⟨(a.add (i * 25)).block, (a.add (i * 25)).off + 17, none⟩) hba).trans (Hca.out 17 _ rfl)
                      have c24 : w8.cell? ⟨(a.add (i * 25)).block, (a.add (i * 25)).off + 20 + 4, none⟩ = some (.string b.pay.data) := (hb3.cell (p := ⟨(a.add (i * 25)).block, (a.add (i * 25)).off + 20 + 4, none⟩) hba).trans (Hca.out 24 _ rfl)
                      have Hb8 := hide (Hb2.out.trans (hb3.mono hzw2))
                      have HbE := hide (Hbw2.out.trans (hb3.mono Hbw2.out.size))
                      have hsub : IntKind.u64.wrap ((x : Int) - (b.p.off : Int)) = ((x - b.p.off : Nat) : Int) := by rw [IntKind.wrap_u64]; omega
                      have hlt2 : ((x - b.p.off : Nat) : Int) < (b.pay.data.size : Int) := by omega
                      have hlt3 : x - b.p.off < b.pay.data.size := by omega
                      generalize x - b.p.off = z at *
                      clear hb3 FI Hca hba hin
                      obtain ⟨u, hu⟩ : ∃ u, u = b.byte x := ⟨_, rfl⟩
                      have hw : wrap64 ((b.pay.data[z]'hlt3).toNat : Int) = (u.toNat : Int) := by
                        have h1 := Hby.out
                        rw [← hu] at h1
                        obtain ⟨h2, h3⟩ := List.getElem?_eq_some_iff.1 h1
                        have h4 : b.pay.data[z]'hlt3 = u := h3
                        rw [h4, wr64 (by have := u.toNat_lt; omega)]
                      have Hw := hide hw
                      clear hw Hby
                      go_upto_region 28 with fail
                      go_quiet (fail)
                      rw [Hw.out]
                      have Hb9 := hide (bel_drewN (B := w7.heap.size) Hb8.out nq)
                      have HbE9 := hide (bel_drewN (B := w.heap.size) HbE.out nq)
                      generalize w8.drewN nq = w9 at *
                      clear c17 c24 hsub Hw Hb8 HbE
                      cases c1 with
                      | none =>
                        have HI2 := hide (show CInv l x (i + 1) (some u) by rw [hu]; exact HI.out.first Htk.out Hh.out)
                        obtain rfl : cv = .int .i64 (-1) := Hcv.out.symm
                        clear HI hu
                        go_wp2
                        go_roundw
                        case rel => exact ⟨i + 1, by omega, by go_num, Hb9.out, some u, rfl, HI2⟩
                        case measure => simp [intOf]; omega
                      | some v =>
                        obtain rfl : cv = .int .i64 (v.toNat : Int) := Hcv.out.symm
                        have hv0 : (0 : Int) ≤ (v.toNat : Int) := by omega
                        by_cases huv : u = v
                        · have HI2 := hide (show CInv l x (i + 1) (some u) by rw [hu]; exact HI.out.again Htk.out (by rw [← hu]; exact huv))
                          have hneb : ((v.toNat : Int) != (u.toNat : Int)) = false := by rw [huv]; simp
                          clear HI hu huv
                          go_wp2
                          go_roundw
                          case rel => exact ⟨i + 1, by omega, by go_num, Hb9.out, some u, rfl, HI2⟩
                          case measure => simp [intOf]; omega
                        · have HCl := hide (HI.out.clash Hmem.out Hh.out (by rw [← hu]; exact huv))
                          have hneb : ((v.toNat : Int) != (u.toNat : Int)) = true := bne_iff_ne.2 (fun h => huv (UInt8.toNat_inj.1 (by omega)))
                          clear HI hu huv
                          go_wp2
                          go_ret2
                          exact ⟨⟨#[]⟩, 6, rfl, .inr (.inr (.inr ⟨f, r, Hf.out, HB.out, .inr ⟨Hany.out, .inl ⟨HCl.out, rfl⟩⟩⟩)), HbE9.out⟩
                  · have hlt' : ¬ (i : Int) < (n : Int) := by omega
                    have hil : l.take i = l := List.take_of_length_le (by rw [← Hn.out]; omega)
                    have Hb3 := hide (Hb.out.trans (Hb2.out.mono hzw))
                    have hz3 := Hb3.out.size
                    have Hx1 := hide (show IntKind.u64.wrap ((x : Int) + 1) = ((x + 1 : Nat) : Int) by rw [IntKind.wrap_u64]; omega)
                    clear Hb2 hzw2 Hbw2
                    generalize wr = w8 at *
                    cases c1 with
                    | none =>
                      have HJ2 := hide (HJ.out.hole HI.out hil)
                      clear HI hil HJ
                      simp only [cval]
                      cases hole with
                      | true =>
                        go_wp2
                        go_roundw
                        case rel => exact ⟨x + 1, by omega, by go_num, Hb3.out, D, true, rfl, rfl, HJ2⟩
                        case measure => simp [intOf]; omega
                      | false =>
                        go_wp2
                        go_roundw
                        case rel => exact ⟨x + 1, by omega, by go_num, Hb3.out, D, true, rfl, rfl, HJ2⟩
                        case measure => simp [intOf]; omega
                    | some u =>
                      have HJ2 := hide (HJ.out.more HI.out hil)
                      have hDl := HJ.out.len
                      clear HI hil HJ
                      simp only [cval]
                      have hv0 : (0 : Int) ≤ (u.toNat : Int) := by omega
                      have hvn : ¬ (u.toNat : Int) < 0 := by omega
                      have hwu : IntKind.u8.wrap (u.toNat : Int) = (u.toNat : Int) := by rw [IntKind.wrap_u8]; have := u.toNat_lt; omega
                      have hst := strU8 (n := 1) 1 (Lies.fresh w8 [u] 5 (0, 0) #[.int .u8 (u.toNat : Int)] rfl w8.heap.size (w8.heap.size + 1) rfl (by omega)) rfl
                      have hcat : ¬ 9223372036854775807 < (str D).size + (str [u]).size := by rw [str_size, str_size]; simp; omega
                      have happ := str_app D [u]
                      have Hb4 := hide (Hb3.out.alloc hz3 (.cells #[.int .u8 (u.toNat : Int)] 5))
                      cases hole with
                      | true =>
                        go_wp2
                        go_roundw
                        case rel => exact ⟨x + 1, by omega, by go_num, Hb4.out, D ++ [u], true, by rw [← happ], rfl, HJ2⟩
                        case measure => simp [intOf]; omega
                      | false =>
                        go_wp2
                        go_roundw
                        case rel => exact ⟨x + 1, by omega, by go_num, Hb4.out, D ++ [u], false, by rw [← happ], rfl, HJ2⟩
                        case measure => simp [intOf]; omega
              · have hxt' : ¬ (x : Int) < (T : Int) := by omega
                obtain rfl : x = T := by omega
                have HE := hide (HJ.out.ends (fun b hb y hy => by have := (HFit.out b hb).end_; have := (has_iff b y).1 hy; rw [HT.out]; omega))
                have HbE := hide (Hbw.out.trans (Hb.out.mono Hbw.out.size))
                generalize wr = w9 at *
                cases hole with
                | true =>
                  go_wp2
                  go_ret2
                  exact ⟨⟨#[]⟩, 8, rfl, .inr (.inr (.inr ⟨f, r, Hf.out, HB.out, .inr ⟨Hany.out, .inr (.inl ⟨HE.out.1, by rw [← HT.out]; exact HE.out.2.1 (by first | exact rfl | trivial), rfl⟩)⟩⟩)), HbE.out⟩
                | false =>
                  go_wp2
                  go_ret2
                  exact ⟨str D, 0, rfl, .inr (.inr (.inr ⟨f, r, Hf.out, HB.out, .inr ⟨Hany.out, .inr (.inr ⟨HE.out.1, by rw [← HT.out]; exact (HE.out.2.2 (by first | exact rfl | trivial)).1, rfl, D, rfl, by rw [← HT.out]; exact (HE.out.2.2 (by first | exact rfl | trivial)).2.1, (HE.out.2.2 (by first | exact rfl | trivial)).2.2⟩)⟩⟩)), HbE.out⟩

end Go.Proofs.Ytlbgcbekjjkokaa
