/-
  A PAGE's BUFFER: bytes of the call's own that are written over; zeros.Ones as a buffer; page.onto and its closure.
-/
import Derived.Test.YtahipfmokbiklaaOnes
import Derived.Test.YtahipfmokbiklaaPgM
import Derived.Test.YtahipfmokbiklaaTch
import Derived.Test.YtahipfmokbiklaaPgC
import Derived.Lib.LazyBuf
namespace Go.Proofs.Ytahipfmokbiklaa
open Go.RowKit

/-- A call in a region that draws. -/
theorem step_callP {P : Program} {w : World} {ops : Array Oper} {o : Oper} {a : Act} {K : Act → World → Prop} {Q : Exit → Act → World → Prop} {F : Prop} (hgd : o.guard = none) {f : FuncId} {args : Array Value} (hr : (execOp a.eval o).run P w = .ok (.enter f args) w)
    (hc : Calls P f args w fun e w' => ∃ v, e = .returned v ∧ K (a.put o.dst v) w') : if Region.wanted o (yielded ops a.tmps) = true then Oper.wp P o a w K Q else F := by
  have hw : Region.wanted o (yielded ops a.tmps) = true := by simp [Region.wanted, hgd]
  rw [if_pos hw]
  unfold Oper.wp
  rw [hr]
  refine hc.mono ?_
  rintro e w' ⟨v, rfl, h⟩
  exact h
theorem results_cell1P {fn : Func} {p : Tmp} {ty : TypeId} (h : fn.results = #[.cell p ty]) (tmps : Array Value) (P : Program) (w : World) :
    (results fn tmps).run P w = ((asAddr (tmps.getD p undef)).run P w).andThen fun a w₁ => (loadVar ty a).run P w₁ := by
  simp only [results, h]
  simp [Sem.run_bind, Result.andThen]
theorem add_offP (x : Addr) (n : Nat) : x.add (n + 1) = ⟨x.block, x.off + (n + 1), none⟩ := by
  unfold Addr.add; simp
/-- Block g holds the bytes l, which can be written over. -/
structure Buf (W : World) (g : Nat) (l : List UInt8) : Prop where
  lt : g < W.heap.size
  cell : ∀ j u, (bys l)[j]? = some u → W.cell? ⟨g, j, none⟩ = some u
  free : ∀ j, j < l.length → W.frozen? ⟨g, j, none⟩ = false
theorem at0 (g j : Nat) : (⟨g, 0, none⟩ : Addr).add j = ⟨g, j, none⟩ := by unfold Addr.add; split <;> simp_all
theorem frozen_same {W W' : World} {a : Addr} (h : W'.heap[a.block]? = W.heap[a.block]?) : W'.frozen? a = W.frozen? a := by
  unfold World.frozen?
  rw [h]
section
variable {W W' : World} {g : Nat} {l : List UInt8}
theorem Buf.kept (h : Buf W g l) (hs : W.heap.size ≤ W'.heap.size) (hb : W'.heap[g]? = W.heap[g]?) : Buf W' g l :=
  ⟨Nat.lt_of_lt_of_le h.lt hs, fun j u hu => (World.cell?_of_block (w := W) (a := ⟨g, j, none⟩) hb).trans (h.cell j u hu), fun j hj => (frozen_same (a := ⟨g, j, none⟩) hb).trans (h.free j hj)⟩
theorem Buf.below (h : Buf W g l) (hb : Below W.heap.size W W') : Buf W' g l := h.kept hb.size (hb.block g h.lt)
theorem Buf.lies (h : Buf W g l) : Lies W W.heap.size (some ⟨g, 0, none⟩) (bys l) :=
  .inr ⟨_, rfl, h.lt, fun j u hu => by rw [at0]; exact h.cell j u hu⟩
/-- Bytes laid over others, from a place on. -/
def over (l : List UInt8) (o : Nat) (b : List UInt8) : List UInt8 := l.take o ++ b ++ l.drop (o + b.length)
theorem over_len (l b : List UInt8) (o : Nat) (h : o + b.length ≤ l.length) : (over l o b).length = l.length := by
  simp only [over, List.length_append, List.length_take, List.length_drop]; omega
theorem over_at (l b : List UInt8) (o j : Nat) (h : o + b.length ≤ l.length) (u : Value) (hu : (bys (over l o b))[j]? = some u) : (o ≤ j ∧ j < o + b.length ∧ (bys b)[j - o]? = some u) ∨ ((j < o ∨ o + b.length ≤ j) ∧ (bys l)[j]? = some u) := by
  unfold over at hu
  rw [bys_app, bys_app, bys_take, bys_drop] at hu
  have h1 : ((bys l).take o).length = o := by rw [List.length_take, bys_len]; omega
  by_cases c1 : j < o
  · right
    refine ⟨.inl c1, ?_⟩
    rw [List.append_assoc, List.getElem?_append_left (by omega), List.getElem?_take, if_pos c1] at hu
    exact hu
  · by_cases c2 : j < o + b.length
    · left
      refine ⟨by omega, c2, ?_⟩
      rw [List.append_assoc, List.getElem?_append_right (by omega), h1, List.getElem?_append_left (by rw [bys_len]; omega)] at hu
      exact hu
    · right
      refine ⟨.inr (by omega), ?_⟩
      rw [List.append_assoc, List.getElem?_append_right (by omega), h1, List.getElem?_append_right (by rw [bys_len]; omega), bys_len, List.getElem?_drop] at hu
      rw [← hu]
      congr 1
      omega
theorem Buf.set (h : Buf W g l) (o : Nat) (b : List UInt8) (hb : o + b.length ≤ l.length) : Buf (W.setCells g o (bys b)) g (over l o b) ∧ Tch [g] W (W.setCells g o (bys b)) := by
  have there : ∀ j, j < l.length → (W.cell? ⟨g, j, none⟩).isSome = true := fun j hj => by rw [h.cell j _ (bys_at l j hj)]; rfl
  have hin := World.cell?_setCells_in g (bys b) o W (fun j hj => by rw [bys_len] at hj; exact there _ (by omega))
  have hout := World.cell?_setCells_out g (bys b) o W
  have ht := Tch.setCells (S := [g]) (k := g) (by simp) (bys b) o W
  refine ⟨⟨Nat.lt_of_lt_of_le h.lt ht.size, fun j u hu => ?_, fun j hj => by rw [World.frozen?_setCells]; rw [over_len l b o hb] at hj; exact h.free j hj⟩, ht⟩
  rcases over_at l b o j hb u hu with ⟨h1, h2, h3⟩ | ⟨h1, h3⟩
  · obtain ⟨d, rfl⟩ : ∃ d, j = o + d := ⟨j - o, by omega⟩
    rw [hin d (by rw [bys_len]; omega)]
    rw [show o + d - o = d by omega] at h3
    exact (List.getElem?_eq_getElem _).symm.trans h3
  · rw [hout ⟨g, j, none⟩ (fun _ _ => by rw [bys_len]; exact h1)]
    exact h.cell j u h3
/-- copy of bytes into a buffer. -/
theorem Buf.copy (h : Buf W g l) (o : Nat) (b : List UInt8) (hb : o + b.length ≤ l.length) (A : Option Addr) (n c dl dc B : Nat) (hl : Lies W B A (bys b)) (hn : n = b.length) (h0 : 0 < b.length) (hd : b.length ≤ dl) :
    ∃ W', (Builtin.copy_ #[65, 65] 3 #[.slice (some ⟨g, o, none⟩) dl dc, .slice A n c]).run Try.prog W = .ok (.int .i64 (b.length : Int)) W' ∧ Buf W' g (over l o b) ∧ Tch [g] W W' := by
  rcases hl with h1 | ⟨a, rfl, _, hc⟩
  · have h2 : b.length = 0 := by rw [← bys_len, h1]; rfl
    omega
  have there : ∀ j, j < l.length → (W.cell? ⟨g, j, none⟩).isSome = true := fun j hj => by rw [h.cell j _ (bys_at l j hj)]; rfl
  have hinfo : (Try.prog.info? 5).map (·.size) = some 1 := by kernel_rfl
  have hr := run_copy_cells (P := Try.prog) W 65 65 3 5 g o dl dc a n c (bys b) Try.underlying65 hinfo (by rw [bys_len, hn]; exact (Nat.min_eq_left hd).symm)
    hc (fun j hj => by rw [bys_len] at hj; exact there _ (by omega)) (fun j hj => by rw [bys_len] at hj; exact h.free _ (by omega)) (bys_one b)
  rw [bys_len] at hr
  exact ⟨_, hr, h.set o b hb⟩
/-- .. of a string. -/
theorem Buf.copyS (h : Buf W g l) (o : Nat) (b : List UInt8) (hb : o + b.length ≤ l.length) (dl dc : Nat) (hd : b.length ≤ dl) :
    ∃ W', (Builtin.copy_ #[65, 9] 3 #[.slice (some ⟨g, o, none⟩) dl dc, .string (str b)]).run Try.prog W = .ok (.int .i64 (b.length : Int)) W' ∧ Buf W' g (over l o b) ∧ Tch [g] W W' := by
  have there : ∀ j, j < l.length → (W.cell? ⟨g, j, none⟩).isSome = true := fun j hj => by rw [h.cell j _ (bys_at l j hj)]; rfl
  have hz : ∀ w, (Go.sizeOf 5).run Try.prog w = .ok 1 w := fun w => by
    have hinfo : (Try.prog.info? 5).map (·.size) = some 1 := by kernel_rfl
    cases hq : Try.prog.info? 5 with
    | none => simp [hq] at hinfo
    | some i => simp [hq] at hinfo; simp [Go.sizeOf, typeInfo, hq, hinfo]
  have hsz := str_size b
  have hr := run_copy_string (P := Try.prog) W 65 9 3 5 g o dl dc (str b) Try.underlying65 hz (by rw [hsz]; exact hd) (fun j hj => there _ (by omega)) (fun j hj => h.free _ (by omega))
  rw [hsz] at hr
  have e : ((str b).data.toList.map fun x => Value.int .u8 (x.toNat : Int)) = bys b := by simp [str, bys]
  rw [e] at hr
  exact ⟨_, hr, h.set o b hb⟩
end
theorem Fills.buf {w0 wr : World} {h x : Nat} (f : Fills w0 wr h x x) : Buf wr h (List.replicate x 255) :=
  ⟨f.size, fun j u hu => by
    have hj : j < x := by
      have := (List.getElem?_eq_some_iff.1 hu).1
      rwa [bys_len, List.length_replicate] at this
    rw [f.holds j hj, ← hu]
    simp [bys, hj], fun j hj => f.free j (by rwa [List.length_replicate] at hj)⟩
set_option maxRecDepth 4000 in
set_option maxHeartbeats 2000000 in
theorem repeat_buf (a : Addr) (c x : Nat) (w : World) (hc : w.cell? a = some (.int .u8 255)) (h1 : 1 ≤ x) (h2 : x ≤ 1048576) :
    Calls Try.prog 68 #[.slice (some a) 1 c, .int .i64 (x : Int)] w fun e w' => ∃ c', e = .returned (.slice (some ⟨w.heap.size, 0, none⟩) x c') ∧ x ≤ c' ∧ Buf w' w.heap.size (List.replicate x 255) ∧ Below w.heap.size w w' := by
  have hx0 : ((x : Int) == 0) = false := by rw [beq_eq_false_iff_ne]; omega
  have hx1 : ¬ (x : Int) < 0 := by omega
  have b4 : IntKind.u64.wrap (x : Int) = (x : Int) := IntWalk.u64_in _ (by omega)
  have b6 : ¬ (9223372036854775807 : Int) < (x : Int) := by omega
  have hinfo : (Try.prog.info? 5).map (·.size) = some 1 := by kernel_rfl
  obtain ⟨cs, hrunM, hle, _⟩ := Lib.run_makeNoZero (P := Try.prog) w #[3] 65 5 Try.underlying65 x (by omega)
  have hcall : (callFunc 83 #[.int .i64 (x : Int)]).run Try.prog w = .ok (.value (.slice (some ⟨w.heap.size, 0, none⟩) x cs.size)) ((w.alloc (.cells cs 5)).drewN 2) := by
    rw [run_callFunc_extern Try.func83 (by kernel_rfl) (by kernel_rfl) (by kernel_rfl) (e := Extern.BytealgMakeNoZero.makeNoZero #[3] #[65]) (by kernel_rfl), hrunM]
    rfl
  clear hrunM
  have F0 := Fills.start w cs 5 x hle
  obtain ⟨w1, hr1, F1⟩ := Fills.copy (P := Try.prog) F0 65 3 5 Try.underlying65 hinfo (by omega) a 1 c (fun j hj => by
    obtain rfl : j = 0 := by omega
    have e : a.add 0 = a := by unfold Addr.add; simp
    rw [e, F0.below.cell (World.block_lt_of_cell? w a hc)]
    exact hc) 0 rfl x x rfl
  rw [show min 1 (x - 0) = 1 by omega] at hr1 F1
  have HF1 := hide F1
  clear F0 F1
  have i1 : (x : Int) ≤ (cs.size : Int) := by omega
  by_cases hbig : (8192 : Int) < (x : Int)
  all_goals
    go_enter Try.func68, Try.ntmps68
    go_wp2_with fail
    refine (mul_one x _ h2).mono ?_
    rintro e w2 ⟨rfl, rfl⟩
    go_wp2_with (at_builtin; refine wpl_copy _ rfl _ _ 65 65 rfl _ _ rfl rfl hr1 ?_)
    clear hr1 hcall
    go_loopw [10] (fun q wr => ∃ p : Nat, 1 ≤ p ∧ p ≤ x ∧ q = .int .i64 (p : Int) ∧ Hid (Fills w wr w.heap.size x p)) (fun q _ => x - (intOf q).toNat)
    case atStart => exact ⟨1, Nat.le_refl _, h1, rfl, HF1⟩
    case round =>
      obtain ⟨p, hp1, hpx, rfl, HF⟩ := hrel
      by_cases hlt : p < x
      · have h3 : (p : Int) < (x : Int) := by omega
        have hne : ¬ x = p := by omega
        have hcell : ∀ j, j < p → wr.drew.cell? ((⟨w.heap.size, 0, none⟩ : Addr).add j) = some (.int .u8 255) := fun j hj => by
          have e : (⟨w.heap.size, 0, none⟩ : Addr).add j = ⟨w.heap.size, j, none⟩ := by unfold Addr.add; split <;> simp_all
          rw [e]
          exact HF.out.drew.holds j (by omega)
        have Hcell := hide hcell
        clear hcell
        by_cases hm : p ≤ 8192
        · have hm0 : ¬ (8192 : Int) < (p : Int) := by omega
          obtain ⟨w2, hr2, F2⟩ := Fills.copy (P := Try.prog) HF.out.drew 65 3 5 Try.underlying65 hinfo hlt ⟨w.heap.size, 0, none⟩ p x Hcell.out p rfl (x - p) (x - p) rfl
          obtain ⟨m, hm1⟩ : ∃ m, m = min p (x - p) := ⟨_, rfl⟩
          rw [← hm1] at hr2 F2
          have HF2 := hide F2
          have hm2 : p + m ≤ x ∧ 1 ≤ m := by omega
          have hsum : IntKind.i64.wrap ((p : Int) + (m : Int)) = (p : Int) + (m : Int) := IntWalk.i64_in _ (by omega)
          clear F2 hm1
          go_wp2
          go_region_law (refine step_copyrun rfl (.tmp 70) (.tmp 73) 65 65 rfl hr2 (by simp [Act.eval, Act.put]) (by simp [Act.eval, Act.put]) ?_)
          all_goals
            go_wp2
            go_simp
            go_roundw
            case rel => exact ⟨p + m, by omega, by omega, by go_num, HF2⟩
            case measure => simp [intOf]; omega
        · first
          | (exfalso; omega)
          | (have hm0 : (8192 : Int) < (p : Int) := by omega
             have hm9 : (8192 : Int) ≤ (x : Int) := by omega
             obtain ⟨w2, hr2, F2⟩ := Fills.copy (P := Try.prog) HF.out.drew 65 3 5 Try.underlying65 hinfo hlt ⟨w.heap.size, 0, none⟩ 8192 x (fun j hj => Hcell.out j (by omega)) p rfl (x - p) (x - p) rfl
             obtain ⟨m, hm1⟩ : ∃ m, m = min 8192 (x - p) := ⟨_, rfl⟩
             rw [← hm1] at hr2 F2
             have HF2 := hide F2
             have hm2 : p + m ≤ x ∧ 1 ≤ m := by omega
             have hsum : IntKind.i64.wrap ((p : Int) + (m : Int)) = (p : Int) + (m : Int) := IntWalk.i64_in _ (by omega)
             clear F2 hm1
             go_wp2
             go_region_law (refine step_copyrun rfl (.tmp 70) (.tmp 73) 65 65 rfl hr2 (by simp [Act.eval, Act.put]) (by simp [Act.eval, Act.put]) ?_)
             all_goals
               go_wp2
               go_simp
               go_roundw
               case rel => exact ⟨p + m, by omega, by omega, by go_num, HF2⟩
               case measure => simp [intOf]; omega)
      · obtain rfl : p = x := by omega
        go_wp2
        go_ret
        exact ⟨_, rfl, Nat.le_refl _, HF.out.buf, HF.out.below⟩

/-- Ones of a page's first part, as a buffer. -/
theorem ones_buf (w : World) : Calls Try.prog 45 #[.int .i64 252] w fun e w' => ∃ g c', e = .returned (.slice (some ⟨g, 0, none⟩) 252 c') ∧ 252 ≤ c' ∧ w.heap.size ≤ g ∧ Buf w' g (List.replicate 252 255) ∧ Below w.heap.size w w' := by
  have Hw : Hid (∀ c, Calls Try.prog 68 #[.slice (some ⟨w.heap.size, 0, none⟩) 1 c, .int .i64 252] (w.alloc (.cells #[.int .u8 255] 5)) fun e w' => ∃ c', e = .returned (.slice (some ⟨w.heap.size + 1, 0, none⟩) 252 c') ∧ 252 ≤ c' ∧ Buf w' (w.heap.size + 1) (List.replicate 252 255) ∧ Below (w.heap.size + 1) (w.alloc (.cells #[.int .u8 255] 5)) w') := hide (fun c => by
    have := repeat_buf ⟨w.heap.size, 0, none⟩ c 252 (w.alloc (.cells #[.int .u8 255] 5)) (by simp) (by omega) (by omega)
    rw [show (w.alloc (.cells #[.int .u8 255] 5)).heap.size = w.heap.size + 1 by simp] at this
    exact this)
  have Hb := hide ((Below.refl w.heap.size w).alloc (Nat.le_refl _) (.cells #[.int .u8 255] 5))
  go_enter Try.func45, Try.ntmps45
  go_wp2_with fail
  (with_reducible refine (Hw.out _).mono ?_)
  rintro e w1 ⟨c', rfl, hc, hbuf, hb⟩
  have H1 := hide hbuf
  have H2 := hide hb
  have H3 := hide hc
  clear hbuf hb hc
  go_wp2
  go_ret
  exact ⟨_, c', rfl, H3.out, Nat.le_succ _, H1.out, Hb.out.trans (H2.out.mono (Nat.le_succ _))⟩
/-- A number's bytes, by themselves. -/
theorem putn_any (k x : Nat) (w : World) (h1 : 1 ≤ k) (h8 : k ≤ 8) : Calls Try.prog 74 #[.slice none 0 0, .int .i64 (k : Int), .int .u64 (x : Int)] w fun e w' => ∃ A c, e = .returned (.slice A k c) ∧ Lies w' w'.heap.size A (bys (beB k x)) ∧ Below w.heap.size w w' := by
  refine (put_any none 0 0 0 [] (k : Int) (x : Int) w Lies.nil rfl (by omega) (by omega)).mono ?_
  rintro e w' ⟨v', rfl, ho, hb⟩
  rw [show (min (max (k : Int) 0) 8).toNat = k by omega, Int.toNat_natCast, Nat.zero_add, List.nil_append] at ho
  obtain ⟨A, c, rfl, _⟩ := own_form ho
  exact ⟨A, c, rfl, Lies.of_own ho, hb⟩
theorem ponto_any (A : Option Addr) (n c : Nat) (w : World) : Calls Try.prog 51 #[.slice A n c] w fun e w' => e = .returned (.func (.func 73) #[] #[.pointer (some ⟨w.heap.size + 1, 0, none⟩), .pointer (some ⟨w.heap.size, 0, none⟩)]) ∧
    (w.alloc (.cells #[.slice A n c] 65)).alloc (.cells #[.int .i64 0] 3) = w' := by
  go_enter Try.func51, Try.ntmps51
  go_wp2
  go_ret
  exact ⟨rfl, rfl⟩
end Go.Proofs.Ytahipfmokbiklaa
