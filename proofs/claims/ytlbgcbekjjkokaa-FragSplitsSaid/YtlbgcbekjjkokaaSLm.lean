/-
  FragSplits: facts ahead of its walk: whole structs loaded where a region only reads; the numbers of a round of its loop.
-/
import Derived.Test.YtlbgcbekjjkokaaOpn
namespace Go.Proofs.Ytlbgcbekjjkokaa
open Go.RowKit Go.Sort

/-- A whole struct loaded in a region that only reads. -/
theorem quiet_load_addr {P : Program} {ops : Array Oper} {rest : List Oper} {op : Oper} {a : Act} {C : World → Prop} {Q : Act → Prop} (hw : Region.wanted op (yielded ops a.tmps) = true) (ty : TypeId) (x : Operand) (ho : op.op = .load ty x) (p : Addr) (cs : List Value) (hc : ∀ w, C w → ∀ j v, cs[j]? = some v → w.cell? (p.add j) = some v)
    (hx : a.eval x = .pointer (some p)) (d : TypeDesc) (hu : P.underlying ty = some d) (hd : d.isRow = true) (n : Nat) (hi : (P.info? ty).map (·.size) = some n) (hn : cs.length = n)
    (h : wpQuiet P ops C Q rest (a.put op.dst (.agg cs.toArray))) : wpQuiet P ops C Q (op :: rest) a := by
  refine BigFrame.wpQuiet_want hw (fun K hK => ?_)
  refine ⟨.agg cs.toArray, fun w hC => ?_, hK _ h⟩
  unfold Oper.quietAt
  rw [exec_load_addr ty x ho p cs (hc w hC) hx hu hd hi hn]
  exact ⟨rfl, rfl⟩
theorem quiet_load_now {P : Program} {op : Oper} {a : Act} {C : World → Prop} {K : Act → Prop} (ty : TypeId) (x : Operand) (ho : op.op = .load ty x) (p : Addr) (cs : List Value) (hc : ∀ w, C w → ∀ j v, cs[j]? = some v → w.cell? (p.add j) = some v)
    (hx : a.eval x = .pointer (some p)) (d : TypeDesc) (hu : P.underlying ty = some d) (hd : d.isRow = true) (n : Nat) (hi : (P.info? ty).map (·.size) = some n) (hn : cs.length = n)
    (h : K (a.put op.dst (.agg cs.toArray))) : op.quiet P a C K := by
  refine ⟨.agg cs.toArray, fun w hC => ?_, h⟩
  unfold Oper.quietAt
  rw [exec_load_addr ty x ho p cs (hc w hC) hx hu hd hi hn]
  exact ⟨rfl, rfl⟩
theorem p_cells {P : Bn} {j : Nat} {v : Value} (h : P.p.cells[j]? = some v) : P.cells[j]? = some v := by
  have h1 : j < P.p.cells.length := (List.getElem?_eq_some_iff.1 h).1
  show (P.p.cells ++ [.slice P.A P.n P.c, .int .u64 (P.pay.ty : Int), .int .u64 (P.pay.num : Int), .int .u64 (P.pay.fl : Int), .int .i64 P.pay.crc, .string P.pay.data])[j]? = some v
  rw [List.getElem?_append_left h1]
  exact h
theorem fl_four {fl r : Nat} (h : fl < 18446744073709551616) (e : fl / 4 % 2 = r) : (IntKind.u64.wrap ((fl : Int) / 4)).tmod 2 = (r : Int) := by
  have h1 : IntKind.u64.wrap ((fl : Int) / 4) = ((fl / 4 : Nat) : Int) := by rw [IntKind.wrap_u64]; omega
  rw [h1, ← e]
  rfl
theorem sameN_back (b : Bn) (A : Option Addr) (c : Nat) : Bn.sameN { b with A := A, c := c } b = true := by
  unfold Bn.sameN
  show (b.p.eqB b.p && (b.pay.eqB b.pay && (decide (b.n = b.n) && sameAll b.bs b.bs))) = true
  rw [(Pr.eqB_iff _ _).2 rfl, (Bk.eqB_iff _ _).2 rfl, sameAll_self, decide_eq_true rfl]
  rfl
def backOf (b : Bn) (A : Option Addr) (c s : Nat) : Nat → List Bn
  | 0 => []
  | i + 1 => pieceOf b A c s i :: backOf b A c s i
theorem back_len (b : Bn) (A : Option Addr) (c s : Nat) : ∀ i, (backOf b A c s i).length = i
  | 0 => rfl
  | i + 1 => by show (backOf b A c s i).length + 1 = i + 1; rw [back_len b A c s i]
theorem back_mem (b : Bn) (A : Option Addr) (c s : Nat) : ∀ i p, p ∈ backOf b A c s i ↔ ∃ j, j < i ∧ p = pieceOf b A c s j
  | 0, p => by simp [backOf]
  | i + 1, p => by
    show p ∈ pieceOf b A c s i :: backOf b A c s i ↔ _
    rw [List.mem_cons, back_mem b A c s i p]
    constructor
    · rintro (h | ⟨j, hj, h⟩)
      · exact ⟨i, by omega, h⟩
      · exact ⟨j, by omega, h⟩
    · rintro ⟨j, hj, h⟩
      by_cases hji : j = i
      · exact .inl (by rw [h, hji])
      · exact .inr ⟨j, by omega, h⟩
theorem back_all (b : Bn) (A : Option Addr) (c s m : Nat) (hm : 2 ≤ m) : AllOf b A c s m (backOf b A c s m) := ⟨back_mem b A c s m, by rw [back_len]; exact hm⟩
theorem piece_str (b : Bn) (A : Option Addr) (c s i : Nat) : str (b.bytes.take (i * s)) ++ (pieceOf b A c s i).pay.data = str (b.bytes.take ((i + 1) * s)) := by
  show str _ ++ str ((b.bytes.drop (i * s)).take s) = _
  rw [str_app, Nat.add_mul, Nat.one_mul, List.take_add]
theorem bnelems : Elems Try.prog 36 33 25 248 := by
  obtain ⟨i0, hi, hz0, hz1, hz2⟩ := info_parts bninfo
  exact ⟨Try.underlying36, ⟨i0, _, hi, hz0, hz1, hz2, rfl⟩, by decide⟩
/-- A size, as Many sees it. -/
theorem frag_many (n : Nat) (size : Int) (w : World) (hn : n ≤ 1000000000) (h2 : size ≤ 9223372036854775807) : ∃ q : Int, (Calls Try.prog 10 #[.int .i64 (n : Int), .int .i64 size] w fun e w' => e = .returned (.int .i64 q) ∧ w' = w) ∧ (∀ W, Calls Try.prog 9 #[.int .i64 (n : Int), .int .i64 size] W fun e w' => e = .returned (.int .i64 q) ∧ w' = W) ∧ (∀ s : Nat, 1 ≤ s → size = (s : Int) → q = (manyN n s : Int)) := by
  by_cases h : size < 1
  · exact ⟨0, many_low n size w h, fun W => rmany_low n size W h, fun s hs e => by omega⟩
  · obtain ⟨s, rfl⟩ : ∃ s : Nat, size = (s : Int) := ⟨size.toNat, by omega⟩
    have hs2 : s ≤ 9223372036854775807 := Int.ofNat_le.1 (show (s : Int) ≤ ((9223372036854775807 : Nat) : Int) from h2)
    exact ⟨(manyN n s : Nat), many_any n s w (by omega) hn hs2, fun W => rmany_any n s W (by omega) hn hs2, fun s' _ e => by rw [show s = s' by omega]⟩

/-- The numbers of a round of the loop. -/
structure Round (b P : Bn) (s m i z : Nat) : Prop where
  mul : (i : Int) * (s : Int) = (z : Int)
  low : z ≤ 1000000
  u64 : IntKind.u64.wrap (z : Int) = (z : Int)
  add : IntKind.u64.wrap ((b.p.off : Int) + (z : Int)) = (P.p.off : Int)
  odd : (P.p.fl : Int) % 2 = 1
  first : 0 < i → P.n = 0
  full : i < m - 1 → P.pay.data.size = s
theorem round_any {w : World} {B : Nat} {b P : Bn} {A : Option Addr} {c s m i : Nat} (hP : P = pieceOf b A c s i) (hC : Cuts b s m) (hok : b.Ok w B) (hoff : b.p.off + i * s < 18446744073709551616) (hlt : i < m) : ∃ z, z = i * s ∧ Round b P s m i z := by
  have hlow : i * s < b.bytes.length := Nat.lt_of_le_of_lt (piece_mul hlt) hC.lo
  have hbl := bytes_len b
  have hd := hok.data
  refine ⟨i * s, rfl, ?_, ?_, ?_, ?_, ?_, ?_, ?_⟩
  · exact (Int.natCast_mul i s).symm
  · omega
  · generalize i * s = z at *
    rw [IntKind.wrap_u64]; omega
  · exact wrU _ _ _ (by rw [hP]; rfl) hoff
  · have h : P.p.fl % 2 = 1 := by rw [hP]; show (b.p.fl - b.p.fl % 2 + 1) % 2 = 1; omega
    omega
  · intro h; rw [hP]; show (if i = 0 then b.n else 0) = 0; rw [if_neg (by omega)]
  · intro h
    have hlen := piece_len b A c s i
    rw [← hP, bytes_len] at hlen
    rw [hlen]
    have h1 : (i + 1) * s ≤ (m - 1) * s := Nat.mul_le_mul_right s (by omega)
    have h2 := hC.lo
    rw [Nat.add_mul, Nat.one_mul] at h1
    exact Nat.min_eq_left (by omega)
/-- What the loop goes on with. -/
def After (b : Bn) (A : Option Addr) (c s m : Nat) (W wr : World) (s10 s11 s12 : Value) : Prop :=
  ∃ i : Nat, i ≤ m ∧ s12 = .int .i64 (i : Int) ∧ Below W.heap.size W wr ∧ s10 = .string (str (b.bytes.take (i * s))) ∧ ∃ A2 c2, s11 = .slice A2 i c2 ∧ Hid (Lies wr wr.heap.size A2 (rowN (backOf b A c s i)))
theorem after_on {b P : Bn} {A : Option Addr} {c s m i : Nat} {W wr : World} {A3 : Option Addr} {c3 : Nat} (hP : P = pieceOf b A c s i) (hlt : i < m) (hb : Below W.heap.size W wr) (h : Lies wr wr.heap.size A3 (rowN (backOf b A c s (i + 1)))) (j : Int) (hj : j = (i : Int) + 1) (n : Nat) (hn : n = i + 1) :
    After b A c s m W wr (.string (str (b.bytes.take (i * s)) ++ P.pay.data)) (.slice A3 n c3) (.int .i64 j) := by
  subst hj hn
  exact ⟨i + 1, hlt, by push_cast; rfl, hb, by rw [hP, piece_str], A3, c3, rfl, hide h⟩
theorem whole_all (b : Bn) {s m : Nat} (hC : Cuts b s m) : Value.string (str (b.bytes.take (m * s))) = .string b.pay.data := by
  rw [List.take_of_length_le hC.hi, str_bytes]
end Go.Proofs.Ytlbgcbekjjkokaa
