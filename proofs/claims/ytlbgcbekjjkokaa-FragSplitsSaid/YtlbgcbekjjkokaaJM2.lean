/-
  PIECES PUT TOGETHER, plain mathematics: the pieces of a bundle may be, go together, and are the bundle.
-/
import Derived.Test.YtlbgcbekjjkokaaSpli
namespace Go.Proofs.Ytlbgcbekjjkokaa
open Go.RowKit

/-- A bundle that may be cut into m pieces of s bytes. -/
structure Cuts (b : Bn) (s m : Nat) : Prop where
  ok : b.check = 0
  free : b.p.fl / 4 % 2 = 0
  pos : 1 ≤ s
  two : 2 ≤ m
  lo : (m - 1) * s < b.bytes.length
  hi : b.bytes.length ≤ m * s
  fit : b.p.fl % 2 = 1 → b.pay.data.size ≤ b.p.tot - b.p.off

theorem check_all {b : Bn} (h : b.check = 0) : allCheck (b.pay :: b.bs) = 0 ∧ b.pay.ty = 1 ∧ b.pay.num = 1 ∧ besAll b.bs = true := by
  unfold Bn.check at h
  split at h
  · cases h
  · split at h
    · rename_i h1; exact absurd h h1
    · split at h
      · rename_i h1; exact absurd h h1
      · rename_i h1
        split at h
        · rename_i h2; exact ⟨Classical.not_not.1 h1, h2⟩
        · cases h
theorem allCheck_cons {x : Bk} {l : List Bk} (h : allCheck (x :: l) = 0) : x.check = 0 ∧ allCheck l = 0 := by
  unfold allCheck at h
  by_cases hx : x.check = 0
  · rw [if_pos hx] at h; exact ⟨hx, h⟩
  · rw [if_neg hx] at h; exact absurd h hx
theorem allCheck_of {x : Bk} {l : List Bk} (hx : x.check = 0) (hl : allCheck l = 0) : allCheck (x :: l) = 0 := by
  unfold allCheck; rw [if_pos hx]; exact hl
theorem piece_mul {m s i : Nat} (h : i < m) : i * s ≤ (m - 1) * s := Nat.mul_le_mul_right s (by omega)
theorem piece_len (b : Bn) (A : Option Addr) (c s i : Nat) : (pieceOf b A c s i).bytes.length = min s (b.bytes.length - i * s) := by
  rw [bytes_len]
  show (str _).size = _
  rw [str_size, List.length_take, List.length_drop]
theorem piece_bytes (b : Bn) (A : Option Addr) (c s i : Nat) : (pieceOf b A c s i).bytes = (b.bytes.drop (i * s)).take s := by
  show (str _).data.toList = _
  rw [str_list]
theorem piece_has (b : Bn) (A : Option Addr) (c s i x : Nat) : (pieceOf b A c s i).has x = true ↔ b.p.off + i * s ≤ x ∧ x < b.p.off + i * s + min s (b.bytes.length - i * s) := by
  rw [has_iff, piece_len]; rfl
theorem piece_byte {b : Bn} {A : Option Addr} {c s i x : Nat} (h : (pieceOf b A c s i).has x = true) : b.bytes[x - b.p.off]? = some ((pieceOf b A c s i).byte x) := by
  have h1 := byte_at _ _ h
  have h2 := (piece_has b A c s i x).1 h
  rw [piece_bytes, List.getElem?_take_of_lt (by show x - (b.p.off + i * s) < s; omega), List.getElem?_drop] at h1
  rw [← h1]
  congr 1
  show x - b.p.off = i * s + (x - (b.p.off + i * s))
  omega

theorem piece_pcheck {b : Bn} {s m i : Nat} (h : Cuts b s m) (A : Option Addr) (c : Nat) (hi : i < m) : (pieceOf b A c s i).p.check = 0 := by
  have h0 := check_p0 h.ok
  have hpl := check_placed h.ok
  have hmul := piece_mul (s := s) hi
  have hlo := h.lo
  have hlen := bytes_len b
  have hoff : (pieceOf b A c s i).p.off < (pieceOf b A c s i).p.tot := by
    show b.p.off + i * s < if b.p.fl % 2 = 1 then b.p.tot else b.pay.data.size
    by_cases hf : b.p.fl % 2 = 1
    · rw [if_pos hf]
      have h1 := check_off h.ok hf
      have h2 := h.fit hf
      omega
    · rw [if_neg hf]
      have h1 := (check_off0 h.ok hf).1
      omega
  have hown : b.p.owned = true ∧ ¬ (b.p.crc < 0 ∨ 2 < b.p.crc ∨ b.p.named = false ∨ 2097152 ≤ b.p.fl) := by
    unfold Pr.check at h0
    split at h0
    · cases h0
    · rename_i h1
      split at h0
      · cases h0
      · rename_i h2
        refine ⟨?_, h1⟩
        cases ho : b.p.owned with
        | true => rfl
        | false => exact absurd (.inr ho) h2
  obtain ⟨ho, h1⟩ := hown
  have hsrc : b.p.src.eqB Nm.none = false := by
    cases hs : b.p.src.eqB Nm.none with
    | false => rfl
    | true =>
      unfold Pr.owned at ho
      rw [if_pos hs, decide_eq_true_iff] at ho
      have := h.free
      omega
  refine Pr.check0 ?_ ?_
  · show ¬ (b.p.crc < 0 ∨ 2 < b.p.crc ∨ b.p.named = false ∨ 2097152 ≤ b.p.fl - b.p.fl % 2 + 1)
    intro hx
    apply h1
    rcases hx with hx | hx | hx | hx
    · exact .inl hx
    · exact .inr (.inl hx)
    · exact .inr (.inr (.inl hx))
    · exact .inr (.inr (.inr (by omega)))
  · rintro (hx | hx)
    · unfold Pr.placed at hx
      have hfl : (pieceOf b A c s i).p.fl % 2 = 1 := by show (b.p.fl - b.p.fl % 2 + 1) % 2 = 1; omega
      rw [if_pos hfl, decide_eq_false_iff_not] at hx
      have hfr := h.free
      exact hx ⟨by show (b.p.fl - b.p.fl % 2 + 1) / 4 % 2 = 0; omega, hoff⟩
    · unfold Pr.owned at hx
      rw [show (pieceOf b A c s i).p.src = b.p.src from rfl, hsrc] at hx
      cases hx
theorem piece_check {b : Bn} {s m i : Nat} (h : Cuts b s m) (A : Option Addr) (c : Nat) (hi : i < m) : (pieceOf b A c s i).check = 0 := by
  obtain ⟨ha, h1, h2, h3⟩ := check_all h.ok
  obtain ⟨hp, hr⟩ := allCheck_cons ha
  have hfew := check_few h.ok
  have hpay : (pieceOf b A c s i).pay.check = 0 := by
    unfold Bk.check at hp ⊢
    have hnum : (pieceOf b A c s i).pay.num = b.pay.num := rfl
    have hcrc : (pieceOf b A c s i).pay.crc = b.pay.crc := rfl
    have hd : (pieceOf b A c s i).pay.data.size ≤ b.pay.data.size := by rw [← bytes_len, piece_len, ← bytes_len]; omega
    rw [hnum, hcrc]
    split at hp
    · cases hp
    · rename_i g1
      rw [if_neg g1]
      split at hp
      · cases hp
      · rw [if_neg (by omega)]
  by_cases hi0 : i = 0
  · have hbs : (pieceOf b A c s i).bs = b.bs := if_pos hi0
    exact Bn.check_0 (by rw [hbs]; omega) (piece_pcheck h A c hi) (by rw [hbs]; exact allCheck_of hpay hr) ⟨h1, h2, by rw [hbs]; exact h3⟩
  · have hbs : (pieceOf b A c s i).bs = [] := if_neg hi0
    exact Bn.check_0 (by rw [hbs]; simp) (piece_pcheck h A c hi) (by rw [hbs]; exact allCheck_of hpay rfl) ⟨h1, h2, by rw [hbs]; rfl⟩

/-- All pieces of a bundle, in whatever order. -/
structure AllOf (b : Bn) (A : Option Addr) (c s m : Nat) (l : List Bn) : Prop where
  mem : ∀ p, p ∈ l ↔ ∃ i, i < m ∧ p = pieceOf b A c s i
  len : 2 ≤ l.length

theorem join_pieces {b : Bn} {A : Option Addr} {c s m : Nat} {l : List Bn} {X : Bn} {e : Int} (h : Cuts b s m) (hl : AllOf b A c s m l) (hf : b.p.fl % 2 = 0) (hJ : JoinIs l X e) : e = 0 ∧ ∃ A' c', X = { b with A := A', c := c' } := by
  have hf1 : ¬ b.p.fl % 2 = 1 := by omega
  have ho := check_off0 h.ok hf1
  have hlen := bytes_len b
  have hchk : ∀ p ∈ l, p.check = 0 := fun p hp => by
    obtain ⟨i, hi, rfl⟩ := (hl.mem p).1 hp
    exact piece_check h A c hi
  have hmax : b.pay.data.size ≤ 65536 := by
    obtain ⟨hp, _⟩ := allCheck_cons (check_all h.ok).1
    unfold Bk.check at hp
    split at hp
    · cases hp
    · split at hp
      · cases hp
      · omega
  have htot : ∀ p ∈ l, p.p.tot = b.pay.data.size := fun p hp => by
    obtain ⟨i, hi, rfl⟩ := (hl.mem p).1 hp
    show (if b.p.fl % 2 = 1 then b.p.tot else b.pay.data.size) = _
    rw [if_neg hf1]
  have hstr : ∀ f ∈ l, ∀ p ∈ l, strangeB f p = false := fun f hf' p hp => by
    obtain ⟨j, hj, rfl⟩ := (hl.mem f).1 hf'
    obtain ⟨i, hi, rfl⟩ := (hl.mem p).1 hp
    have hfl : (pieceOf b A c s i).p.fl % 2 = 1 := by show (b.p.fl - b.p.fl % 2 + 1) % 2 = 1; omega
    have hsame : (pieceOf b A c s i).p.sameB (pieceOf b A c s j).p = true := (Pr.sameB_iff _ _).2 ⟨rfl, rfl, rfl, rfl, rfl⟩
    have ht := htot _ hp
    have hsz : (pieceOf b A c s i).pay.data.size = min s (b.bytes.length - i * s) := by rw [← bytes_len, piece_len]
    have hof : (pieceOf b A c s i).p.off = b.p.off + i * s := rfl
    unfold strangeB
    rw [decide_eq_true hfl, hsame, ht, hsz, hof, decide_eq_false (by omega), decide_eq_false (by omega)]
    rfl
  have hncl : ¬ Clash l := by
    rintro ⟨x, p, q, hp, hq, h1, h2, h3⟩
    obtain ⟨i, hi, rfl⟩ := (hl.mem p).1 hp
    obtain ⟨j, hj, rfl⟩ := (hl.mem q).1 hq
    have e1 := piece_byte h1
    rw [piece_byte h2] at e1
    injection e1 with e1
    exact h3 e1.symm
  have hcov : ∀ x, x < b.pay.data.size → ∃ i, i < m ∧ (pieceOf b A c s i).has x = true := fun x hx => by
    have hsp := h.pos
    have hd : x / s < m := Nat.div_lt_of_lt_mul (by rw [Nat.mul_comm]; have := h.hi; omega)
    have h1 := Nat.div_mul_le_self x s
    have h2 : x < x / s * s + s := by have := Nat.lt_mul_div_succ x hsp; rw [Nat.mul_comm, Nat.add_mul] at this; omega
    exact ⟨x / s, hd, (piece_has b A c s _ x).2 ⟨by omega, by omega⟩⟩
  have hngap : ¬ Gap b.pay.data.size l := by
    rintro ⟨x, hx, hg⟩
    obtain ⟨i, hi, hh⟩ := hcov x hx
    rw [hg _ ((hl.mem _).2 ⟨i, hi, rfl⟩)] at hh
    cases hh
  rcases hJ with ⟨h1, _⟩ | ⟨h1, _⟩ | ⟨p, _, _, h1, _⟩ | ⟨f, r, h1, _, h2⟩
  · have := hl.len; rw [h1] at this; simp at this
  · exact absurd (fErr_all hchk) h1
  · have := hl.len; rw [h1] at this; simp at this
  · have hfl : f ∈ l := by rw [h1]; exact List.mem_cons_self
    rcases h2 with ⟨h3, _⟩ | ⟨_, h4⟩
    · obtain ⟨p, hp, h5⟩ := List.any_eq_true.1 h3
      rw [hstr f hfl p hp] at h5; cases h5
    · rcases h4 with ⟨h5, _⟩ | ⟨_, h5, _⟩ | ⟨_, _, he, p, A', c', data, hp, hp0, hX, hdl, hat⟩
      · exact absurd h5 hncl
      · rw [htot f hfl] at h5; exact absurd h5 hngap
      · refine ⟨he, A', c', ?_⟩
        obtain ⟨i, hi, rfl⟩ := (hl.mem p).1 hp
        have hi0 : i = 0 := by
          have h6 : b.p.off + i * s = 0 := hp0
          rcases Nat.eq_zero_or_pos i with h7 | h7
          · exact h7
          · have := Nat.mul_pos h7 h.pos; omega
        subst hi0
        have hdata : data = b.bytes := by
          refine List.ext_getElem? fun x => ?_
          rw [htot f hfl] at hdl
          by_cases hx : x < b.pay.data.size
          · obtain ⟨j, hj, hh⟩ := hcov x hx
            rw [hat _ ((hl.mem _).2 ⟨j, hj, rfl⟩) x hh, ← piece_byte hh, ho.1, Nat.sub_zero]
          · rw [List.getElem?_eq_none (by omega), List.getElem?_eq_none (by omega)]
        rw [hX, hdata]
        unfold joined
        rw [str_bytes]
        unfold pieceOf Pr.whole
        simp only [if_true]
        have e1 : b.p.fl - b.p.fl % 2 + 1 - (b.p.fl - b.p.fl % 2 + 1) % 2 = b.p.fl := by omega
        rw [e1]
        rcases b with ⟨⟨fl, crc, dst, src, rep, time, seq, life, off, tot⟩, A0, n0, c0, bs, pay⟩
        simp only at ho
        rw [ho.1, ho.2]

end Go.Proofs.Ytlbgcbekjjkokaa
