/-
  CONTRACTS of package runes: Back, Digits, Number.
-/
import Derived.Test.YtlenlopeakmplaaDoorUnes
namespace Go.Proofs.YtlenlopeakmplaaDoor
open Go.RowKit

theorem unesc_len : ∀ (f : Nat) (l t : List UInt8), unesc f l = some t → t.length ≤ 4 * l.length
  | 0, l, t, h => by unfold unesc at h; cases h
  | f + 1, l, t, h => by
    cases hd : l.dropWhile (· != 92) with
    | nil => rw [unesc_end hd] at h; injection h with h; subst h; omega
    | cons x b =>
      have h1 := len_split hd
      cases hd2 : b.dropWhile (· != 46) with
      | nil => rw [unesc_open hd hd2] at h; cases h
      | cons y r =>
        have h2 := len_split hd2
        cases ho : numd (b.takeWhile (· != 46)) with
        | none => rw [unesc_bad hd hd2 ho] at h; cases h
        | some one =>
          rw [unesc_go hd hd2 ho] at h
          cases hu : unesc f r with
          | none => rw [hu] at h; cases h
          | some t' =>
            rw [hu] at h
            injection h with h
            subst h
            have h3 := unesc_len f r t' hu
            have h4 := numd_len ho
            simp only [List.length_append]
            omega

/-- What Back tells: the text of which that is the escaped one. -/
def backO (l : List UInt8) : Option (List UInt8) := match unesc (l.length + 1) l with
  | some t => if esc t = l then some t else none
  | none => none
def Backs (o : Option (List UInt8)) : Value :=
  match o with
  | some t => .tuple #[.string (st t), .int .i64 0]
  | none => .tuple #[.string ⟨#[]⟩, .int .i64 6]

theorem back_esc (l : List UInt8) : backO (esc l) = some l := by
  unfold backO
  have h : l.length ≤ (esc l).length := by
    refine rune_ind (P := fun l => l.length ≤ (esc l).length) (Nat.le_refl _) (fun l hl ih => ?_) l
    have h1 := wd_len hl
    have hw := wd_pos l
    have h4 := wd_le l
    have htl : (l.take (wd l)).length = wd l := by rw [List.length_take]; omega
    rw [esc_cons hl, List.length_append]
    rw [List.length_drop] at ih
    have : wd l ≤ (escP (l.take (wd l))).length := by
      have h2 : ∀ n, 2 ≤ (two n).length := by
        intro n
        unfold two
        split
        · have := hexD_len n; simp; omega
        · rename_i hn
          rw [hexD_big hn, List.length_append]
          have := hexD_len (n / 16)
          simp; omega
      unfold escP
      split
      · have := h2 (bt (l.take (wd l)) 0)
        simp; omega
      · split
        · omega
        · have := h2 (val (l.take (wd l))).toNat
          simp; omega
    omega
  rw [unesc_esc l _ (by omega)]
  simp
theorem back_some {l t : List UInt8} (h : backO l = some t) : esc t = l := by
  unfold backO at h
  split at h
  · split at h
    · injection h with h; subst h; assumption
    · cases h
  · cases h

theorem backO_none {l : List UInt8} (h : unesc (l.length + 1) l = none) : backO l = none := by unfold backO; rw [h]
theorem backO_some {l t : List UInt8} (h : unesc (l.length + 1) l = some t) : backO l = if esc t = l then some t else none := by unfold backO; rw [h]

set_option maxHeartbeats 2000000 in
set_option maxRecDepth 1000000 in
theorem back_run (s : ByteArray) (w : World) (hR : Ready w) (hs : s.size ≤ 20000) :
    Calls Tryd.prog 19 #[.string s] w fun e w' => e = .returned (Backs (backO s.data.toList)) ∧ Below w.heap.size w w' := by
  have hu := unescape_run s w hR (by omega)
  have hlen : s.data.toList.length = s.size := by rw [Array.length_toList]; rfl
  have hlt := unesc_len (s.size + 1) s.data.toList
  have hB0 := backO_none (l := s.data.toList)
  have hB1 := fun t => backO_some (l := s.data.toList) (t := t)
  rw [hlen] at hB0 hB1
  cases ho : unesc (s.size + 1) s.data.toList with
  | none =>
    rw [hB0 ho]
    rw [ho] at hu
    clear hlt hB0 hB1 ho hR
    show Calls _ _ _ _ fun e w' => e = .returned (.tuple #[.string ⟨#[]⟩, .int .i64 6]) ∧ _
    go_enter Tryd.func19, Tryd.ntmps19
    go_wp2_with (go_at_call 35; (with_reducible refine hu.mono ?_); rintro e w2 ⟨⟨v, rfl, ⟨S, rfl⟩⟩, hb2⟩; have Hb2 := hide hb2; clear hb2 hu)
    go_ret2
    exact ⟨rfl, Hb2.out⟩
  | some t =>
    have hB2 := hB1 t ho
    have htl := hlt t ho
    rw [ho] at hu
    clear hB0 hB1
    have hesc := fun W hW => escape_run (st t) W hW (by rw [st_size]; omega)
    rw [st_list] at hesc
    have HR := hide hR
    have hu2 : Calls Tryd.prog 35 #[.string s] w fun e w' => e = .returned (.tuple #[.string (st t), .bool true]) ∧ Below w.heap.size w w' := by
      refine hu.mono fun e w' ⟨⟨v, he, hv⟩, hb⟩ => ⟨?_, hb⟩
      have hv2 : v = .tuple #[.string (st t), .bool true] := hv
      subst hv2; exact he
    by_cases heq : esc t = s.data.toList
    · have hBv : backO s.data.toList = some t := by rw [hB2, if_pos heq]
      rw [hBv]
      have hcmp : ((st (esc t)).toList == s.toList) = true := by rw [ByteArray.toList_eq, ByteArray.toList_eq, st_list, heq]; exact beq_self_eq_true _
      clear hlt hB2 ho hR hBv heq hu htl
      show Calls _ _ _ _ fun e w' => e = .returned (.tuple #[.string (st t), .int .i64 0]) ∧ _
      generalize st (esc t) = X at hesc hcmp
      generalize st t = T at hesc hu2 ⊢
      go_enter Tryd.func19, Tryd.ntmps19
      go_wp2_with (first | (go_at_call 35; (with_reducible refine hu2.mono ?_); rintro e w2 ⟨rfl, hb2⟩; have hR2 := hide (HR.out.on hb2); have Hb2 := hide hb2; clear hb2 hu2) | (go_at_call 18; (with_reducible refine (hesc w2 hR2.out).mono ?_); rintro e w3 ⟨rfl, hb3⟩; have Hb3 := hide (Hb2.out.trans (hb3.mono Hb2.out.size)); clear hb3))
      go_ret2
      exact ⟨rfl, Hb3.out⟩
    · have hBv : backO s.data.toList = none := by rw [hB2, if_neg heq]
      rw [hBv]
      have hcmp : ((st (esc t)).toList == s.toList) = false := by rw [ByteArray.toList_eq, ByteArray.toList_eq, st_list]; exact beq_eq_false_iff_ne.2 heq
      clear hlt hB2 ho hR hBv heq hu htl
      show Calls _ _ _ _ fun e w' => e = .returned (.tuple #[.string ⟨#[]⟩, .int .i64 6]) ∧ _
      generalize st (esc t) = X at hesc hcmp
      generalize st t = T at hesc hu2
      go_enter Tryd.func19, Tryd.ntmps19
      go_wp2_with (first | (go_at_call 35; (with_reducible refine hu2.mono ?_); rintro e w2 ⟨rfl, hb2⟩; have hR2 := hide (HR.out.on hb2); have Hb2 := hide hb2; clear hb2 hu2) | (go_at_call 18; (with_reducible refine (hesc w2 hR2.out).mono ?_); rintro e w3 ⟨rfl, hb3⟩; have Hb3 := hide (Hb2.out.trans (hb3.mono Hb2.out.size)); clear hb3))
      go_ret2
      exact ⟨rfl, Hb3.out⟩

/-! ### decimal digits -/
theorem below_grow (w : World) (k : Nat) (os : Array Obj) : Below w.heap.size w (Go.Sort.grow (w.drewN k) os) := by
  refine ⟨rfl, rfl, rfl, ?_, fun j hj => ?_⟩
  · show w.heap.size ≤ (w.heap ++ os).size
    rw [Array.size_append]; omega
  · show (w.heap ++ os)[j]? = _
    rw [Array.getElem?_append_left hj]

theorem digits_run (n : Int) (w : World) (hR : Ready w) (h0 : -9223372036854775808 ≤ n) (h1 : n ≤ 9223372036854775807) :
    Calls Tryd.prog 21 #[.int .i64 n] w fun e w' => e = .returned (.string (st (Lib.itoa n))) ∧ Below w.heap.size w w' := by
  have hi := Tryd.strconv_Itoa n h0 h1 w hR.pow
  change Calls _ _ _ _ (fun e w' => e = .returned (.string (st (Lib.itoa n))) ∧ _) at hi
  generalize st (Lib.itoa n) = x at hi ⊢
  have H0 := hide h0
  have H1 := hide h1
  clear hR h0 h1
  go_enter Tryd.func21, Tryd.ntmps21
  go_wp2_with (go_at_call 37; (with_reducible refine hi.mono ?_); rintro e w2 ⟨rfl, k, os, hw⟩; have Hw := hide hw; clear hw)
  go_ret
  refine ⟨rfl, ?_⟩
  rw [Hw.out]
  exact below_grow _ _ _

/-- What Number tells: the number whose digits the text is, if it is near. -/
def numberO (l : List UInt8) : Option Int :=
  match Lib.atoiAll l with
  | .ok n => if (-1099511627776 ≤ n ∧ n ≤ 1099511627776) ∧ Lib.itoa n = l then some n else none
  | _ => none
def Numbers (o : Option Int) : Value :=
  match o with
  | some n => .tuple #[.int .i64 n, .bool true]
  | none => .tuple #[.int .i64 0, .bool false]

theorem numberO_ok {l : List UInt8} {n : Int} (h : Lib.atoiAll l = .ok n) : numberO l = if (-1099511627776 ≤ n ∧ n ≤ 1099511627776) ∧ Lib.itoa n = l then some n else none := by unfold numberO; rw [h]
theorem numberO_bad {l : List UInt8} (h : Lib.atoiAll l = Lib.NumEnd.syntax) : numberO l = none := by unfold numberO; rw [h]
theorem numberO_range {l : List UInt8} (h : Lib.atoiAll l = .range) : numberO l = none := by unfold numberO; rw [h]
theorem number_some {l : List UInt8} {n : Int} (h : numberO l = some n) : (-1099511627776 ≤ n ∧ n ≤ 1099511627776) ∧ Lib.itoa n = l := by
  unfold numberO at h
  split at h
  · split at h
    · injection h with h; subst h; assumption
    · cases h
  · cases h
theorem number_itoa (n : Int) (h0 : -1099511627776 ≤ n) (h1 : n ≤ 1099511627776) : numberO (Lib.itoa n) = some n := by
  rw [numberO_ok (atoi_itoa n h0 h1), if_pos ⟨⟨h0, h1⟩, rfl⟩]
def digVal (l : List UInt8) : Nat := l.foldl (fun a c => a * 10 + (c.toNat - 48)) 0
theorem digVal_dec (u : Nat) : digVal (Lib.decDigits u) = u := by
  induction u using Nat.strongRecOn with
  | ind u ih =>
    by_cases h : u < 10
    · rw [dec_small h]
      simp [digVal]
      omega
    · rw [dec_big h]
      unfold digVal at ih ⊢
      rw [List.foldl_append, ih (u / 10) (by omega)]
      simp
      omega
theorem dec_head (u : Nat) : (Lib.decDigits u).head? ≠ some 45 := by
  intro h
  have hm : (45 : UInt8) ∈ Lib.decDigits u := List.mem_of_head? h
  have := dec_digit u 45 hm
  have e : (45 : UInt8).toNat = 45 := rfl
  omega
theorem itoa_inj {a b : Int} (h : Lib.itoa a = Lib.itoa b) : a = b := by
  have hu : ∀ u v : Nat, Lib.decDigits u = Lib.decDigits v → u = v := fun u v h => by rw [← digVal_dec u, ← digVal_dec v, h]
  unfold Lib.itoa at h
  by_cases ha : a < 0 <;> by_cases hb : b < 0
  · rw [if_pos ha, if_pos hb] at h
    injection h with _ h
    have := hu _ _ h
    omega
  · rw [if_pos ha, if_neg hb] at h
    exact absurd (by rw [← h]; rfl) (dec_head b.toNat)
  · rw [if_neg ha, if_pos hb] at h
    exact absurd (by rw [h]; rfl) (dec_head a.toNat)
  · rw [if_neg ha, if_neg hb] at h
    have := hu _ _ h
    omega
theorem number_far (n : Int) (h : n < -1099511627776 ∨ 1099511627776 < n) : numberO (Lib.itoa n) = none := by
  cases ho : numberO (Lib.itoa n) with
  | none => rfl
  | some m =>
    obtain ⟨h1, h2⟩ := number_some ho
    have := itoa_inj h2
    omega

set_option maxHeartbeats 2000000 in
set_option maxRecDepth 1000000 in
theorem number_run (s : ByteArray) (w : World) (hR : Ready w) (hs : s.size ≤ 100000) :
    Calls Tryd.prog 22 #[.string s] w fun e w' => e = .returned (Numbers (numberO s.data.toList)) ∧ Below w.heap.size w w' := by
  have HR := hide hR
  have hends : (∃ v, Lib.atoiAll s.data.toList = .ok v) ∨ Lib.atoiAll s.data.toList = Lib.NumEnd.syntax ∨ Lib.atoiAll s.data.toList = .range := by
    generalize Lib.atoiAll s.data.toList = o
    rcases o with v | _ | _
    · exact .inl ⟨v, rfl⟩
    · exact .inr (.inl rfl)
    · exact .inr (.inr rfl)
  rcases hends with ⟨v, ha⟩ | ha | ha
  · show Calls _ _ _ _ fun e w' => _
    have hb := Lib.atoiAll_bounds ha
    have hcall : Calls Tryd.prog 38 #[.string s] w fun e w' => e = .returned (.tuple #[.int .i64 v, .nilIface]) ∧ Below w.heap.size w w' := by
      refine (Tryd.strconv_Atoi_ok s (by omega) v ha w).mono fun e w' ⟨he, hw⟩ => ⟨he, ?_⟩
      rcases hw with rfl | ⟨t, rfl⟩
      · exact Below.refl _ _
      · exact Lib.bytesWorld_below _ _ _
    have hO := numberO_ok ha
    have hdig := fun W hW => digits_run v W hW (by omega) (by omega)
    by_cases hnear : -1099511627776 ≤ v ∧ v ≤ 1099511627776
    · have g1 : ¬ v < -1099511627776 := by omega
      have g2 : ¬ 1099511627776 < v := by omega
      by_cases heq : Lib.itoa v = s.data.toList
      · rw [if_pos ⟨hnear, heq⟩] at hO
        rw [hO]
        have hcmp : ((st (Lib.itoa v)).toList == s.toList) = true := by rw [ByteArray.toList_eq, ByteArray.toList_eq, st_list, heq]; exact beq_self_eq_true _
        clear hO ha hR heq hnear hb
        show Calls _ _ _ _ fun e w' => e = .returned (.tuple #[.int .i64 v, .bool true]) ∧ _
        generalize st (Lib.itoa v) = X at hdig hcmp
        go_enter Tryd.func22, Tryd.ntmps22
        go_wp2_with (first | (go_at_call 38; (with_reducible refine hcall.mono ?_); rintro e w2 ⟨rfl, hb2⟩; have hR2 := hide (HR.out.on hb2); have Hb2 := hide hb2; clear hb2 hcall) | (go_at_call 21; (with_reducible refine (hdig w2 hR2.out).mono ?_); rintro e w3 ⟨rfl, hb3⟩; have Hb3 := hide (Hb2.out.trans (hb3.mono Hb2.out.size)); clear hb3))
        go_ret2
        exact ⟨rfl, Hb3.out⟩
      · rw [if_neg (fun h => heq h.2)] at hO
        rw [hO]
        have hcmp : ((st (Lib.itoa v)).toList == s.toList) = false := by rw [ByteArray.toList_eq, ByteArray.toList_eq, st_list]; exact beq_eq_false_iff_ne.2 heq
        clear hO ha hR heq hnear hb
        show Calls _ _ _ _ fun e w' => e = .returned (.tuple #[.int .i64 0, .bool false]) ∧ _
        generalize st (Lib.itoa v) = X at hdig hcmp
        go_enter Tryd.func22, Tryd.ntmps22
        go_wp2_with (first | (go_at_call 38; (with_reducible refine hcall.mono ?_); rintro e w2 ⟨rfl, hb2⟩; have hR2 := hide (HR.out.on hb2); have Hb2 := hide hb2; clear hb2 hcall) | (go_at_call 21; (with_reducible refine (hdig w2 hR2.out).mono ?_); rintro e w3 ⟨rfl, hb3⟩; have Hb3 := hide (Hb2.out.trans (hb3.mono Hb2.out.size)); clear hb3))
        go_ret2
        exact ⟨rfl, Hb3.out⟩
    · rw [if_neg (fun h => hnear h.1)] at hO
      rw [hO]
      have hcase : v < -1099511627776 ∨ (¬ v < -1099511627776 ∧ 1099511627776 < v) := by omega
      clear hO ha hR hnear hb hdig
      show Calls _ _ _ _ fun e w' => e = .returned (.tuple #[.int .i64 0, .bool false]) ∧ _
      rcases hcase with g1 | ⟨g1, g2⟩
      all_goals
        go_enter Tryd.func22, Tryd.ntmps22
        go_wp2_with (go_at_call 38; (with_reducible refine hcall.mono ?_); rintro e w2 ⟨rfl, hb2⟩; have Hb2 := hide hb2; clear hb2 hcall)
        go_ret2
        exact ⟨rfl, Hb2.out⟩
  · obtain ⟨t1, p1, hs1⟩ := hR.syn
    rw [numberO_bad ha]
    have hcall := Tryd.strconv_Atoi_syntax s (by omega) ha _ w hs1 (.inr ⟨_, _, rfl⟩)
    clear ha hR hs1
    show Calls _ _ _ _ fun e w' => e = .returned (.tuple #[.int .i64 0, .bool false]) ∧ _
    go_enter Tryd.func22, Tryd.ntmps22
    go_wp2_with (go_at_call 38; (with_reducible refine hcall.mono ?_); rintro e w2 ⟨N, rfl, _, _, hb2⟩; have Hb2 := hide hb2; clear hb2 hcall)
    go_ret2
    exact ⟨rfl, Hb2.out⟩
  · obtain ⟨t1, p1, hs1⟩ := hR.rng
    rw [numberO_range ha]
    have hcall := Tryd.strconv_Atoi_range s (by omega) ha _ w hs1 (.inr ⟨_, _, rfl⟩)
    generalize Lib.atoiSat s.data.toList = sat at hcall
    clear ha hR hs1
    show Calls _ _ _ _ fun e w' => e = .returned (.tuple #[.int .i64 0, .bool false]) ∧ _
    go_enter Tryd.func22, Tryd.ntmps22
    go_wp2_with (go_at_call 38; (with_reducible refine hcall.mono ?_); rintro e w2 ⟨N, rfl, _, _, hb2⟩; have Hb2 := hide hb2; clear hb2 hcall)
    go_ret2
    exact ⟨rfl, Hb2.out⟩

end Go.Proofs.YtlenlopeakmplaaDoor
