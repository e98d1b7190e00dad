/-
  The walk of BeReads.
-/
import Derived.Test.YtfjlidngialpaaaAwakea
import Derived.Deep.QuietTactic
import Derived.BigQuiet
import Derived.Deep.DeepCutAuto
namespace Go.Proofs.Ytfjlidngialpaaa
open Go.RowKit

theorem pairCells_len (l : List (Int × Int)) : (pairCells l).length = l.length * 2 := by
  induction l with
  | nil => rfl
  | cons q l ih => simp only [pairCells, List.flatMap_cons, List.length_append, List.length_cons, List.length_nil] at ih ⊢; omega
theorem pairCells_at : ∀ (l : List (Int × Int)) (k : Nat), k < l.length →
    (pairCells l)[k * 2]? = some (.int .i64 (l.getD k (0, 0)).1) ∧ (pairCells l)[k * 2 + 1]? = some (.int .i64 (l.getD k (0, 0)).2)
  | [], k, h => by simp at h
  | q :: l, 0, _ => by simp [pairCells]
  | q :: l, k + 1, h => by
    have := pairCells_at l k (by simpa using h)
    simpa [pairCells, Nat.succ_mul] using this
theorem Lies.step {w : World} {B : Nat} {A : Option Addr} {l : List (Int × Int)} {k : Nat} (h : Lies w B A (pairCells l)) (hk : k < l.length) :
    ∃ a, A = some a ∧ w.cell? (a.add (k * 2)) = some (.int .i64 (l.getD k (0, 0)).1) ∧ w.cell? ⟨(a.add (k * 2)).block, (a.add (k * 2)).off + 1, none⟩ = some (.int .i64 (l.getD k (0, 0)).2) := by
  rcases h with h | ⟨a, hA, _, hc⟩
  · have := pairCells_len l; rw [h] at this; simp at this; omega
  · refine ⟨a, hA, hc _ _ (pairCells_at l k hk).1, ?_⟩
    have e : (⟨(a.add (k * 2)).block, (a.add (k * 2)).off + 1, none⟩ : Addr) = a.add (k * 2 + 1) := by
      unfold Addr.add
      by_cases h0 : k * 2 = 0 <;> simp [h0, Nat.add_assoc]
    rw [e]
    exact hc _ _ (pairCells_at l k hk).2

theorem numAt_drop (l : List UInt8) (p : Nat) : ∀ w, numAt (l.drop p) 0 w = numAt l p w
  | 0 => rfl
  | w + 1 => by
    rw [numAt, numAt, numAt_drop l p w]
    congr 1
    rw [show ((0 : Int) + (w : Int)) = ((w : Nat) : Int) by omega, show ((p : Int) + (w : Int)) = ((p + w : Nat) : Int) by omega, byteAt_nat, byteAt_nat]
    rw [List.getD_eq_getElem?_getD, List.getD_eq_getElem?_getD, List.getElem?_drop]

/-- What the reader holds when p bytes are read, or when it is short. -/
def leftOf (l : List UInt8) (p : Nat) (s : Bool) : List UInt8 := if s then [] else l.drop p

theorem endNo_all (l : List UInt8) (p : Nat) (h : l.length ≤ p) : endNo (leftOf l p false) false = 0 := by
  have e : leftOf l p false = [] := by simp [leftOf]; omega
  rw [e]; rfl
theorem endNo_more (l : List UInt8) (p : Nat) (h : p < l.length) : endNo (leftOf l p false) false = 6 := by
  have e : leftOf l p false ≠ [] := by simp [leftOf]; omega
  unfold endNo
  rw [if_neg (by simp), if_neg e]
theorem hd_cases (l : List UInt8) (s : Bool) (n p : Nat) (hn : n = l.length) (hp : p ≤ n) :
    (s = true ∧ endNo (leftOf l p s) s = 5) ∨ (s = false ∧ p = n ∧ endNo (leftOf l p s) s = 0) ∨ (s = false ∧ p < n ∧ endNo (leftOf l p s) s = 6) := by
  rcases s with _ | _
  · rcases (by omega : p = n ∨ p < n) with h | h
    · exact .inr (.inl ⟨rfl, h, endNo_all l p (by omega)⟩)
    · exact .inr (.inr ⟨rfl, h, endNo_more l p (by omega)⟩)
  · exact .inl ⟨rfl, rfl⟩
theorem b_cases (s : Bool) (x : Int) (n p : Nat) (h : ¬ (s = false ∧ 0 ≤ x ∧ x ≤ (n : Int) - p)) : s = true ∨ (s = false ∧ x < 0) ∨ (s = false ∧ 0 ≤ x ∧ (n : Int) - p < x) := by
  rcases s with _ | _
  · by_cases h0 : x < 0
    · exact .inr (.inl ⟨rfl, h0⟩)
    · by_cases h1 : x ≤ (n : Int) - p
      · exact absurd ⟨rfl, by omega, h1⟩ h
      · exact .inr (.inr ⟨rfl, by omega, by omega⟩)
  · exact .inl rfl
theorem n_cases (s : Bool) (x : Int) (n p : Nat) (h : ¬ (s = false ∧ 1 ≤ x ∧ x ≤ 8 ∧ x ≤ (n : Int) - p)) :
    s = true ∨ (s = false ∧ x < 0) ∨ (s = false ∧ 0 ≤ x ∧ (n : Int) - p < x) ∨ (s = false ∧ 0 ≤ x ∧ x ≤ (n : Int) - p ∧ x < 1) ∨ (s = false ∧ 0 ≤ x ∧ x ≤ (n : Int) - p ∧ 1 ≤ x ∧ 8 < x) := by
  rcases s with _ | _
  · by_cases h0 : x < 0
    · exact .inr (.inl ⟨rfl, h0⟩)
    · by_cases h1 : x ≤ (n : Int) - p
      · by_cases h2 : x < 1
        · exact .inr (.inr (.inr (.inl ⟨rfl, by omega, h1, h2⟩)))
        · by_cases h3 : x ≤ 8
          · exact absurd ⟨rfl, by omega, h3, h1⟩ h
          · exact .inr (.inr (.inr (.inr ⟨rfl, by omega, h1, by omega, by omega⟩)))
      · exact .inr (.inr (.inl ⟨rfl, by omega, by omega⟩))
  · exact .inl rfl
theorem took_bad (l : List UInt8) (s : Bool) (x : Int) (n p : Nat) (hn : n = l.length) (hp : p ≤ n) (h : ¬ (s = false ∧ 0 ≤ x ∧ x ≤ (n : Int) - p)) : took (leftOf l p s) s x = ([], [], true) := by
  rcases s with _ | _
  · unfold took
    rw [if_neg]
    intro h'
    have h2 := h'.2
    simp only [leftOf, Bool.false_eq_true, if_false, List.length_drop] at h2
    exact h ⟨rfl, h'.1, by omega⟩
  · have e : leftOf l p true = [] := rfl
    rw [e]
    unfold took
    split <;> simp

set_option maxRecDepth 100000 in
set_option maxHeartbeats 20000000 in
theorem beReads_any (A A2 : Option Addr) (n c n2 c2 B : Nat) (l : List UInt8) (st : List (Int × Int)) (w : World) (h : Lies w B A (bys l)) (hn : n = l.length) (hcap : n ≤ c) (hbig : n ≤ 300) (h2 : Lies w B A2 (pairCells st)) (hn2 : n2 = st.length)
    (hB : B ≤ w.heap.size) (hst : ∀ k, -9223372036854775808 ≤ (st.getD k (0, 0)).2 ∧ (st.getD k (0, 0)).2 ≤ 9223372036854775807) :
    Calls Try.prog 5 #[.slice A n c, .slice A2 n2 c2] w fun e w' => e = .returned (.bool true) ∧ Below w.heap.size w w' := by
  have h300 : ¬ (300 : Int) < (n : Int) := by omega
  have Hn := hide hn
  have Hl := hide h
  have Hn2 := hide hn2
  have Hl2 := hide h2
  have Hst := hide hst
  clear hn h hn2 h2 hst
  go_enter Try.func5, Try.ntmps5
  go_wp2_with fail
  refine (over_any A n c B l _ Hl.out Hn.out (by omega)).mono ?_
  rintro e w1 ⟨g, rfl, hgl, hr1, hb1⟩
  have Hr1 := hide hr1
  have Hb1 := hide hb1
  have Hgl := hide hgl
  clear hr1 hb1 hgl
  go_wp2
  go_loopw [6, 7, 8] (fun a sh i wr => ∃ (j p : Nat) (s : Bool), i = .int .i64 (j : Int) ∧ j ≤ 60 ∧ p ≤ n ∧ a = .int .i64 (p : Int) ∧ sh = .bool s ∧ Rdr wr g (leftOf l p s) s ∧ Below w.heap.size w wr) (fun _ _ i _ => 60 - (intOf i).toNat)
  case atStart => exact ⟨0, 0, false, rfl, by omega, by omega, rfl, rfl, Hr1.out, Hb1.out⟩
  case round =>
    obtain ⟨j, p, s, rfl, hj60, hp, rfl, rfl, hr, hb⟩ := hrel
    have Hr := hide hr
    have Hb := hide hb
    clear hr hb
    by_cases hlt : (j : Int) < n2 ∧ (j : Int) < 60
    · have hj1 := hlt.1
      have hj2 := hlt.2
      clear hlt
      obtain ⟨a2, rfl, hk, hx⟩ := (Hl2.out.below (Hb.out.mono hB)).step (k := j) (by have := Hn2.out; omega)
      have Hxb := hide (Hst.out j)
      generalize (st.getD j (0, 0)).1 = kd at *
      generalize (st.getD j (0, 0)).2 = x at *
      -- the call, and what it answers
      have hxlo := Hxb.out.1
      have hxhi := Hxb.out.2
      by_cases hkd : kd = 1
      · subst hkd
        by_cases hok : s = false ∧ 0 ≤ x ∧ x ≤ (n : Int) - p
        · obtain ⟨rfl, hx0, hxn⟩ := hok
          obtain ⟨X, rfl⟩ := Int.eq_ofNat_of_zero_le hx0
          have hXn : p + X ≤ n := by omega
          clear hxn hx0
          have hlen : Hid ((leftOf l p false).length = n - p) := by show _ = _; have := Hn.out; simp [leftOf]; omega
          obtain ⟨T, hT⟩ : ∃ T, T = (l.drop p).take X := ⟨_, rfl⟩
          have HT := hide hT
          clear hT
          have htook : Hid (took (leftOf l p false) false (X : Int) = (T, l.drop (p + X), false)) := by
            show _ = _
            rw [HT.out]
            unfold took
            rw [if_pos ⟨by omega, by rw [hlen.out]; omega⟩]
            simp [leftOf, List.drop_drop]
          have g1 : ¬ (X : Int) < 0 := by omega
          have g2 : ¬ (X : Int) > (n : Int) - (p : Int) := by omega
          have g3 : p + X ≤ c := by omega
          go_wp2_with fail
          refine (b_any g (leftOf l p false) false X _ Hr.out (by omega) (by omega)).mono ?_
          rintro e w2 ⟨A1, m1, c1, rfl, hm1, ho2, hr2, hg2⟩
          rw [htook.out] at hm1 ho2 hr2
          have hb2 := Hb.out.grown hg2 Hb.out.size (fun k hk => by injection hk with hk; rw [← hk]; exact Hgl.out)
          have hs1 : ∀ q, (convert 22 9 (.slice A1 m1 c1)).run Try.prog (w2.drewN q) = .ok (.string (str T)) (w2.drewN q) := fun q =>
            strU8 c1 ((Lies.of_own ho2).drewN q) hm1
          have hsl : ∀ q, (convert 22 9 (.slice (if c = p then A else A.map (·.add p)) X (c - p))).run Try.prog (w2.drewN q) = .ok (.string (str T)) (w2.drewN q) := fun q => by
            refine strU8 (B := B) _ ?_ (by rw [HT.out]; simp; have := Hn.out; omega)
            have h1 := ((Hl.out.below (hb2.mono hB)).drewN q).drop p c (by rw [bys_len]; have := Hn.out; omega)
            have h2 := h1.take X
            rwa [← bys_drop, ← bys_take, ← HT.out] at h2
          have Hr2 := hide hr2
          have Hb2 := hide hb2
          clear hm1 ho2 hr2 hg2 hb2
          have e1 : IntKind.i64.wrap ((p : Int) + (X : Int)) = (p : Int) + (X : Int) := IntWalk.i64_in _ (by omega)
          have e2 : ((p : Int) + (X : Int)).toNat = p + X := by omega
          have e3 : 0 ≤ (p : Int) + (X : Int) := by omega
          have hL : (((l.drop (p + X)).length : Nat) : Int) = (n : Int) - ((p : Int) + (X : Int)) := by simp; have := Hn.out; omega
          have HL := hide hL
          clear hL
          by_cases hcp : c = p
          · subst hcp
            obtain rfl : X = 0 := by omega
            rw [if_pos rfl, Nat.sub_self] at hsl
            have HL0 := hide (show (((l.drop (c + 0)).length : Nat) : Int) = (n : Int) - (c : Int) by simp; have := Hn.out; omega)
            go_wp2_with fail
            go_quiet (fail)
            clear hs1 hsl
            go_wp2_with fail
            refine (left_any g _ false _ (Hr2.out.drewN _)).mono ?_
            rintro e w3 ⟨he, rfl⟩
            rw [HL0.out] at he
            subst he
            go_wp2
            exact ⟨⟨j + 1, c, false, by go_num, by omega, by omega, by go_num, rfl, Hr2.out.drewN _, bel_drewN Hb2.out _⟩, by simp [intOf]; omega⟩
          · rw [if_neg hcp] at hsl
            go_wp2_with fail
            go_quiet (fail)
            clear hs1 hsl
            go_wp2_with fail
            refine (left_any g _ false _ (Hr2.out.drewN _)).mono ?_
            rintro e w3 ⟨he, rfl⟩
            rw [HL.out] at he
            subst he
            go_wp2
            exact ⟨⟨j + 1, p + X, false, by go_num, by omega, by omega, by go_num, rfl, Hr2.out.drewN _, bel_drewN Hb2.out _⟩, by simp [intOf]; omega⟩
        · have htook : Hid (took (leftOf l p s) s x = ([], [], true)) := took_bad l s x n p Hn.out hp hok
          have Hok := hide hok
          clear hok
          rcases b_cases s x n p Hok.out with rfl | ⟨rfl, hx1⟩ | ⟨rfl, hx1, hx2⟩
          all_goals
            go_wp2_with fail
            refine (b_any g _ _ x _ Hr.out hxlo hxhi).mono ?_
            rintro e w2 ⟨A1, m1, c1, rfl, hm1, ho2, hr2, hg2⟩
            rw [htook.out] at hm1 ho2 hr2
            have hb2 := Hb.out.grown hg2 Hb.out.size (fun k hk => by injection hk with hk; rw [← hk]; exact Hgl.out)
            obtain rfl : m1 = 0 := by simpa using hm1
            have Hr2 := hide hr2
            have Hb2 := hide hb2
            clear hm1 ho2 hr2 hg2 hb2
            go_wp2_with fail
            go_quiet (fail)
            go_wp2_with fail
            refine (left_any g _ true _ (Hr2.out.drewN _)).mono ?_
            rintro e w3 ⟨he, rfl⟩
            simp only [List.length_nil] at he
            subst he
            go_wp2
            exact ⟨⟨j + 1, p, true, by go_num, by omega, hp, rfl, rfl, Hr2.out.drewN _, bel_drewN Hb2.out _⟩, by simp [intOf]; omega⟩
      · have hkd' : ¬ kd = 1 := hkd
        have hk1 : (kd == 1) = false := beq_eq_false_iff_ne.2 hkd
        have hk2 : (kd != 1) = true := by rw [bne_iff_ne]; exact hkd
        by_cases hok : s = false ∧ 1 ≤ x ∧ x ≤ 8 ∧ x ≤ (n : Int) - p
        · obtain ⟨rfl, hx0, hx8, hxn⟩ := hok
          obtain ⟨X, rfl⟩ := Int.eq_ofNat_of_zero_le (by omega : 0 ≤ x)
          have hXn : p + X ≤ n := by omega
          have hlen : Hid ((leftOf l p false).length = n - p) := by show _ = _; have := Hn.out; simp [leftOf]; omega
          have g1 : ¬ (X : Int) < 0 := by omega
          have g2 : ¬ (X : Int) > (n : Int) - (p : Int) := by omega
          have g3 : ¬ (X : Int) < 1 := by omega
          have g4 : ¬ (X : Int) > 8 := by omega
          go_wp2_with fail
          refine (n_any g (leftOf l p false) false X _ Hr.out (by omega) (by omega)).mono ?_
          rintro e w2 ⟨v, rfl, hv, hg2⟩
          obtain ⟨rfl, hr2⟩ : v = numAt l p X ∧ Rdr w2 g (leftOf l (p + X) false) false := by
            rcases hv with ⟨_, _, _, h1, h2⟩ | ⟨h, _⟩
            · refine ⟨h1.trans (by rw [Int.toNat_natCast]; exact numAt_drop l p X), ?_⟩
              have e : (leftOf l p false).drop (X : Int).toNat = leftOf l (p + X) false := by simp [leftOf, List.drop_drop]
              rwa [e] at h2
            · exact absurd ⟨by omega, by omega, by rw [hlen.out]; omega⟩ h
          have hb2 := Hb.out.grown hg2 Hb.out.size (fun k hk => by injection hk with hk; rw [← hk]; exact Hgl.out)
          have Hr2 := hide hr2
          have Hb2 := hide hb2
          clear hv hr2 hg2 hb2
          have HLb := hide (Hl.out.below (Hb2.out.mono hB))
          go_wp2_with fail
          refine (number_any A n c B l p X _ HLb.out Hn.out (by omega) (by omega) (by omega)).mono ?_
          rintro e w3 ⟨he, rfl⟩
          rw [if_pos (by omega), show (min (X : Int) 8).toNat = X by omega] at he
          subst he
          have HL := hide (show (((leftOf l (p + X) false).length : Nat) : Int) = (n : Int) - ((p : Int) + (X : Int)) by simp [leftOf]; have := Hn.out; omega)
          go_wp2_with fail
          refine (left_any g _ false _ Hr2.out).mono ?_
          rintro e w3 ⟨he, rfl⟩
          rw [HL.out] at he
          subst he
          go_wp2
          exact ⟨⟨j + 1, p + X, false, by go_num, by omega, by omega, by go_num, rfl, Hr2.out, Hb2.out⟩, by simp [intOf]; omega⟩
        · have hbadN : Hid (¬ (1 ≤ x ∧ x ≤ 8 ∧ x ≤ ((leftOf l p s).length : Int))) := by
            rintro ⟨h1, h2, h3⟩
            rcases s with _ | _
            · refine hok ⟨rfl, h1, h2, ?_⟩
              simp [leftOf] at h3; have := Hn.out; omega
            · simp [leftOf] at h3; omega
          have Hok := hide hok
          clear hok
          rcases n_cases s x n p Hok.out
            with rfl | ⟨rfl, hx1⟩ | ⟨rfl, hx1, hx2⟩ | ⟨rfl, hx1, hx2, hx3⟩ | ⟨rfl, hx1, hx2, hx3, hx4⟩
          all_goals
            go_wp2_with fail
            refine (n_any g _ _ x _ Hr.out hxlo hxhi).mono ?_
            rintro e w2 ⟨v, rfl, hv, hg2⟩
            obtain ⟨rfl, hr2⟩ : v = 0 ∧ Rdr w2 g [] true := by
              rcases hv with ⟨h1, h2, h3, _⟩ | ⟨_, h1, h2⟩
              · exact absurd ⟨h1, h2, h3⟩ hbadN.out
              · exact ⟨h1, h2⟩
            have hb2 := Hb.out.grown hg2 Hb.out.size (fun k hk => by injection hk with hk; rw [← hk]; exact Hgl.out)
            have Hr2 := hide hr2
            have Hb2 := hide hb2
            clear hv hr2 hg2 hb2
            go_wp2_with fail
            refine (left_any g _ true _ Hr2.out).mono ?_
            rintro e w3 ⟨he, rfl⟩
            simp only [List.length_nil] at he
            subst he
            go_wp2
            exact ⟨⟨j + 1, p, true, by go_num, by omega, hp, rfl, rfl, Hr2.out, Hb2.out⟩, by simp [intOf]; omega⟩
    · have Hlt := hide hlt
      clear hlt
      rcases (by
        by_cases h1 : (j : Int) < n2
        · exact .inr ⟨h1, by have := Hlt.out; omega⟩
        · exact .inl h1 : ¬ (j : Int) < n2 ∨ ((j : Int) < n2 ∧ ¬ (j : Int) < 60)) with h1 | ⟨h1, h2⟩
      all_goals
        go_wp2_with fail
        refine (end_any g _ _ _ Hr.out).mono ?_
        rintro e w2 ⟨rfl, rfl⟩
        go_wp2_with fail
        refine (awake1_any _).mono ?_
        rintro e w2 ⟨rfl, hb2⟩
        have Hb2 := hide (Hb.out.trans (hb2.mono Hb.out.size))
        clear hb2
        rcases hd_cases l s n p Hn.out hp with ⟨rfl, he⟩ | ⟨rfl, rfl, he⟩ | ⟨rfl, hpn, he⟩
        all_goals
          first
          | have hpn' : (p : Int) < (n : Int) := by omega
          | skip
          first
          | have hpe : ((p : Int) == (n : Int)) = false := beq_eq_false_iff_ne.2 (by omega)
          | skip
          rw [he]
          clear he
          go_wp2_with fail
          refine (nil_n 1 _ (by omega)).mono ?_
          rintro e w3 ⟨rfl, rfl⟩
          go_wp2_with fail
          refine (nil_b 1 _).mono ?_
          rintro e w3 ⟨rfl, rfl⟩
          go_wp2_with fail
          refine (nil_left _).mono ?_
          rintro e w3 ⟨rfl, rfl⟩
          go_wp2_with fail
          refine (nil_end _).mono ?_
          rintro e w3 ⟨rfl, rfl⟩
          go_wp2
          go_ret
          exact ⟨rfl, Hb2.out⟩

set_option maxRecDepth 100000 in
theorem beReads_long (A A2 : Option Addr) (n c n2 c2 : Nat) (w : World) (hbig : 300 < n) :
    Calls Try.prog 5 #[.slice A n c, .slice A2 n2 c2] w fun e w' => e = .returned (.bool true) ∧ Below w.heap.size w w' := by
  have h300 : (300 : Int) < (n : Int) := by omega
  go_enter Try.func5, Try.ntmps5
  go_wp2_with fail
  refine (awake1_any _).mono ?_
  rintro e w1 ⟨rfl, hb⟩
  go_wp2
  go_ret
  exact ⟨rfl, hb⟩

end Go.Proofs.Ytfjlidngialpaaa
