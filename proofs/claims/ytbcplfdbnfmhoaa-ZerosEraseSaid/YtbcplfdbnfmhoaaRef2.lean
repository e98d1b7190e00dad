/-
  CONTRACTS of the statements' own package wagtailref02, second part: Ones, Program, Erase.
-/
import Derived.Test.YtbcplfdbnfmhoaaBit
namespace Go.Proofs.Ytbcplfdbnfmhoaa
open Go.RowKit

theorem bys_snoc (f : Nat → UInt8) (j : Nat) : bys ((List.range (j + 1)).map f) = bys ((List.range j).map f) ++ [.int .u8 ((f j).toNat : Int)] := by
  rw [List.range_succ, List.map_append, bys_app]; rfl

set_option maxHeartbeats 400000 in
theorem ones2_any (n : Nat) (w : World) (hbig : n ≤ 1000000000000) :
    Calls Try.prog 15 #[.int .i64 (n : Int)] w fun e w' => ∃ A' c', e = .returned (.slice A' n c') ∧
      w'.ownsRow w.heap.size 5 1 (.slice A' n c') n (bys (List.replicate n 255)) ∧ Below w.heap.size w w' := by
  go_enter Try.func15, Try.ntmps15
  go_wp2
  go_loopw [3, 4] (fun o i wr => ∃ j : Nat, j ≤ n ∧ i = .int .i64 (j : Int) ∧ ∃ A c, o = .slice A j c ∧
      wr.ownsRow w.heap.size 5 1 (.slice A j c) j (bys (List.replicate j 255)) ∧ Below w.heap.size w wr) (fun _ i _ => n - (intOf i).toNat)
  case atStart => exact ⟨0, Nat.zero_le _, rfl, none, 0, rfl, World.ownsRow_nil _ _ _ _, Below.refl _ _⟩
  case round =>
    obtain ⟨j, hj, rfl, A, c, rfl, ho, hb⟩ := hrel
    have Ho := hide ho
    clear ho
    by_cases hlt : j < n
    · have h1 : (j : Int) < (n : Int) := by omega
      have hsz := hb.size
      go_wp2_with (at_builtin; refine wpl_app _ rfl u8elems (.tmp 10) (.tmp 11) rfl w.heap.size (.slice A j c) j _ rfl (Ho.out.alloc _) (wr.heap.size + 1) (some ⟨wr.heap.size, 0, none⟩) 1 1 _ rfl (by rfl) (Lies.new wr _ _ _ _ (by omega)) (by simp [Value.oneCell']) (by unfold maxLen; omega) (by omega) (by simp; omega) ?_; intro A1 c1 w1 hown1 hg1 hat1; have Ho1 := hide hown1; have Hb1 := hide hg1; clear hown1 hg1 hat1)
      have hb1 : Below w.heap.size w w1 := (hb.alloc hsz _).grown Hb1.out (by simp; omega) (fun g hg => (Ho.out.lt g hg).1)
      refine ⟨⟨j + 1, by omega, by go_num, A1, c1, rfl, ?_, hb1⟩, by simp [intOf]; omega⟩
      have h3 := Ho1.out
      rw [List.replicate_succ', bys_app]
      exact h3
    · obtain rfl : j = n := by omega
      go_wp2
      go_ret
      exact ⟨A, c, rfl, Ho.out, hb⟩

set_option maxHeartbeats 2000000 in
theorem program2_any (A A2 A3 : Option Addr) (n c n2 c2 n3 c3 B : Nat) (l b m : List UInt8) (w : World) (h : Lies w B A (bys l)) (hn : n = l.length) (hbig : n ≤ 100000000000) (h2 : Lies w B A2 (bys b)) (hn2 : n2 = b.length) (hbig2 : n2 ≤ 100000000000)
    (h3 : Lies w B A3 (bys m)) (hn3 : n3 = m.length) (hbig3 : n3 ≤ 100000000000) (hB : B ≤ w.heap.size) :
    Calls Try.prog 17 #[.slice A n c, .slice A2 n2 c2, .slice A3 n3 c3] w fun e w' => ∃ A' c', e = .returned (.slice A' n c') ∧
      w'.ownsRow w.heap.size 5 1 (.slice A' n c') n (bys (progL l b m)) ∧ Below w.heap.size w w' := by
  have Hn := hide hn
  have Hl := hide h
  have Hn2 := hide hn2
  have Hl2 := hide h2
  have Hn3 := hide hn3
  have Hl3 := hide h3
  clear hn h hn2 h2 hn3 h3
  go_enter Try.func17, Try.ntmps17
  go_wp2
  go_loopw [7, 8] (fun o i wr => ∃ j : Nat, j ≤ n ∧ i = .int .i64 (j : Int) ∧ ∃ A c, o = .slice A j c ∧
      wr.ownsRow w.heap.size 5 1 (.slice A j c) j (bys ((List.range j).map (progB l b m))) ∧ Below w.heap.size w wr) (fun _ i _ => n - (intOf i).toNat)
  case atStart => exact ⟨0, Nat.zero_le _, rfl, none, 0, rfl, World.ownsRow_nil _ _ _ _, Below.refl _ _⟩
  case round =>
    obtain ⟨j, hj, rfl, A1, c1, rfl, ho, hb⟩ := hrel
    have Ho := hide ho
    have Hb := hide hb
    clear ho hb
    by_cases hlt : j < n
    · have h1 : (j : Int) < (n : Int) := by omega
      have hsz := Hb.out.size
      have HL := hide (Hl.out.below (Hb.out.mono hB))
      have HL2 := hide (Hl2.out.below (Hb.out.mono hB))
      have HL3 := hide (Hl3.out.below (Hb.out.mono hB))
      go_wp2
      go_loop [9, 10] (fun s i => ∃ k : Nat, k ≤ 8 ∧ i = .int .i64 (8 * (j : Int) + (k : Int)) ∧ s = .int .i64 (obits (fun k => progF l b m (8 * j + k)) k : Nat)) (fun _ i => 8 * j + 8 - (intOf i).toNat)
      case atStart => exact ⟨0, Nat.zero_le _, by simp, rfl⟩
      case round =>
        obtain ⟨k, hk, rfl, rfl⟩ := hrel
        have ho1 := obits_lt (fun k => progF l b m (8 * j + k)) k
        have ho2 : 2 ^ k ≤ 256 := Nat.pow_le_pow_right (n := 2) (by omega) (show k ≤ 8 by omega)
        have Hos := hide (show obits (fun k => progF l b m (8 * j + k)) (k + 1) = obits (fun k => progF l b m (8 * j + k)) k + (if progF l b m (8 * j + k) then 2 ^ k else 0) from rfl)
        have Hpf := hide (show progF l b m (8 * j + k) = (bitAt l (8 * j + k) == 1 && !(decide ((8 * j + k) / 8 < b.length) && inMask m (8 * j + k) && bitAt b (8 * j + k) == 0)) from rfl)
        obtain ⟨s, hs⟩ : ∃ s, s = obits (fun k => progF l b m (8 * j + k)) k := ⟨_, rfl⟩
        rw [← hs] at ho1 Hos ⊢
        obtain ⟨p2, hp2⟩ : ∃ p2, p2 = 2 ^ k := ⟨_, rfl⟩
        rw [← hp2] at ho1 ho2 Hos
        have Hs := hide hs
        have Hp2 := hide hp2
        clear hs hp2
        by_cases hk8 : k < 8
        · have h8 : 8 * (j : Int) + (k : Int) < 8 * (j : Int) + 8 := by omega
          have hq : Hid ((8 * j + k) / 8 = j) := hide (by omega)
          have hir : 8 * j + k < 8 * n := by omega
          have ei : 8 * (j : Int) + (k : Int) = ((8 * j + k : Nat) : Int) := by omega
          have Ei := hide ei
          clear ei
          obtain ⟨i, hi⟩ : ∃ i, i = 8 * j + k := ⟨_, rfl⟩
          have fb : ∀ W, W = wr → Calls Try.prog 23 #[.slice A n c, .int .i64 (8 * (j : Int) + (k : Int))] W fun e w' => e = .returned (.int .i64 (bitAt l (8 * j + k) : Nat)) ∧ W = w' := by
            rintro W rfl; rw [Ei.out]; exact bit_any A n c B l _ _ HL.out Hn.out (by omega) hir
          have fm : ∀ W, W = wr → Calls Try.prog 27 #[.slice A3 n3 c3, .int .i64 (8 * (j : Int) + (k : Int))] W fun e w' => e = .returned (.bool (inMask m (8 * j + k))) ∧ W = w' := by
            rintro W rfl; rw [Ei.out]; exact masked_any A3 n3 c3 B m _ _ HL3.out Hn3.out (by omega) (by omega)
          have fb2 : ∀ W, W = wr → j < n2 → Calls Try.prog 23 #[.slice A2 n2 c2, .int .i64 (8 * (j : Int) + (k : Int))] W fun e w' => e = .returned (.int .i64 (bitAt b (8 * j + k) : Nat)) ∧ W = w' := by
            rintro W rfl hj2; rw [Ei.out]; exact bit_any A2 n2 c2 B b _ _ HL2.out Hn2.out (by omega) (by omega)
          have fp : ∀ W, W = wr → Calls Try.prog 28 #[.int .i64 (8 * (j : Int) + (k : Int))] W fun e w' => e = .returned (.int .i64 (p2 : Int)) ∧ W = w' := by
            rintro W rfl; rw [Ei.out, Hp2.out]
            have := powers_any (8 * j + k) W (by omega)
            rwa [show (8 * j + k) % 8 = k by omega] at this
          have Fb := hide fb
          have Fm := hide fm
          have Fb2 := hide fb2
          have Fp := hide fp
          clear fb fm fb2 fp
          have hb1 := bitAt_two l (8 * j + k)
          have hb2 := bitAt_two b (8 * j + k)
          by_cases hjb : j < n2
          · have hjb' : (j : Int) < (n2 : Int) := by omega
            have Hjd := hide (show decide ((8 * j + k) / 8 < b.length) = true by rw [hq.out, ← Hn2.out]; simpa using hjb)
            go_wp2_with fail
            refine (Fm.out _ rfl).mono ?_
            rintro e w2 ⟨rfl, rfl⟩
            obtain ⟨im, him⟩ : ∃ im, im = inMask m (8 * j + k) := ⟨_, rfl⟩
            rw [← him]
            have Him := hide him
            clear him
            cases im
            · go_wp2_with fail
              refine (Fb.out _ rfl).mono ?_
              rintro e w2 ⟨rfl, rfl⟩
              rcases hb1 with hb1 | hb1
              · rw [hb1]
                have Hb1 := hide hb1
                clear hb1
                go_wp2
                go_round
                case rel => exact ⟨k + 1, by omega, by go_num, by rw [Hos.out, Hpf.out, Hb1.out]; first | rfl | simp⟩
                case measure => simp [intOf]; omega
              · rw [hb1]
                have Hb1 := hide hb1
                clear hb1
                go_wp2_with fail
                refine (Fp.out _ rfl).mono ?_
                rintro e w2 ⟨rfl, rfl⟩
                go_wp2
                go_round
                case rel => exact ⟨k + 1, by omega, by go_num, by rw [Hos.out, Hpf.out, Hb1.out, ← Him.out]; simp⟩
                case measure => simp [intOf]; omega
            · go_wp2_with fail
              refine (Fb2.out _ rfl hjb).mono ?_
              rintro e w2 ⟨rfl, rfl⟩
              rcases hb2 with hb2 | hb2
              all_goals
                rw [hb2]
                have Hb2 := hide hb2
                clear hb2
                go_wp2_with fail
                refine (Fb.out _ rfl).mono ?_
                rintro e w2 ⟨rfl, rfl⟩
                rcases hb1 with hb1 | hb1
                · rw [hb1]
                  have Hb1 := hide hb1
                  clear hb1
                  go_wp2
                  go_round
                  case rel => exact ⟨k + 1, by omega, by go_num, by rw [Hos.out, Hpf.out, Hb1.out]; first | rfl | simp⟩
                  case measure => simp [intOf]; omega
                · rw [hb1]
                  have Hb1 := hide hb1
                  clear hb1
                  go_wp2_with (refine (Fp.out _ rfl).mono ?_; rintro e w2 ⟨rfl, rfl⟩)
                  go_round
                  case rel => exact ⟨k + 1, by omega, by go_num, by rw [Hos.out, Hpf.out, Hb1.out, Hb2.out, Hjd.out, ← Him.out]; simp⟩
                  case measure => simp [intOf]; omega
          · have hjb' : ¬ (j : Int) < (n2 : Int) := by omega
            have Hjd := hide (show decide ((8 * j + k) / 8 < b.length) = false by rw [hq.out, ← Hn2.out]; simpa using hjb)
            go_wp2_with fail
            refine (Fb.out _ rfl).mono ?_
            rintro e w2 ⟨rfl, rfl⟩
            rcases hb1 with hb1 | hb1
            · rw [hb1]
              have Hb1 := hide hb1
              clear hb1
              go_wp2
              go_round
              case rel => exact ⟨k + 1, by omega, by go_num, by rw [Hos.out, Hpf.out, Hb1.out]; first | rfl | simp⟩
              case measure => simp [intOf]; omega
            · rw [hb1]
              have Hb1 := hide hb1
              clear hb1
              go_wp2_with fail
              refine (Fp.out _ rfl).mono ?_
              rintro e w2 ⟨rfl, rfl⟩
              go_wp2
              go_round
              case rel => exact ⟨k + 1, by omega, by go_num, by rw [Hos.out, Hpf.out, Hb1.out, Hjd.out]; simp⟩
              case measure => simp [intOf]; omega
        · obtain rfl : k = 8 := by omega
          have h8 : ¬ 8 * (j : Int) + 8 < 8 * (j : Int) + 8 := by omega
          have hs8 : s = (progB l b m j).toNat := by rw [Hs.out]; exact prog_obits l b m j
          subst hs8
          go_wp2_with (at_builtin; refine wpl_app _ rfl u8elems (.tmp 54) (.tmp 57) rfl w.heap.size (.slice A1 j c1) j _ rfl (Ho.out.alloc _) (wr.heap.size + 1) (some ⟨wr.heap.size, 0, none⟩) 1 1 _ rfl (by rfl) (Lies.new wr _ _ _ _ (by omega)) (by simp [Value.oneCell']) (by unfold maxLen; omega) (by omega) (by simp; omega) ?_; intro A4 c4 w1 hown1 hg1 hat1; have Ho1 := hide hown1; have Hb1 := hide hg1; clear hown1 hg1 hat1)
          have hb1 : Below w.heap.size w w1 := (Hb.out.alloc hsz _).grown Hb1.out (by simp; omega) (fun g hg => (Ho.out.lt g hg).1)
          refine ⟨⟨j + 1, by omega, by go_num, A4, c4, rfl, ?_, hb1⟩, by simp [intOf]; omega⟩
          have h3 := Ho1.out
          rw [bys_snoc]
          have e : IntKind.u8.wrap ((progB l b m j).toNat : Int) = ((progB l b m j).toNat : Int) := by rw [IntKind.wrap_u8']; omega
          first | exact h3 | (rw [e] at h3; exact h3)
    · obtain rfl : j = n := by omega
      go_wp2
      go_ret
      exact ⟨A1, c1, rfl, by have h := Ho.out; rw [Hn.out] at h ⊢; exact h, Hb.out⟩

set_option maxHeartbeats 2000000 in
theorem erase2_any (A A3 : Option Addr) (n c n3 c3 B : Nat) (l m : List UInt8) (w : World) (h : Lies w B A (bys l)) (hn : n = l.length) (hbig : n ≤ 100000000000)
    (h3 : Lies w B A3 (bys m)) (hn3 : n3 = m.length) (hbig3 : n3 ≤ 100000000000) (hB : B ≤ w.heap.size) :
    Calls Try.prog 20 #[.slice A n c, .slice A3 n3 c3] w fun e w' => ∃ A' c', e = .returned (.slice A' n c') ∧
      w'.ownsRow w.heap.size 5 1 (.slice A' n c') n (bys (erasL l m)) ∧ Below w.heap.size w w' := by
  have Hn := hide hn
  have Hl := hide h
  have Hn3 := hide hn3
  have Hl3 := hide h3
  clear hn h hn3 h3
  go_enter Try.func20, Try.ntmps20
  go_wp2
  go_loopw [5, 6] (fun o i wr => ∃ j : Nat, j ≤ n ∧ i = .int .i64 (j : Int) ∧ ∃ A c, o = .slice A j c ∧
      wr.ownsRow w.heap.size 5 1 (.slice A j c) j (bys ((List.range j).map (erasB l m))) ∧ Below w.heap.size w wr) (fun _ i _ => n - (intOf i).toNat)
  case atStart => exact ⟨0, Nat.zero_le _, rfl, none, 0, rfl, World.ownsRow_nil _ _ _ _, Below.refl _ _⟩
  case round =>
    obtain ⟨j, hj, rfl, A1, c1, rfl, ho, hb⟩ := hrel
    have Ho := hide ho
    have Hb := hide hb
    clear ho hb
    by_cases hlt : j < n
    · have h1 : (j : Int) < (n : Int) := by omega
      have hsz := Hb.out.size
      have HL := hide (Hl.out.below (Hb.out.mono hB))
      have HL3 := hide (Hl3.out.below (Hb.out.mono hB))
      go_wp2
      go_loop [7, 8] (fun s i => ∃ k : Nat, k ≤ 8 ∧ i = .int .i64 (8 * (j : Int) + (k : Int)) ∧ s = .int .i64 (obits (fun k => erasF l m (8 * j + k)) k : Nat)) (fun _ i => 8 * j + 8 - (intOf i).toNat)
      case atStart => exact ⟨0, Nat.zero_le _, by simp, rfl⟩
      case round =>
        obtain ⟨k, hk, rfl, rfl⟩ := hrel
        have ho1 := obits_lt (fun k => erasF l m (8 * j + k)) k
        have ho2 : 2 ^ k ≤ 256 := Nat.pow_le_pow_right (n := 2) (by omega) (show k ≤ 8 by omega)
        have Hos := hide (show obits (fun k => erasF l m (8 * j + k)) (k + 1) = obits (fun k => erasF l m (8 * j + k)) k + (if erasF l m (8 * j + k) then 2 ^ k else 0) from rfl)
        have Hpf := hide (show erasF l m (8 * j + k) = (bitAt l (8 * j + k) == 1 || inMask m (8 * j + k)) from rfl)
        obtain ⟨s, hs⟩ : ∃ s, s = obits (fun k => erasF l m (8 * j + k)) k := ⟨_, rfl⟩
        rw [← hs] at ho1 Hos ⊢
        obtain ⟨p2, hp2⟩ : ∃ p2, p2 = 2 ^ k := ⟨_, rfl⟩
        rw [← hp2] at ho1 ho2 Hos
        have Hs := hide hs
        have Hp2 := hide hp2
        clear hs hp2
        by_cases hk8 : k < 8
        · have h8 : 8 * (j : Int) + (k : Int) < 8 * (j : Int) + 8 := by omega
          have hir : 8 * j + k < 8 * n := by omega
          have ei : 8 * (j : Int) + (k : Int) = ((8 * j + k : Nat) : Int) := by omega
          have Ei := hide ei
          clear ei
          have fb : ∀ W, W = wr → Calls Try.prog 23 #[.slice A n c, .int .i64 (8 * (j : Int) + (k : Int))] W fun e w' => e = .returned (.int .i64 (bitAt l (8 * j + k) : Nat)) ∧ W = w' := by
            rintro W rfl; rw [Ei.out]; exact bit_any A n c B l _ _ HL.out Hn.out (by omega) hir
          have fm : ∀ W, W = wr → Calls Try.prog 27 #[.slice A3 n3 c3, .int .i64 (8 * (j : Int) + (k : Int))] W fun e w' => e = .returned (.bool (inMask m (8 * j + k))) ∧ W = w' := by
            rintro W rfl; rw [Ei.out]; exact masked_any A3 n3 c3 B m _ _ HL3.out Hn3.out (by omega) (by omega)
          have fp : ∀ W, W = wr → Calls Try.prog 28 #[.int .i64 (8 * (j : Int) + (k : Int))] W fun e w' => e = .returned (.int .i64 (p2 : Int)) ∧ W = w' := by
            rintro W rfl; rw [Ei.out, Hp2.out]
            have := powers_any (8 * j + k) W (by omega)
            rwa [show (8 * j + k) % 8 = k by omega] at this
          have Fb := hide fb
          have Fm := hide fm
          have Fp := hide fp
          clear fb fm fp
          have hb1 := bitAt_two l (8 * j + k)
          go_wp2_with fail
          refine (Fb.out _ rfl).mono ?_
          rintro e w2 ⟨rfl, rfl⟩
          rcases hb1 with hb1 | hb1
          · rw [hb1]
            have Hb1 := hide hb1
            clear hb1
            go_wp2_with fail
            refine (Fm.out _ rfl).mono ?_
            rintro e w2 ⟨rfl, rfl⟩
            obtain ⟨im, him⟩ : ∃ im, im = inMask m (8 * j + k) := ⟨_, rfl⟩
            rw [← him]
            have Him := hide him
            clear him
            cases im
            · go_wp2
              go_round
              case rel => exact ⟨k + 1, by omega, by go_num, by rw [Hos.out, Hpf.out, Hb1.out, ← Him.out]; first | rfl | simp⟩
              case measure => simp [intOf]; omega
            · go_wp2_with (refine (Fp.out _ rfl).mono ?_; rintro e w2 ⟨rfl, rfl⟩)
              go_round
              case rel => exact ⟨k + 1, by omega, by go_num, by rw [Hos.out, Hpf.out, Hb1.out, ← Him.out]; first | rfl | simp⟩
              case measure => simp [intOf]; omega
          · rw [hb1]
            have Hb1 := hide hb1
            clear hb1
            go_wp2_with (refine (Fp.out _ rfl).mono ?_; rintro e w2 ⟨rfl, rfl⟩)
            go_round
            case rel => exact ⟨k + 1, by omega, by go_num, by rw [Hos.out, Hpf.out, Hb1.out]; first | rfl | simp⟩
            case measure => simp [intOf]; omega
        · obtain rfl : k = 8 := by omega
          have h8 : ¬ 8 * (j : Int) + 8 < 8 * (j : Int) + 8 := by omega
          have hs8 : s = (erasB l m j).toNat := by rw [Hs.out]; exact eras_obits l m j
          subst hs8
          go_wp2_with (at_builtin; refine wpl_app _ rfl u8elems (.tmp 37) (.tmp 40) rfl w.heap.size (.slice A1 j c1) j _ rfl (Ho.out.alloc _) (wr.heap.size + 1) (some ⟨wr.heap.size, 0, none⟩) 1 1 _ rfl (by rfl) (Lies.new wr _ _ _ _ (by omega)) (by simp [Value.oneCell']) (by unfold maxLen; omega) (by omega) (by simp; omega) ?_; intro A4 c4 w1 hown1 hg1 hat1; have Ho1 := hide hown1; have Hb1 := hide hg1; clear hown1 hg1 hat1)
          have hb1 : Below w.heap.size w w1 := (Hb.out.alloc hsz _).grown Hb1.out (by simp; omega) (fun g hg => (Ho.out.lt g hg).1)
          refine ⟨⟨j + 1, by omega, by go_num, A4, c4, rfl, ?_, hb1⟩, by simp [intOf]; omega⟩
          have h3 := Ho1.out
          rw [bys_snoc]
          have e : IntKind.u8.wrap ((erasB l m j).toNat : Int) = ((erasB l m j).toNat : Int) := by rw [IntKind.wrap_u8']; omega
          first | exact h3 | (rw [e] at h3; exact h3)
    · obtain rfl : j = n := by omega
      go_wp2
      go_ret
      exact ⟨A1, c1, rfl, by have h := Ho.out; rw [Hn.out] at h ⊢; exact h, Hb.out⟩

end Go.Proofs.Ytbcplfdbnfmhoaa
