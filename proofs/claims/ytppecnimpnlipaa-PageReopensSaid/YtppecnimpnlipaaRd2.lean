/-
  THE REFERENCE OF LAYER 14: Part. 
-/
import Derived.Test.YtppecnimpnlipaaRd1
import Derived.Deep.DeepCutAuto
namespace Go.Proofs.Ytppecnimpnlipaa
open Go.RowKit

theorem lt_add {a : Addr} {j B : Nat} (h : a.block < B) : (a.add j).block < B := by
  have e : (a.add j).block = a.block := by unfold Addr.add; split <;> rfl
  rw [e]; exact h
theorem measR {K Z2 : Nat} (h : K < Z2) : Z2 - (intOf (.int .i64 ((K + 1 : Nat) : Int))).toNat < Z2 - (intOf (.int .i64 (K : Int))).toNat := by
  show Z2 - ((K + 1 : Nat) : Int).toNat < Z2 - (K : Int).toNat
  omega
set_option maxRecDepth 4000 in
set_option maxHeartbeats 2000000 in
theorem part_any (A1 A2 A3 : Option Addr) (n1 c1 c2 n3 c3 B : Nat) (o b m : List UInt8) (w : World) (h1 : Lies w B A1 (bys o)) (e1 : n1 = o.length) (h2 : Lies w B A2 (bys b)) (e2 : n1 = b.length) (h3 : Lies w B A3 (bys m)) (e3 : n3 = m.length) (hB : B ≤ w.heap.size) (hbig : n1 ≤ 1000000) (hbig3 : n3 ≤ 1000000) :
    Calls Try.prog 33 #[.slice A1 n1 c1, .slice A2 n1 c2, .slice A3 n3 c3] w fun e w' => ∃ A' c', e = .returned (.slice A' n1 c') ∧
      w'.ownsRow w.heap.size 5 1 (.slice A' n1 c') n1 (bys (progL o b m)) ∧ Below w.heap.size w w' := by
  have H1 := hide h1
  have E1 := hide e1
  have H2 := hide h2
  have E2 := hide e2
  have H3 := hide h3
  have E3 := hide e3
  clear h1 e1 h2 e2 h3 e3
  go_enter Try.func33, Try.ntmps33
  go_wp2
  go_loopw [7, 8] (fun out i wr => ∃ j : Nat, j ≤ n1 ∧ i = .int .i64 (j : Int) ∧ ∃ A c, out = .slice A j c ∧
      wr.ownsRow w.heap.size 5 1 (.slice A j c) j (bys ((List.range j).map (progB o b m))) ∧ Below w.heap.size w wr) (fun _ i _ => n1 - (intOf i).toNat)
  case atStart => exact ⟨0, Nat.zero_le _, rfl, none, 0, rfl, World.ownsRow_nil _ _ _ _, Below.refl _ _⟩
  case round =>
    obtain ⟨j, hj, rfl, A0, c0, rfl, ho, hb⟩ := hrel
    have Ho := hide ho
    have Hb := hide hb
    clear ho
    have hsz := hb.size
    by_cases hlt : j < n1
    · have hlt' : (j : Int) < (n1 : Int) := by omega
      have e1 : wrap64 ((j : Int) + 1) = ((j + 1 : Nat) : Int) := by rw [i64wR (by omega)]; rfl
      obtain ⟨a, rfl, hab, hca⟩ := (H1.out.below (hb.mono hB)).byte (k := j) (by rw [← E1.out]; exact hlt)
      obtain ⟨a2, rfl, hab2, hcb⟩ := (H2.out.below (hb.mono hB)).byte (k := j) (by rw [← E2.out]; exact hlt)
      have hx : progB o b m j = mixB (o.getD j 0) (o.getD j 0 &&& b.getD j 0) (maskB m j) := by unfold progB; rw [if_pos (by rw [← E2.out]; exact hlt)]
      obtain ⟨p, q, r, k1, k2, k3, k4⟩ := part_nums (o.getD j 0) (b.getD j 0) (maskB m j)
      rw [← hx] at k4
      obtain ⟨mi, hmi⟩ : ∃ mi, mi = (maskB m j).toNat := ⟨_, rfl⟩
      have Hmi := hide hmi
      rw [← hmi] at k1
      generalize hz : (progB o b m j).toNat = z at k4
      have Hz := hide hz
      generalize (o.getD j 0).toNat = oi at *
      generalize (b.getD j 0).toNat = bi at *
      have habB := Nat.lt_of_lt_of_le hab hB
      have hab2B := Nat.lt_of_lt_of_le hab2 hB
      have Ka := hide (And.intro hca habB)
      have Kb := hide (And.intro hcb hab2B)
      have K1 := hide k1
      have K2 := hide k2
      have K3 := hide k3
      have K4 := hide k4
      clear hx hmi hz hab hab2 hca hcb habB hab2B k1 k2 k3 k4
      go_upto_if 18 with fail
      go_cut [9] (fun s9 wx => wx = wr ∧ s9 = .int .u8 (mi : Int))
      case first =>
        by_cases h0 : n3 = 0
        · subst h0
          have hm0 : mi = 0 := by rw [Hmi.out, List.eq_nil_of_length_eq_zero E3.out.symm]; rfl
          subst hm0
          clear hb hlt
          go_wp2
          go_meet
          exact ⟨rfl, rfl⟩
        · have hpos : (0 : Int) < (n3 : Int) := by omega
          have hne : ((n3 : Int) == 0) = false := by rw [beq_eq_false_iff_ne]; omega
          obtain ⟨k, hk, hk8⟩ : ∃ k, k = j % n3 ∧ k < n3 := ⟨_, rfl, Nat.mod_lt _ (by omega)⟩
          have e2 : (j : Int) % (n3 : Int) = (k : Int) := by rw [hk]; simp
          obtain ⟨a3, rfl, _, hcm⟩ := (H3.out.below (hb.mono hB)).byte (k := k) (by rw [← E3.out]; exact hk8)
          have hmk : mi = (m.getD k 0).toNat := by rw [Hmi.out, maskB_pos (by rw [← E3.out]; omega), hk, E3.out]
          rw [← hmk] at hcm
          have hkk : (k : Int) < (n3 : Int) := by omega
          clear hb hmk hk h0 hlt
          go_wp2
          go_meet
          exact ⟨rfl, rfl⟩
      case rest =>
        obtain ⟨rfl, rfl⟩ := hcut
        have k1 := K1.out
        have k2 := K2.out
        have k3 := K3.out
        have k4 := K4.out
        have Hj := hide (And.intro hlt hbig)
        have HszB := hide hsz
        clear hb hlt hsz
        go_upto_region 8 with fail
        have hj := Hj.out
        have ca := Ka.out.1
        have cb := Kb.out.1
        go_region_law (refine step_app _ rfl u8elems (.tmp 26) (.tmp 44) rfl w.heap.size (.slice A0 j c0) j _ (by simp [Act.eval]) ((Ho.out.alloc _).drew) (wc.heap.size + 1) (some ⟨wc.heap.size, 0, none⟩) 1 1 _ (by simp [Act.eval]) (by rfl) ((Lies.new wc _ _ _ _ (by omega)).drew) (by simp [Value.oneCell']) (by unfold maxLen; omega) (by omega) (by have := HszB.out; simp; omega) ?_; intro A4 c4 w1 hown1 hg1 hat1; have Ho1 := hide hown1; have Hb1 := hide hg1; clear hown1 hg1 hat1)
        all_goals
          go_wp2
          have hb1 : Below w.heap.size w w1 := (((Hb.out.alloc HszB.out _).drew).grown Hb1.out (by have := HszB.out; simp; omega) (fun g hg => (Ho.out.lt g hg).1))
          refine ⟨⟨j + 1, Nat.succ_le_of_lt Hj.out.1, by go_num, A4, c4, rfl, ?_, hb1⟩, by have := Hj.out.1; simp [intOf]; omega⟩
          have h3 := Ho1.out
          rw [bys_snoc, Hz.out]
          exact h3
    · obtain rfl : j = n1 := by omega
      go_wp2
      go_ret
      exact ⟨A0, c0, rfl, by unfold progL; rw [← E1.out]; exact Ho.out, Hb.out⟩
end Go.Proofs.Ytppecnimpnlipaa
