/-
  NandDoes: same.
-/
import Derived.Test.YtppecnimpnlipaaRd7
namespace Go.Proofs.Ytppecnimpnlipaa
open Go.RowKit
open Go.Sort

section
variable {w : World} {B0 B B1 B2 : Nat} {q : Pn} {D : Dv} {k kb kp km r rp rn rw cp cn cw : Nat}
set_option maxRecDepth 4000 in
set_option maxHeartbeats 4000000 in
/-- A device and the reference's, of one model, look the same. -/
theorem same_any (hd : DevAt w B0 B D k kb kp km) (hr : RefAt w B1 B2 q D r rp rn rw cp cn cw) :
    Calls Try.prog 22 #[.pointer (some ⟨k, 0, none⟩), .pointer (some ⟨r, 0, none⟩)] w fun e w' => e = .returned (.bool true) ∧ Below w.heap.size w w' := by
  obtain ⟨s1, s2, s3, s4, s5, s6⟩ := hd.sides
  have hnb : D.nb ≤ 34 := s2
  have S5 := hide s5
  have HD := hide hd
  have HR := hide hr
  have c8 : w.cell? ⟨r, 8, none⟩ = some (.int .i64 (D.ops : Int)) := hr.c 8 _ rfl
  have c9 : w.cell? ⟨r, 9, none⟩ = some (.bool D.dn) := hr.c 9 _ rfl
  have F1 := fun n => ops_any (hd.below (bel_drewN (Below.refl B w) n))
  have F2 := fun n => down_any (hd.below (bel_drewN (Below.refl B w) n))
  clear hd hr s1 s2 s3 s4 s5 s6
  go_enter Try.func22, Try.ntmps22
  go_upto_region 1 with fail
  go_quiet (first | (go_at_call 44; refine (F1 _).mono ?_; rintro e w' ⟨rfl, rfl⟩; exact ⟨rfl, _, rfl⟩) | (go_at_call 41; refine (F2 _).mono ?_; rintro e w' ⟨rfl, rfl⟩; exact ⟨rfl, _, rfl⟩))
  clear F1 F2 c8 c9
  go_wp2
  go_loopw [5] (fun i wr => ∃ j : Nat, j ≤ D.nb ∧ i = .int .i64 (j : Int) ∧ DevAt wr B0 B D k kb kp km ∧ RefAt wr B1 B2 q D r rp rn rw cp cn cw ∧ Below w.heap.size w wr) (fun i _ => D.nb - (intOf i).toNat)
  case atStart => exact ⟨0, Nat.zero_le _, rfl, HD.out.below (bel_drewN (Below.refl _ _) _), HR.out.below (bel_drewN (Below.refl _ _) _), bel_drewN (Below.refl _ _) _⟩
  case round =>
    obtain ⟨j, hj, rfl, hd, hr, hb⟩ := hrel
    have Hd := hide hd
    have Hr := hide hr
    have Hb := hide hb
    have c0 : wr.cell? ⟨r, 0, none⟩ = some (.int .i64 (D.nb : Int)) := by rw [← S5.out]; exact hr.c 0 _ rfl
    by_cases hlt : j < D.nb
    · have hlt' : (j : Int) < (D.nb : Int) := by omega
      have e1 : wrap64 ((j : Int) + 1) = ((j + 1 : Nat) : Int) := by rw [i64w (by omega)]; rfl
      have c3 : wr.cell? ⟨r, 3, none⟩ = some (.slice q.A1 q.n1 q.c1) := hr.c 3 _ rfl
      have c5 : wr.cell? ⟨r, 5, none⟩ = some (.slice (some ⟨rn, 0, none⟩) D.nb cn) := hr.c 5 _ rfl
      have c6 : wr.cell? ⟨r, 6, none⟩ = some (.slice (some ⟨rw, 0, none⟩) D.nb cw) := hr.c 6 _ rfl
      have cx := hr.next.cell hlt
      have cy := hr.wear.cell hlt
      have F1 := fun m => next_some (hd.below (bel_drewN (Below.refl B wr) m)) j hlt
      have F2 := fun m => wear_some (hd.below (bel_drewN (Below.refl B wr) m)) j hlt
      have F3 := fun m => marked_some (hd.below (bel_drewN (Below.refl B wr) m)) j hlt
      have F4 := fun m => has_any q.A1 q.n1 q.c1 B1 q.bl (j : Int) (wr.drewN m) (hr.plan.l1.drewN m) hr.plan.h1 (Nat.le_trans hr.few.1 (by decide))
      rw [← hr.bad j hlt] at F4
      have Hj := hide hlt
      clear hd hr hb hlt
      go_upto_region 6 with fail
      clear c0
      go_quiet (first | (go_at_call 43; refine (F1 _).mono ?_; rintro e w' ⟨rfl, rfl⟩; exact ⟨rfl, _, rfl⟩) | (go_at_call 59; refine (F2 _).mono ?_; rintro e w' ⟨rfl, rfl⟩; exact ⟨rfl, _, rfl⟩) | (go_at_call 42; refine (F3 _).mono ?_; rintro e w' ⟨rfl, rfl⟩; exact ⟨rfl, _, rfl⟩) | (go_at_call 53; refine (F4 _).mono ?_; rintro e w' ⟨rfl, rfl⟩; exact ⟨rfl, _, rfl⟩))
      clear F1 F2 F3 F4 c3 c5 c6 cx cy
      go_wp2
      go_round
      case rel => exact ⟨j + 1, Nat.succ_le_of_lt Hj.out, congrArg (Value.int .i64) (Int.natCast_succ j).symm, Hd.out.below (bel_drewN (Below.refl _ _) _), Hr.out.below (bel_drewN (Below.refl _ _) _), bel_drewN Hb.out _⟩
      case measure => rw [← Int.natCast_succ]; exact measR Hj.out
    · obtain rfl : j = D.nb := by omega
      clear hd hr hb
      go_wp2
      go_ret
      exact ⟨rfl, Hb.out⟩
end
end Go.Proofs.Ytppecnimpnlipaa
