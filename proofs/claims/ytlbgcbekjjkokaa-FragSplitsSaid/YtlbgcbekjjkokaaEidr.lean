/-
  CONTRACTS of package eid that first blocks want: HasPrefix, proper, Right: which names may be.
-/
import Derived.Test.YtlbgcbekjjkokaaPlain
import Derived.Test.YtlbgcbekjjkokaaBun1
import Derived.Test.YtlbgcbekjjkokaaFlow
import Derived.Deep.RegionWith
import Derived.Deep.DeepCutAuto
namespace Go.Proofs.Ytlbgcbekjjkokaa
open Go.RowKit

/-- A Name that may be, of a name that is somebody's. -/
def slashB (s : ByteArray) : Bool := ((s.extract 0 2).toList == [47, 47])
def okB (l : List UInt8) : Bool := l.all fun b => decide (33 ≤ b.toNat ∧ b.toNat ≤ 126)
def properB (s : ByteArray) : Bool := decide (3 ≤ s.size ∧ s.size ≤ 64) && slashB s && okB s.data.toList
/-- A name that may be. -/
def Nm.right (e : Nm) : Bool :=
  (decide (e.sch = 2) && decide (e.name.size = 0)) || (decide (e.sch = 1 ∧ e.node = 0 ∧ e.svc = 0) && (decide (e.name.size = 0) || properB e.name))

theorem slPrefix_run (s : ByteArray) (w : World) (h : 3 ≤ s.size) : Calls Try.prog 81 #[.string s, .string ⟨#[47, 47]⟩] w fun e w' => e = .returned (.bool (slashB s)) ∧ Below w.heap.size w w' := by
  have h1 : (2 : Int) ≤ (s.size : Int) := by omega
  have h2 : ((2 : Int) ≤ (s.size : Int)) = True := eq_true h1
  unfold slashB
  go_enter Try.func81, Try.ntmps81
  go_wp2
  go_ret
  exact ⟨rfl, Below.refl _ _⟩
theorem hasPrefix_run (s : ByteArray) (w : World) (h : 3 ≤ s.size) : Calls Try.prog 78 #[.string s, .string ⟨#[47, 47]⟩] w fun e w' => e = .returned (.bool (slashB s)) ∧ Below w.heap.size w w' := by
  have fp := slPrefix_run s w h
  generalize slashB s = b at *
  go_enter Try.func78, Try.ntmps78
  go_wp2_with fail
  (with_reducible refine fp.mono ?_)
  rintro e w1 ⟨rfl, hb⟩
  go_wp2
  go_ret
  exact ⟨rfl, hb⟩
theorem proper_run (s : ByteArray) (w : World) : Calls Try.prog 71 #[.string s] w fun e w' => e = .returned (.bool (properB s)) ∧ Below w.heap.size w w' := by
  by_cases h3 : 3 ≤ s.size
  · have h3' : (3 : Int) ≤ (s.size : Int) := by omega
    by_cases h64 : s.size ≤ 64
    · have h64' : (s.size : Int) ≤ 64 := by omega
      have fp := hasPrefix_run s w h3
      have fq := fun W => plainB_run s W
      have Hq := hide (show plainB s.data.toList = okB s.data.toList by
        unfold plainB
        rw [plainAll_bytes]
        have : s.data.toList.isEmpty = false := by
          have : s.size = s.data.toList.length := by rw [Array.length_toList]; rfl
          cases hl : s.data.toList with
          | nil => rw [hl] at this; simp only [List.length_nil] at this; omega
          | cons => rfl
        rw [this]; rfl)
      have Hr := hide (show properB s = (slashB s && okB s.data.toList) by unfold properB; rw [decide_eq_true (show 3 ≤ s.size ∧ s.size ≤ 64 from ⟨h3, h64⟩)]; rfl)
      rw [Hr.out]
      rw [Hq.out] at fq
      clear Hr Hq
      generalize okB s.data.toList = c at *
      cases hb : slashB s with
      | true =>
        rw [hb] at fp
        clear hb h3 h64
        go_enter Try.func71, Try.ntmps71
        go_wp2_with fail
        (with_reducible refine fp.mono ?_)
        rintro e w1 ⟨rfl, hb1⟩
        have Hb1 := hide hb1
        have hz := hb1.size
        clear hb1 fp
        go_wp2_with fail
        (with_reducible refine (fq _).mono ?_)
        rintro e w2 ⟨rfl, hb2⟩
        have Hb2 := hide (Hb1.out.trans (hb2.mono hz))
        clear hb2 fq
        go_wp2
        go_ret
        exact ⟨rfl, Hb2.out⟩
      | false =>
        rw [hb] at fp
        clear hb h3 h64
        go_enter Try.func71, Try.ntmps71
        go_wp2_with fail
        (with_reducible refine fp.mono ?_)
        rintro e w1 ⟨rfl, hb1⟩
        have Hb1 := hide hb1
        clear hb1 fp
        go_wp2
        go_ret
        exact ⟨rfl, Hb1.out⟩
    · have h64' : ¬ (s.size : Int) ≤ 64 := by omega
      have Hr := hide (show properB s = false by unfold properB; rw [decide_eq_false (show ¬ (3 ≤ s.size ∧ s.size ≤ 64) from fun h => h64 h.2)]; rfl)
      rw [Hr.out]
      clear h3 h64
      go_enter Try.func71, Try.ntmps71
      go_wp2
      go_ret
      exact ⟨rfl, Below.refl _ _⟩
  · have h3' : ¬ (3 : Int) ≤ (s.size : Int) := by omega
    have Hr := hide (show properB s = false by unfold properB; rw [decide_eq_false (show ¬ (3 ≤ s.size ∧ s.size ≤ 64) from fun h => h3 h.1)]; rfl)
    rw [Hr.out]
    clear h3
    go_enter Try.func71, Try.ntmps71
    go_wp2
    go_ret
    exact ⟨rfl, Below.refl _ _⟩

/-- '==' of two names. -/
theorem eq24 (a a' : Int) (b b' : ByteArray) (c c' d d' : Int) (w : World) : (binOp .eql 24 (.agg #[.int .i64 a, .string b, .int .u64 c, .int .u64 d]) (.agg #[.int .i64 a', .string b', .int .u64 c', .int .u64 d'])).run Try.prog w
    = .ok (.bool (decide (a = a' ∧ b.toList = b'.toList ∧ c = c' ∧ d = d'))) w := by
  have u3 := Try.underlying3
  have u9 := Try.underlying9
  have u22 := Try.underlying22
  have hS : Try.prog.underlying 24 = some (.struct (Try.prog.fieldsOf 24)) := by kernel_rfl
  have hp : Try.prog.stoodInHeld 24 = false := by kernel_rfl
  rw [run_eql_struct, show (10000 : Nat) = 9999 + 1 from rfl, run_equalIn_agg w 9999 24 _ _ hS hp]
  simp only [Program.fieldsOf, Try.underlying24]
  go_simp
  by_cases h1 : a = a' <;> by_cases h2 : b.toList = b'.toList <;> by_cases h3 : c = c' <;> by_cases h4 : d = d' <;> simp [h1, h2, h3, h4]

theorem eq24r {a a' : Int} {b b' : ByteArray} {c c' d d' : Int} {r : Bool} (h : decide (a = a' ∧ b.toList = b'.toList ∧ c = c' ∧ d = d') = r) : ∀ w, (binOp .eql 24 (.agg #[.int .i64 a, .string b, .int .u64 c, .int .u64 d]) (.agg #[.int .i64 a', .string b', .int .u64 c', .int .u64 d'])).run Try.prog w = .ok (.bool r) w :=
  fun w => by rw [eq24, h]

set_option maxHeartbeats 1000000 in
theorem right_any (e : Nm) (w : World) : Calls Try.prog 55 #[e.val] w fun r w' => r = .returned (.bool e.right) ∧ Below w.heap.size w w' := by
  rcases e with ⟨sch, name, node, svc⟩
  have N4 := hide (fun W => none_any W)
  have N10 := hide (fun W => called_any name W)
  have N15 := hide (fun W => proper_run name W)
  have N24 := hide (fun W => numbered_any node svc W)
  have C := range_new w [.int .i64 sch, .string name, .int .u64 (node : Int), .int .u64 (svc : Int)] 24 (0, 0)
  have hlt : w.heap.size < (w.alloc (.cells #[.int .i64 sch, .string name, .int .u64 (node : Int), .int .u64 (svc : Int)] 24)).heap.size := by simp
  have C0 := hide (fun W (hb : Below _ _ W) => range_below C hb hlt 0 _ rfl)
  have C1 := hide (fun W (hb : Below _ _ W) => range_below C hb hlt 1 _ rfl)
  have C2 := hide (fun W (hb : Below _ _ W) => range_below C hb hlt 2 _ rfl)
  have C3 := hide (fun W (hb : Below _ _ W) => range_below C hb hlt 3 _ rfl)
  have Hb1 := hide ((Below.refl w.heap.size w).alloc (Nat.le_refl _) (.cells #[.int .i64 sch, .string name, .int .u64 (node : Int), .int .u64 (svc : Int)] 24))
  simp only [Nat.add_zero, Nat.zero_add] at C0 C1 C2 C3
  simp only [Nm.val, Nm.cells, Int.natCast_zero] at N4 N10 N24 ⊢
  have he0 : (⟨#[]⟩ : ByteArray).toList = [] := by rw [ByteArray.toList_eq]
  have hsz : name.size = 0 ↔ name.toList = [] := by
    rw [ByteArray.toList_eq, ← List.length_eq_zero_iff, Array.length_toList]; exact Iff.rfl
  clear C hlt
  by_cases hA : sch = 1 ∧ node = 0 ∧ svc = 0
  · by_cases hn : name.size = 0
    · have Hr := hide (show Nm.right ⟨sch, name, node, svc⟩ = true by unfold Nm.right; simp [hA, hn])
      have Q5 := hide (eq24r <| show (decide (sch = 1 ∧ name.toList = (⟨#[]⟩ : ByteArray).toList ∧ (node : Int) = 0 ∧ (svc : Int) = 0)) = true by rw [he0]; simp [hA, hsz.1 hn])
      have Q11 := hide True.intro
      have Q25 := hide True.intro
      rw [Hr.out]
      clear Hr hA hn hsz he0
      go_enter Try.func55, Try.ntmps55
      go_upto_region 1 with fail
      refine wp_region_flow (by kernel_rfl) (fun d => if d = 2 then is (.bool true) else List.getD [is (.agg #[.int .i64 sch, .string name, .int .u64 (node : Int), .int .u64 (svc : Int)]), is (.agg #[.int .i64 1, .string ⟨#[]⟩, .int .u64 0, .int .u64 0]), is (.bool true), is (.bool true), is (undef), is (undef), is (undef), is (undef), is (undef), is (undef), is (undef), is (undef), is (undef), is (undef), is (.bool true), is (.bool true), is (undef), is (undef), is (undef), is (undef), is (undef), is (undef), is (undef), is (.bool true)] (d - 3) (fun _ _ => True)) 2 (by kernel_rfl) (by kernel_rfl) ?_ ?_
      · refine And.intro ?_ (And.intro ?_ (And.intro ?_ (And.intro ?_ (And.intro ?_ (And.intro ?_ (And.intro ?_ (And.intro ?_ (And.intro ?_ (And.intro ?_ (And.intro ?_ (And.intro ?_ (And.intro ?_ (And.intro ?_ (And.intro ?_ (And.intro ?_ (And.intro ?_ (And.intro ?_ (And.intro ?_ (And.intro ?_ (And.intro ?_ (And.intro ?_ (And.intro ?_ (And.intro ?_ (And.intro ?_ trivial))))))))))))))))))))))))
        · intro a w9 hb h
          have e1 : a.tmps.getD 1 undef = .pointer (some ⟨w.heap.size, 0, none⟩) := sb h 1 (by kernel_rfl) (by kernel_rfl) rfl
          exact .val (want0 rfl) rfl (by simp [Act.eval, e1, C0.out w9 hb, C1.out w9 hb, C2.out w9 hb, C3.out w9 hb, go_sem]) (Keeps.is rfl)
        · intro a w9 hb h
          exact .called (want0 rfl) rfl (by simp [go_sem]) (belowF (N4.out w9))
        · intro a w9 hb h
          have e3 := (sw h 3 (by kernel_rfl) (by kernel_rfl)).eq
          have e4 := (sw h 4 (by kernel_rfl) (by kernel_rfl)).eq
          exact .val (want0 rfl) rfl (by simp [Act.eval, e3, e4, Q5.out, go_sem]) (Keeps.is rfl)
        · intro a w9 hb h
          have e5 := (sw h 5 (by kernel_rfl) (by kernel_rfl)).eq
          exact .val (want0 rfl) rfl (by simp [Act.eval, e5, go_sem]) (Keeps.is rfl)
        · intro a w9 hb h
          have eg := (sw h 6 (by kernel_rfl) (by kernel_rfl)).eq
          exact .off (idleg rfl (by kernel_rfl) eg rfl) rfl (Keeps.is rfl)
        · intro a w9 hb h
          have eg := (sw h 6 (by kernel_rfl) (by kernel_rfl)).eq
          exact .off (idleg rfl (by kernel_rfl) eg rfl) rfl (Keeps.is rfl)
        · intro a w9 hb h
          have eg := (sw h 6 (by kernel_rfl) (by kernel_rfl)).eq
          exact .off (idleg rfl (by kernel_rfl) eg rfl) rfl (Keeps.is rfl)
        · intro a w9 hb h
          have eg := (sw h 6 (by kernel_rfl) (by kernel_rfl)).eq
          exact .off (idleg rfl (by kernel_rfl) eg rfl) rfl (Keeps.is rfl)
        · intro a w9 hb h
          have eg := (sw h 6 (by kernel_rfl) (by kernel_rfl)).eq
          exact .off (idleg rfl (by kernel_rfl) eg rfl) rfl (Keeps.is rfl)
        · intro a w9 hb h
          have eg := (sw h 6 (by kernel_rfl) (by kernel_rfl)).eq
          exact .off (idleg rfl (by kernel_rfl) eg rfl) rfl (Keeps.is rfl)
        · intro a w9 hb h
          have eg := (sw h 12 (by kernel_rfl) (by kernel_rfl)).eq
          exact .off (idleu rfl (by kernel_rfl) eg) rfl (Keeps.is rfl)
        · intro a w9 hb h
          have eg := (sw h 12 (by kernel_rfl) (by kernel_rfl)).eq
          exact .off (idleu rfl (by kernel_rfl) eg) rfl (Keeps.is rfl)
        · intro a w9 hb h
          have eg := (sw h 12 (by kernel_rfl) (by kernel_rfl)).eq
          exact .off (idleu rfl (by kernel_rfl) eg) rfl (Keeps.is rfl)
        · intro a w9 hb h
          have eg := (sw h 6 (by kernel_rfl) (by kernel_rfl)).eq
          exact .off (idleg rfl (by kernel_rfl) eg rfl) rfl (Keeps.is rfl)
        · intro a w9 hb h
          have e6 := (sw h 6 (by kernel_rfl) (by kernel_rfl)).eq
          exact .val (want0 rfl) rfl (by simp [Act.eval, e6, go_sem]) (Keeps.is rfl)
        · intro a w9 hb h
          have e17 := (sw h 17 (by kernel_rfl) (by kernel_rfl)).eq
          exact .val (want0 rfl) rfl (by simp [Act.eval, e17, go_sem]) (Keeps.is rfl)
        · intro a w9 hb h
          have eg := (sw h 18 (by kernel_rfl) (by kernel_rfl)).eq
          exact .off (idleg rfl (by kernel_rfl) eg rfl) rfl (Keeps.is rfl)
        · intro a w9 hb h
          have eg := (sw h 18 (by kernel_rfl) (by kernel_rfl)).eq
          exact .off (idleg rfl (by kernel_rfl) eg rfl) rfl (Keeps.is rfl)
        · intro a w9 hb h
          have eg := (sw h 18 (by kernel_rfl) (by kernel_rfl)).eq
          exact .off (idleg rfl (by kernel_rfl) eg rfl) rfl (Keeps.is rfl)
        · intro a w9 hb h
          have eg := (sw h 18 (by kernel_rfl) (by kernel_rfl)).eq
          exact .off (idleg rfl (by kernel_rfl) eg rfl) rfl (Keeps.is rfl)
        · intro a w9 hb h
          have eg := (sw h 18 (by kernel_rfl) (by kernel_rfl)).eq
          exact .off (idleg rfl (by kernel_rfl) eg rfl) rfl (Keeps.is rfl)
        · intro a w9 hb h
          have eg := (sw h 18 (by kernel_rfl) (by kernel_rfl)).eq
          exact .off (idleg rfl (by kernel_rfl) eg rfl) rfl (Keeps.is rfl)
        · intro a w9 hb h
          have eg := (sw h 18 (by kernel_rfl) (by kernel_rfl)).eq
          exact .off (idleg rfl (by kernel_rfl) eg rfl) rfl (Keeps.is rfl)
        · intro a w9 hb h
          have e18 := (sw h 18 (by kernel_rfl) (by kernel_rfl)).eq
          exact .val (want0 rfl) rfl (by simp [Act.eval, e18, go_sem]) (Keeps.is rfl)
        · intro a w9 hb h
          have e26 := (sw h 26 (by kernel_rfl) (by kernel_rfl)).eq
          exact .val (want0 rfl) rfl (by simp [Act.eval, e26, go_sem]) (Keeps.is rfl)
      · intro a w2 hd hb hv
        have er := hv.eq
        clear hv
        simp only [Exit.then]
        go_wp2
        exact ⟨hd, _, results_tmp rfl _ _ _, by rw [er], Hb1.out.trans (hb.mono Hb1.out.size)⟩
    · have Q5 := hide (eq24r <| show (decide (sch = 1 ∧ name.toList = (⟨#[]⟩ : ByteArray).toList ∧ (node : Int) = 0 ∧ (svc : Int) = 0)) = false by rw [he0]; exact decide_eq_false (fun h => hn (hsz.2 h.2.1)))
      have Q11 := hide (eq24r <| show (decide (sch = 1 ∧ name.toList = name.toList ∧ (node : Int) = 0 ∧ (svc : Int) = 0)) = true by simp [hA])
      have Q25 := hide (eq24r <| show (decide (sch = 2 ∧ name.toList = (⟨#[]⟩ : ByteArray).toList ∧ (node : Int) = (node : Int) ∧ (svc : Int) = (svc : Int))) = false by exact decide_eq_false (fun h => by omega))
      have Hr := hide (show Nm.right ⟨sch, name, node, svc⟩ = properB name by unfold Nm.right; simp [hA, hn])
      rw [Hr.out]
      cases hp : properB name with
      | true =>
        rw [hp] at N15
        clear Hr hA hn hsz he0 hp
        go_enter Try.func55, Try.ntmps55
        go_upto_region 1 with fail
        refine wp_region_flow (by kernel_rfl) (fun d => if d = 2 then is (.bool true) else List.getD [is (.agg #[.int .i64 sch, .string name, .int .u64 (node : Int), .int .u64 (svc : Int)]), is (.agg #[.int .i64 1, .string ⟨#[]⟩, .int .u64 0, .int .u64 0]), is (.bool false), is (.bool false), is (.agg #[.int .i64 sch, .string name, .int .u64 (node : Int), .int .u64 (svc : Int)]), is (.pointer (some ⟨w.heap.size, 1, none⟩)), is (.string name), is (.agg #[.int .i64 1, .string name, .int .u64 0, .int .u64 0]), is (.bool true), is (.bool true), is (.pointer (some ⟨w.heap.size, 1, none⟩)), is (.string name), is (.bool true), is (.bool true), is (.bool true), is (.bool true), is (undef), is (undef), is (undef), is (undef), is (undef), is (undef), is (undef), is (.bool true)] (d - 3) (fun _ _ => True)) 2 (by kernel_rfl) (by kernel_rfl) ?_ ?_
        · refine And.intro ?_ (And.intro ?_ (And.intro ?_ (And.intro ?_ (And.intro ?_ (And.intro ?_ (And.intro ?_ (And.intro ?_ (And.intro ?_ (And.intro ?_ (And.intro ?_ (And.intro ?_ (And.intro ?_ (And.intro ?_ (And.intro ?_ (And.intro ?_ (And.intro ?_ (And.intro ?_ (And.intro ?_ (And.intro ?_ (And.intro ?_ (And.intro ?_ (And.intro ?_ (And.intro ?_ (And.intro ?_ trivial))))))))))))))))))))))))
          · intro a w9 hb h
            have e1 : a.tmps.getD 1 undef = .pointer (some ⟨w.heap.size, 0, none⟩) := sb h 1 (by kernel_rfl) (by kernel_rfl) rfl
            exact .val (want0 rfl) rfl (by simp [Act.eval, e1, C0.out w9 hb, C1.out w9 hb, C2.out w9 hb, C3.out w9 hb, go_sem]) (Keeps.is rfl)
          · intro a w9 hb h
            exact .called (want0 rfl) rfl (by simp [go_sem]) (belowF (N4.out w9))
          · intro a w9 hb h
            have e3 := (sw h 3 (by kernel_rfl) (by kernel_rfl)).eq
            have e4 := (sw h 4 (by kernel_rfl) (by kernel_rfl)).eq
            exact .val (want0 rfl) rfl (by simp [Act.eval, e3, e4, Q5.out, go_sem]) (Keeps.is rfl)
          · intro a w9 hb h
            have e5 := (sw h 5 (by kernel_rfl) (by kernel_rfl)).eq
            exact .val (want0 rfl) rfl (by simp [Act.eval, e5, go_sem]) (Keeps.is rfl)
          · intro a w9 hb h
            have eg := (sw h 6 (by kernel_rfl) (by kernel_rfl)).eq
            have e1 : a.tmps.getD 1 undef = .pointer (some ⟨w.heap.size, 0, none⟩) := sb h 1 (by kernel_rfl) (by kernel_rfl) rfl
            exact .val (wantg rfl (by kernel_rfl) eg) rfl (by simp [Act.eval, e1, C0.out w9 hb, C1.out w9 hb, C2.out w9 hb, C3.out w9 hb, go_sem]) (Keeps.is rfl)
          · intro a w9 hb h
            have eg := (sw h 6 (by kernel_rfl) (by kernel_rfl)).eq
            have e1 : a.tmps.getD 1 undef = .pointer (some ⟨w.heap.size, 0, none⟩) := sb h 1 (by kernel_rfl) (by kernel_rfl) rfl
            exact .val (wantg rfl (by kernel_rfl) eg) rfl (by simp [Act.eval, e1, go_sem]) (Keeps.is rfl)
          · intro a w9 hb h
            have eg := (sw h 6 (by kernel_rfl) (by kernel_rfl)).eq
            have e8 := (sw h 8 (by kernel_rfl) (by kernel_rfl)).eq
            exact .val (wantg rfl (by kernel_rfl) eg) rfl (by simp [Act.eval, e8, C0.out w9 hb, C1.out w9 hb, C2.out w9 hb, C3.out w9 hb, go_sem]) (Keeps.is rfl)
          · intro a w9 hb h
            have eg := (sw h 6 (by kernel_rfl) (by kernel_rfl)).eq
            have e9 := (sw h 9 (by kernel_rfl) (by kernel_rfl)).eq
            exact .called (wantg rfl (by kernel_rfl) eg) rfl (by simp [Act.eval, e9, go_sem]) (belowF (N10.out w9))
          · intro a w9 hb h
            have eg := (sw h 6 (by kernel_rfl) (by kernel_rfl)).eq
            have e7 := (sw h 7 (by kernel_rfl) (by kernel_rfl)).eq
            have e10 := (sw h 10 (by kernel_rfl) (by kernel_rfl)).eq
            exact .val (wantg rfl (by kernel_rfl) eg) rfl (by simp [Act.eval, e7, e10, Q11.out, go_sem]) (Keeps.is rfl)
          · intro a w9 hb h
            have eg := (sw h 6 (by kernel_rfl) (by kernel_rfl)).eq
            have e11 := (sw h 11 (by kernel_rfl) (by kernel_rfl)).eq
            exact .val (wantg rfl (by kernel_rfl) eg) rfl (by simp [Act.eval, e11, go_sem]) (Keeps.is rfl)
          · intro a w9 hb h
            have eg := (sw h 12 (by kernel_rfl) (by kernel_rfl)).eq
            have e1 : a.tmps.getD 1 undef = .pointer (some ⟨w.heap.size, 0, none⟩) := sb h 1 (by kernel_rfl) (by kernel_rfl) rfl
            exact .val (wantg rfl (by kernel_rfl) eg) rfl (by simp [Act.eval, e1, go_sem]) (Keeps.is rfl)
          · intro a w9 hb h
            have eg := (sw h 12 (by kernel_rfl) (by kernel_rfl)).eq
            have e13 := (sw h 13 (by kernel_rfl) (by kernel_rfl)).eq
            exact .val (wantg rfl (by kernel_rfl) eg) rfl (by simp [Act.eval, e13, C0.out w9 hb, C1.out w9 hb, C2.out w9 hb, C3.out w9 hb, go_sem]) (Keeps.is rfl)
          · intro a w9 hb h
            have eg := (sw h 12 (by kernel_rfl) (by kernel_rfl)).eq
            have e14 := (sw h 14 (by kernel_rfl) (by kernel_rfl)).eq
            exact .called (wantg rfl (by kernel_rfl) eg) rfl (by simp [Act.eval, e14, go_sem]) (belowF (N15.out w9))
          · intro a w9 hb h
            have eg := (sw h 6 (by kernel_rfl) (by kernel_rfl)).eq
            have e12 := (sw h 12 (by kernel_rfl) (by kernel_rfl)).eq
            have e15 := (sw h 15 (by kernel_rfl) (by kernel_rfl)).eq
            exact .val (wantg rfl (by kernel_rfl) eg) rfl (by simp [Act.eval, e12, e15, go_sem]) (Keeps.is rfl)
          · intro a w9 hb h
            have e6 := (sw h 6 (by kernel_rfl) (by kernel_rfl)).eq
            have e16 := (sw h 16 (by kernel_rfl) (by kernel_rfl)).eq
            exact .val (want0 rfl) rfl (by simp [Act.eval, e6, e16, go_sem]) (Keeps.is rfl)
          · intro a w9 hb h
            have e17 := (sw h 17 (by kernel_rfl) (by kernel_rfl)).eq
            exact .val (want0 rfl) rfl (by simp [Act.eval, e17, go_sem]) (Keeps.is rfl)
          · intro a w9 hb h
            have eg := (sw h 18 (by kernel_rfl) (by kernel_rfl)).eq
            exact .off (idleg rfl (by kernel_rfl) eg rfl) rfl (Keeps.is rfl)
          · intro a w9 hb h
            have eg := (sw h 18 (by kernel_rfl) (by kernel_rfl)).eq
            exact .off (idleg rfl (by kernel_rfl) eg rfl) rfl (Keeps.is rfl)
          · intro a w9 hb h
            have eg := (sw h 18 (by kernel_rfl) (by kernel_rfl)).eq
            exact .off (idleg rfl (by kernel_rfl) eg rfl) rfl (Keeps.is rfl)
          · intro a w9 hb h
            have eg := (sw h 18 (by kernel_rfl) (by kernel_rfl)).eq
            exact .off (idleg rfl (by kernel_rfl) eg rfl) rfl (Keeps.is rfl)
          · intro a w9 hb h
            have eg := (sw h 18 (by kernel_rfl) (by kernel_rfl)).eq
            exact .off (idleg rfl (by kernel_rfl) eg rfl) rfl (Keeps.is rfl)
          · intro a w9 hb h
            have eg := (sw h 18 (by kernel_rfl) (by kernel_rfl)).eq
            exact .off (idleg rfl (by kernel_rfl) eg rfl) rfl (Keeps.is rfl)
          · intro a w9 hb h
            have eg := (sw h 18 (by kernel_rfl) (by kernel_rfl)).eq
            exact .off (idleg rfl (by kernel_rfl) eg rfl) rfl (Keeps.is rfl)
          · intro a w9 hb h
            have e18 := (sw h 18 (by kernel_rfl) (by kernel_rfl)).eq
            exact .val (want0 rfl) rfl (by simp [Act.eval, e18, go_sem]) (Keeps.is rfl)
          · intro a w9 hb h
            have e26 := (sw h 26 (by kernel_rfl) (by kernel_rfl)).eq
            exact .val (want0 rfl) rfl (by simp [Act.eval, e26, go_sem]) (Keeps.is rfl)
        · intro a w2 hd hb hv
          have er := hv.eq
          clear hv
          simp only [Exit.then]
          go_wp2
          exact ⟨hd, _, results_tmp rfl _ _ _, by rw [er], Hb1.out.trans (hb.mono Hb1.out.size)⟩
      | false =>
        rw [hp] at N15
        clear Hr hA hn hsz he0 hp
        go_enter Try.func55, Try.ntmps55
        go_upto_region 1 with fail
        refine wp_region_flow (by kernel_rfl) (fun d => if d = 2 then is (.bool false) else List.getD [is (.agg #[.int .i64 sch, .string name, .int .u64 (node : Int), .int .u64 (svc : Int)]), is (.agg #[.int .i64 1, .string ⟨#[]⟩, .int .u64 0, .int .u64 0]), is (.bool false), is (.bool false), is (.agg #[.int .i64 sch, .string name, .int .u64 (node : Int), .int .u64 (svc : Int)]), is (.pointer (some ⟨w.heap.size, 1, none⟩)), is (.string name), is (.agg #[.int .i64 1, .string name, .int .u64 0, .int .u64 0]), is (.bool true), is (.bool true), is (.pointer (some ⟨w.heap.size, 1, none⟩)), is (.string name), is (.bool false), is (.bool false), is (.bool false), is (.bool false), is (.agg #[.int .i64 sch, .string name, .int .u64 (node : Int), .int .u64 (svc : Int)]), is (.pointer (some ⟨w.heap.size, 2, none⟩)), is (.int .u64 (node : Int)), is (.pointer (some ⟨w.heap.size, 3, none⟩)), is (.int .u64 (svc : Int)), is (.agg #[.int .i64 2, .string ⟨#[]⟩, .int .u64 (node : Int), .int .u64 (svc : Int)]), is (.bool false), is (.bool false)] (d - 3) (fun _ _ => True)) 2 (by kernel_rfl) (by kernel_rfl) ?_ ?_
        · refine And.intro ?_ (And.intro ?_ (And.intro ?_ (And.intro ?_ (And.intro ?_ (And.intro ?_ (And.intro ?_ (And.intro ?_ (And.intro ?_ (And.intro ?_ (And.intro ?_ (And.intro ?_ (And.intro ?_ (And.intro ?_ (And.intro ?_ (And.intro ?_ (And.intro ?_ (And.intro ?_ (And.intro ?_ (And.intro ?_ (And.intro ?_ (And.intro ?_ (And.intro ?_ (And.intro ?_ (And.intro ?_ trivial))))))))))))))))))))))))
          · intro a w9 hb h
            have e1 : a.tmps.getD 1 undef = .pointer (some ⟨w.heap.size, 0, none⟩) := sb h 1 (by kernel_rfl) (by kernel_rfl) rfl
            exact .val (want0 rfl) rfl (by simp [Act.eval, e1, C0.out w9 hb, C1.out w9 hb, C2.out w9 hb, C3.out w9 hb, go_sem]) (Keeps.is rfl)
          · intro a w9 hb h
            exact .called (want0 rfl) rfl (by simp [go_sem]) (belowF (N4.out w9))
          · intro a w9 hb h
            have e3 := (sw h 3 (by kernel_rfl) (by kernel_rfl)).eq
            have e4 := (sw h 4 (by kernel_rfl) (by kernel_rfl)).eq
            exact .val (want0 rfl) rfl (by simp [Act.eval, e3, e4, Q5.out, go_sem]) (Keeps.is rfl)
          · intro a w9 hb h
            have e5 := (sw h 5 (by kernel_rfl) (by kernel_rfl)).eq
            exact .val (want0 rfl) rfl (by simp [Act.eval, e5, go_sem]) (Keeps.is rfl)
          · intro a w9 hb h
            have eg := (sw h 6 (by kernel_rfl) (by kernel_rfl)).eq
            have e1 : a.tmps.getD 1 undef = .pointer (some ⟨w.heap.size, 0, none⟩) := sb h 1 (by kernel_rfl) (by kernel_rfl) rfl
            exact .val (wantg rfl (by kernel_rfl) eg) rfl (by simp [Act.eval, e1, C0.out w9 hb, C1.out w9 hb, C2.out w9 hb, C3.out w9 hb, go_sem]) (Keeps.is rfl)
          · intro a w9 hb h
            have eg := (sw h 6 (by kernel_rfl) (by kernel_rfl)).eq
            have e1 : a.tmps.getD 1 undef = .pointer (some ⟨w.heap.size, 0, none⟩) := sb h 1 (by kernel_rfl) (by kernel_rfl) rfl
            exact .val (wantg rfl (by kernel_rfl) eg) rfl (by simp [Act.eval, e1, go_sem]) (Keeps.is rfl)
          · intro a w9 hb h
            have eg := (sw h 6 (by kernel_rfl) (by kernel_rfl)).eq
            have e8 := (sw h 8 (by kernel_rfl) (by kernel_rfl)).eq
            exact .val (wantg rfl (by kernel_rfl) eg) rfl (by simp [Act.eval, e8, C0.out w9 hb, C1.out w9 hb, C2.out w9 hb, C3.out w9 hb, go_sem]) (Keeps.is rfl)
          · intro a w9 hb h
            have eg := (sw h 6 (by kernel_rfl) (by kernel_rfl)).eq
            have e9 := (sw h 9 (by kernel_rfl) (by kernel_rfl)).eq
            exact .called (wantg rfl (by kernel_rfl) eg) rfl (by simp [Act.eval, e9, go_sem]) (belowF (N10.out w9))
          · intro a w9 hb h
            have eg := (sw h 6 (by kernel_rfl) (by kernel_rfl)).eq
            have e7 := (sw h 7 (by kernel_rfl) (by kernel_rfl)).eq
            have e10 := (sw h 10 (by kernel_rfl) (by kernel_rfl)).eq
            exact .val (wantg rfl (by kernel_rfl) eg) rfl (by simp [Act.eval, e7, e10, Q11.out, go_sem]) (Keeps.is rfl)
          · intro a w9 hb h
            have eg := (sw h 6 (by kernel_rfl) (by kernel_rfl)).eq
            have e11 := (sw h 11 (by kernel_rfl) (by kernel_rfl)).eq
            exact .val (wantg rfl (by kernel_rfl) eg) rfl (by simp [Act.eval, e11, go_sem]) (Keeps.is rfl)
          · intro a w9 hb h
            have eg := (sw h 12 (by kernel_rfl) (by kernel_rfl)).eq
            have e1 : a.tmps.getD 1 undef = .pointer (some ⟨w.heap.size, 0, none⟩) := sb h 1 (by kernel_rfl) (by kernel_rfl) rfl
            exact .val (wantg rfl (by kernel_rfl) eg) rfl (by simp [Act.eval, e1, go_sem]) (Keeps.is rfl)
          · intro a w9 hb h
            have eg := (sw h 12 (by kernel_rfl) (by kernel_rfl)).eq
            have e13 := (sw h 13 (by kernel_rfl) (by kernel_rfl)).eq
            exact .val (wantg rfl (by kernel_rfl) eg) rfl (by simp [Act.eval, e13, C0.out w9 hb, C1.out w9 hb, C2.out w9 hb, C3.out w9 hb, go_sem]) (Keeps.is rfl)
          · intro a w9 hb h
            have eg := (sw h 12 (by kernel_rfl) (by kernel_rfl)).eq
            have e14 := (sw h 14 (by kernel_rfl) (by kernel_rfl)).eq
            exact .called (wantg rfl (by kernel_rfl) eg) rfl (by simp [Act.eval, e14, go_sem]) (belowF (N15.out w9))
          · intro a w9 hb h
            have eg := (sw h 6 (by kernel_rfl) (by kernel_rfl)).eq
            have e12 := (sw h 12 (by kernel_rfl) (by kernel_rfl)).eq
            have e15 := (sw h 15 (by kernel_rfl) (by kernel_rfl)).eq
            exact .val (wantg rfl (by kernel_rfl) eg) rfl (by simp [Act.eval, e12, e15, go_sem]) (Keeps.is rfl)
          · intro a w9 hb h
            have e6 := (sw h 6 (by kernel_rfl) (by kernel_rfl)).eq
            have e16 := (sw h 16 (by kernel_rfl) (by kernel_rfl)).eq
            exact .val (want0 rfl) rfl (by simp [Act.eval, e6, e16, go_sem]) (Keeps.is rfl)
          · intro a w9 hb h
            have e17 := (sw h 17 (by kernel_rfl) (by kernel_rfl)).eq
            exact .val (want0 rfl) rfl (by simp [Act.eval, e17, go_sem]) (Keeps.is rfl)
          · intro a w9 hb h
            have eg := (sw h 18 (by kernel_rfl) (by kernel_rfl)).eq
            have e1 : a.tmps.getD 1 undef = .pointer (some ⟨w.heap.size, 0, none⟩) := sb h 1 (by kernel_rfl) (by kernel_rfl) rfl
            exact .val (wantg rfl (by kernel_rfl) eg) rfl (by simp [Act.eval, e1, C0.out w9 hb, C1.out w9 hb, C2.out w9 hb, C3.out w9 hb, go_sem]) (Keeps.is rfl)
          · intro a w9 hb h
            have eg := (sw h 18 (by kernel_rfl) (by kernel_rfl)).eq
            have e1 : a.tmps.getD 1 undef = .pointer (some ⟨w.heap.size, 0, none⟩) := sb h 1 (by kernel_rfl) (by kernel_rfl) rfl
            exact .val (wantg rfl (by kernel_rfl) eg) rfl (by simp [Act.eval, e1, go_sem]) (Keeps.is rfl)
          · intro a w9 hb h
            have eg := (sw h 18 (by kernel_rfl) (by kernel_rfl)).eq
            have e20 := (sw h 20 (by kernel_rfl) (by kernel_rfl)).eq
            exact .val (wantg rfl (by kernel_rfl) eg) rfl (by simp [Act.eval, e20, C0.out w9 hb, C1.out w9 hb, C2.out w9 hb, C3.out w9 hb, go_sem]) (Keeps.is rfl)
          · intro a w9 hb h
            have eg := (sw h 18 (by kernel_rfl) (by kernel_rfl)).eq
            have e1 : a.tmps.getD 1 undef = .pointer (some ⟨w.heap.size, 0, none⟩) := sb h 1 (by kernel_rfl) (by kernel_rfl) rfl
            exact .val (wantg rfl (by kernel_rfl) eg) rfl (by simp [Act.eval, e1, go_sem]) (Keeps.is rfl)
          · intro a w9 hb h
            have eg := (sw h 18 (by kernel_rfl) (by kernel_rfl)).eq
            have e22 := (sw h 22 (by kernel_rfl) (by kernel_rfl)).eq
            exact .val (wantg rfl (by kernel_rfl) eg) rfl (by simp [Act.eval, e22, C0.out w9 hb, C1.out w9 hb, C2.out w9 hb, C3.out w9 hb, go_sem]) (Keeps.is rfl)
          · intro a w9 hb h
            have eg := (sw h 18 (by kernel_rfl) (by kernel_rfl)).eq
            have e21 := (sw h 21 (by kernel_rfl) (by kernel_rfl)).eq
            have e23 := (sw h 23 (by kernel_rfl) (by kernel_rfl)).eq
            exact .called (wantg rfl (by kernel_rfl) eg) rfl (by simp [Act.eval, e21, e23, go_sem]) (belowF (N24.out w9))
          · intro a w9 hb h
            have eg := (sw h 18 (by kernel_rfl) (by kernel_rfl)).eq
            have e19 := (sw h 19 (by kernel_rfl) (by kernel_rfl)).eq
            have e24 := (sw h 24 (by kernel_rfl) (by kernel_rfl)).eq
            exact .val (wantg rfl (by kernel_rfl) eg) rfl (by simp [Act.eval, e19, e24, Q25.out, go_sem]) (Keeps.is rfl)
          · intro a w9 hb h
            have e18 := (sw h 18 (by kernel_rfl) (by kernel_rfl)).eq
            have e25 := (sw h 25 (by kernel_rfl) (by kernel_rfl)).eq
            exact .val (want0 rfl) rfl (by simp [Act.eval, e18, e25, go_sem]) (Keeps.is rfl)
          · intro a w9 hb h
            have e26 := (sw h 26 (by kernel_rfl) (by kernel_rfl)).eq
            exact .val (want0 rfl) rfl (by simp [Act.eval, e26, go_sem]) (Keeps.is rfl)
        · intro a w2 hd hb hv
          have er := hv.eq
          clear hv
          simp only [Exit.then]
          go_wp2
          exact ⟨hd, _, results_tmp rfl _ _ _, by rw [er], Hb1.out.trans (hb.mono Hb1.out.size)⟩
  · have Q5 := hide (eq24r <| show (decide (sch = 1 ∧ name.toList = (⟨#[]⟩ : ByteArray).toList ∧ (node : Int) = 0 ∧ (svc : Int) = 0)) = false by exact decide_eq_false (fun h => hA ⟨h.1, by omega, by omega⟩))
    have Q11 := hide (eq24r <| show (decide (sch = 1 ∧ name.toList = name.toList ∧ (node : Int) = 0 ∧ (svc : Int) = 0)) = false by exact decide_eq_false (fun h => hA ⟨h.1, by omega, by omega⟩))
    by_cases hD : sch = 2 ∧ name.size = 0
    · have Q25 := hide (eq24r <| show (decide (sch = 2 ∧ name.toList = (⟨#[]⟩ : ByteArray).toList ∧ (node : Int) = (node : Int) ∧ (svc : Int) = (svc : Int))) = true by rw [he0]; simp [hD.1, hsz.1 hD.2])
      have Hr := hide (show Nm.right ⟨sch, name, node, svc⟩ = true by unfold Nm.right; simp [hD])
      rw [Hr.out]
      clear Hr hA hsz he0 hD
      go_enter Try.func55, Try.ntmps55
      go_upto_region 1 with fail
      refine wp_region_flow (by kernel_rfl) (fun d => if d = 2 then is (.bool true) else List.getD [is (.agg #[.int .i64 sch, .string name, .int .u64 (node : Int), .int .u64 (svc : Int)]), is (.agg #[.int .i64 1, .string ⟨#[]⟩, .int .u64 0, .int .u64 0]), is (.bool false), is (.bool false), is (.agg #[.int .i64 sch, .string name, .int .u64 (node : Int), .int .u64 (svc : Int)]), is (.pointer (some ⟨w.heap.size, 1, none⟩)), is (.string name), is (.agg #[.int .i64 1, .string name, .int .u64 0, .int .u64 0]), is (.bool false), is (.bool false), is (undef), is (undef), is (undef), is (.bool false), is (.bool false), is (.bool false), is (.agg #[.int .i64 sch, .string name, .int .u64 (node : Int), .int .u64 (svc : Int)]), is (.pointer (some ⟨w.heap.size, 2, none⟩)), is (.int .u64 (node : Int)), is (.pointer (some ⟨w.heap.size, 3, none⟩)), is (.int .u64 (svc : Int)), is (.agg #[.int .i64 2, .string ⟨#[]⟩, .int .u64 (node : Int), .int .u64 (svc : Int)]), is (.bool true), is (.bool true)] (d - 3) (fun _ _ => True)) 2 (by kernel_rfl) (by kernel_rfl) ?_ ?_
      · refine And.intro ?_ (And.intro ?_ (And.intro ?_ (And.intro ?_ (And.intro ?_ (And.intro ?_ (And.intro ?_ (And.intro ?_ (And.intro ?_ (And.intro ?_ (And.intro ?_ (And.intro ?_ (And.intro ?_ (And.intro ?_ (And.intro ?_ (And.intro ?_ (And.intro ?_ (And.intro ?_ (And.intro ?_ (And.intro ?_ (And.intro ?_ (And.intro ?_ (And.intro ?_ (And.intro ?_ (And.intro ?_ trivial))))))))))))))))))))))))
        · intro a w9 hb h
          have e1 : a.tmps.getD 1 undef = .pointer (some ⟨w.heap.size, 0, none⟩) := sb h 1 (by kernel_rfl) (by kernel_rfl) rfl
          exact .val (want0 rfl) rfl (by simp [Act.eval, e1, C0.out w9 hb, C1.out w9 hb, C2.out w9 hb, C3.out w9 hb, go_sem]) (Keeps.is rfl)
        · intro a w9 hb h
          exact .called (want0 rfl) rfl (by simp [go_sem]) (belowF (N4.out w9))
        · intro a w9 hb h
          have e3 := (sw h 3 (by kernel_rfl) (by kernel_rfl)).eq
          have e4 := (sw h 4 (by kernel_rfl) (by kernel_rfl)).eq
          exact .val (want0 rfl) rfl (by simp [Act.eval, e3, e4, Q5.out, go_sem]) (Keeps.is rfl)
        · intro a w9 hb h
          have e5 := (sw h 5 (by kernel_rfl) (by kernel_rfl)).eq
          exact .val (want0 rfl) rfl (by simp [Act.eval, e5, go_sem]) (Keeps.is rfl)
        · intro a w9 hb h
          have eg := (sw h 6 (by kernel_rfl) (by kernel_rfl)).eq
          have e1 : a.tmps.getD 1 undef = .pointer (some ⟨w.heap.size, 0, none⟩) := sb h 1 (by kernel_rfl) (by kernel_rfl) rfl
          exact .val (wantg rfl (by kernel_rfl) eg) rfl (by simp [Act.eval, e1, C0.out w9 hb, C1.out w9 hb, C2.out w9 hb, C3.out w9 hb, go_sem]) (Keeps.is rfl)
        · intro a w9 hb h
          have eg := (sw h 6 (by kernel_rfl) (by kernel_rfl)).eq
          have e1 : a.tmps.getD 1 undef = .pointer (some ⟨w.heap.size, 0, none⟩) := sb h 1 (by kernel_rfl) (by kernel_rfl) rfl
          exact .val (wantg rfl (by kernel_rfl) eg) rfl (by simp [Act.eval, e1, go_sem]) (Keeps.is rfl)
        · intro a w9 hb h
          have eg := (sw h 6 (by kernel_rfl) (by kernel_rfl)).eq
          have e8 := (sw h 8 (by kernel_rfl) (by kernel_rfl)).eq
          exact .val (wantg rfl (by kernel_rfl) eg) rfl (by simp [Act.eval, e8, C0.out w9 hb, C1.out w9 hb, C2.out w9 hb, C3.out w9 hb, go_sem]) (Keeps.is rfl)
        · intro a w9 hb h
          have eg := (sw h 6 (by kernel_rfl) (by kernel_rfl)).eq
          have e9 := (sw h 9 (by kernel_rfl) (by kernel_rfl)).eq
          exact .called (wantg rfl (by kernel_rfl) eg) rfl (by simp [Act.eval, e9, go_sem]) (belowF (N10.out w9))
        · intro a w9 hb h
          have eg := (sw h 6 (by kernel_rfl) (by kernel_rfl)).eq
          have e7 := (sw h 7 (by kernel_rfl) (by kernel_rfl)).eq
          have e10 := (sw h 10 (by kernel_rfl) (by kernel_rfl)).eq
          exact .val (wantg rfl (by kernel_rfl) eg) rfl (by simp [Act.eval, e7, e10, Q11.out, go_sem]) (Keeps.is rfl)
        · intro a w9 hb h
          have eg := (sw h 6 (by kernel_rfl) (by kernel_rfl)).eq
          have e11 := (sw h 11 (by kernel_rfl) (by kernel_rfl)).eq
          exact .val (wantg rfl (by kernel_rfl) eg) rfl (by simp [Act.eval, e11, go_sem]) (Keeps.is rfl)
        · intro a w9 hb h
          have eg := (sw h 12 (by kernel_rfl) (by kernel_rfl)).eq
          exact .off (idleg rfl (by kernel_rfl) eg rfl) rfl (Keeps.is rfl)
        · intro a w9 hb h
          have eg := (sw h 12 (by kernel_rfl) (by kernel_rfl)).eq
          exact .off (idleg rfl (by kernel_rfl) eg rfl) rfl (Keeps.is rfl)
        · intro a w9 hb h
          have eg := (sw h 12 (by kernel_rfl) (by kernel_rfl)).eq
          exact .off (idleg rfl (by kernel_rfl) eg rfl) rfl (Keeps.is rfl)
        · intro a w9 hb h
          have eg := (sw h 6 (by kernel_rfl) (by kernel_rfl)).eq
          have e12 := (sw h 12 (by kernel_rfl) (by kernel_rfl)).eq
          exact .val (wantg rfl (by kernel_rfl) eg) rfl (by simp [Act.eval, e12, go_sem]) (Keeps.is rfl)
        · intro a w9 hb h
          have e6 := (sw h 6 (by kernel_rfl) (by kernel_rfl)).eq
          have e16 := (sw h 16 (by kernel_rfl) (by kernel_rfl)).eq
          exact .val (want0 rfl) rfl (by simp [Act.eval, e6, e16, go_sem]) (Keeps.is rfl)
        · intro a w9 hb h
          have e17 := (sw h 17 (by kernel_rfl) (by kernel_rfl)).eq
          exact .val (want0 rfl) rfl (by simp [Act.eval, e17, go_sem]) (Keeps.is rfl)
        · intro a w9 hb h
          have eg := (sw h 18 (by kernel_rfl) (by kernel_rfl)).eq
          have e1 : a.tmps.getD 1 undef = .pointer (some ⟨w.heap.size, 0, none⟩) := sb h 1 (by kernel_rfl) (by kernel_rfl) rfl
          exact .val (wantg rfl (by kernel_rfl) eg) rfl (by simp [Act.eval, e1, C0.out w9 hb, C1.out w9 hb, C2.out w9 hb, C3.out w9 hb, go_sem]) (Keeps.is rfl)
        · intro a w9 hb h
          have eg := (sw h 18 (by kernel_rfl) (by kernel_rfl)).eq
          have e1 : a.tmps.getD 1 undef = .pointer (some ⟨w.heap.size, 0, none⟩) := sb h 1 (by kernel_rfl) (by kernel_rfl) rfl
          exact .val (wantg rfl (by kernel_rfl) eg) rfl (by simp [Act.eval, e1, go_sem]) (Keeps.is rfl)
        · intro a w9 hb h
          have eg := (sw h 18 (by kernel_rfl) (by kernel_rfl)).eq
          have e20 := (sw h 20 (by kernel_rfl) (by kernel_rfl)).eq
          exact .val (wantg rfl (by kernel_rfl) eg) rfl (by simp [Act.eval, e20, C0.out w9 hb, C1.out w9 hb, C2.out w9 hb, C3.out w9 hb, go_sem]) (Keeps.is rfl)
        · intro a w9 hb h
          have eg := (sw h 18 (by kernel_rfl) (by kernel_rfl)).eq
          have e1 : a.tmps.getD 1 undef = .pointer (some ⟨w.heap.size, 0, none⟩) := sb h 1 (by kernel_rfl) (by kernel_rfl) rfl
          exact .val (wantg rfl (by kernel_rfl) eg) rfl (by simp [Act.eval, e1, go_sem]) (Keeps.is rfl)
        · intro a w9 hb h
          have eg := (sw h 18 (by kernel_rfl) (by kernel_rfl)).eq
          have e22 := (sw h 22 (by kernel_rfl) (by kernel_rfl)).eq
          exact .val (wantg rfl (by kernel_rfl) eg) rfl (by simp [Act.eval, e22, C0.out w9 hb, C1.out w9 hb, C2.out w9 hb, C3.out w9 hb, go_sem]) (Keeps.is rfl)
        · intro a w9 hb h
          have eg := (sw h 18 (by kernel_rfl) (by kernel_rfl)).eq
          have e21 := (sw h 21 (by kernel_rfl) (by kernel_rfl)).eq
          have e23 := (sw h 23 (by kernel_rfl) (by kernel_rfl)).eq
          exact .called (wantg rfl (by kernel_rfl) eg) rfl (by simp [Act.eval, e21, e23, go_sem]) (belowF (N24.out w9))
        · intro a w9 hb h
          have eg := (sw h 18 (by kernel_rfl) (by kernel_rfl)).eq
          have e19 := (sw h 19 (by kernel_rfl) (by kernel_rfl)).eq
          have e24 := (sw h 24 (by kernel_rfl) (by kernel_rfl)).eq
          exact .val (wantg rfl (by kernel_rfl) eg) rfl (by simp [Act.eval, e19, e24, Q25.out, go_sem]) (Keeps.is rfl)
        · intro a w9 hb h
          have e18 := (sw h 18 (by kernel_rfl) (by kernel_rfl)).eq
          have e25 := (sw h 25 (by kernel_rfl) (by kernel_rfl)).eq
          exact .val (want0 rfl) rfl (by simp [Act.eval, e18, e25, go_sem]) (Keeps.is rfl)
        · intro a w9 hb h
          have e26 := (sw h 26 (by kernel_rfl) (by kernel_rfl)).eq
          exact .val (want0 rfl) rfl (by simp [Act.eval, e26, go_sem]) (Keeps.is rfl)
      · intro a w2 hd hb hv
        have er := hv.eq
        clear hv
        simp only [Exit.then]
        go_wp2
        exact ⟨hd, _, results_tmp rfl _ _ _, by rw [er], Hb1.out.trans (hb.mono Hb1.out.size)⟩
    · have Q25 := hide (eq24r <| show (decide (sch = 2 ∧ name.toList = (⟨#[]⟩ : ByteArray).toList ∧ (node : Int) = (node : Int) ∧ (svc : Int) = (svc : Int))) = false by rw [he0]; exact decide_eq_false (fun h => hD ⟨h.1, hsz.2 h.2.1⟩))
      have Hr := hide (show Nm.right ⟨sch, name, node, svc⟩ = false by
        unfold Nm.right
        rw [decide_eq_false hA, ← Bool.decide_and, decide_eq_false hD]; rfl)
      rw [Hr.out]
      clear Hr hA hsz he0 hD
      go_enter Try.func55, Try.ntmps55
      go_upto_region 1 with fail
      refine wp_region_flow (by kernel_rfl) (fun d => if d = 2 then is (.bool false) else List.getD [is (.agg #[.int .i64 sch, .string name, .int .u64 (node : Int), .int .u64 (svc : Int)]), is (.agg #[.int .i64 1, .string ⟨#[]⟩, .int .u64 0, .int .u64 0]), is (.bool false), is (.bool false), is (.agg #[.int .i64 sch, .string name, .int .u64 (node : Int), .int .u64 (svc : Int)]), is (.pointer (some ⟨w.heap.size, 1, none⟩)), is (.string name), is (.agg #[.int .i64 1, .string name, .int .u64 0, .int .u64 0]), is (.bool false), is (.bool false), is (undef), is (undef), is (undef), is (.bool false), is (.bool false), is (.bool false), is (.agg #[.int .i64 sch, .string name, .int .u64 (node : Int), .int .u64 (svc : Int)]), is (.pointer (some ⟨w.heap.size, 2, none⟩)), is (.int .u64 (node : Int)), is (.pointer (some ⟨w.heap.size, 3, none⟩)), is (.int .u64 (svc : Int)), is (.agg #[.int .i64 2, .string ⟨#[]⟩, .int .u64 (node : Int), .int .u64 (svc : Int)]), is (.bool false), is (.bool false)] (d - 3) (fun _ _ => True)) 2 (by kernel_rfl) (by kernel_rfl) ?_ ?_
      · refine And.intro ?_ (And.intro ?_ (And.intro ?_ (And.intro ?_ (And.intro ?_ (And.intro ?_ (And.intro ?_ (And.intro ?_ (And.intro ?_ (And.intro ?_ (And.intro ?_ (And.intro ?_ (And.intro ?_ (And.intro ?_ (And.intro ?_ (And.intro ?_ (And.intro ?_ (And.intro ?_ (And.intro ?_ (And.intro ?_ (And.intro ?_ (And.intro ?_ (And.intro ?_ (And.intro ?_ (And.intro ?_ trivial))))))))))))))))))))))))
        · intro a w9 hb h
          have e1 : a.tmps.getD 1 undef = .pointer (some ⟨w.heap.size, 0, none⟩) := sb h 1 (by kernel_rfl) (by kernel_rfl) rfl
          exact .val (want0 rfl) rfl (by simp [Act.eval, e1, C0.out w9 hb, C1.out w9 hb, C2.out w9 hb, C3.out w9 hb, go_sem]) (Keeps.is rfl)
        · intro a w9 hb h
          exact .called (want0 rfl) rfl (by simp [go_sem]) (belowF (N4.out w9))
        · intro a w9 hb h
          have e3 := (sw h 3 (by kernel_rfl) (by kernel_rfl)).eq
          have e4 := (sw h 4 (by kernel_rfl) (by kernel_rfl)).eq
          exact .val (want0 rfl) rfl (by simp [Act.eval, e3, e4, Q5.out, go_sem]) (Keeps.is rfl)
        · intro a w9 hb h
          have e5 := (sw h 5 (by kernel_rfl) (by kernel_rfl)).eq
          exact .val (want0 rfl) rfl (by simp [Act.eval, e5, go_sem]) (Keeps.is rfl)
        · intro a w9 hb h
          have eg := (sw h 6 (by kernel_rfl) (by kernel_rfl)).eq
          have e1 : a.tmps.getD 1 undef = .pointer (some ⟨w.heap.size, 0, none⟩) := sb h 1 (by kernel_rfl) (by kernel_rfl) rfl
          exact .val (wantg rfl (by kernel_rfl) eg) rfl (by simp [Act.eval, e1, C0.out w9 hb, C1.out w9 hb, C2.out w9 hb, C3.out w9 hb, go_sem]) (Keeps.is rfl)
        · intro a w9 hb h
          have eg := (sw h 6 (by kernel_rfl) (by kernel_rfl)).eq
          have e1 : a.tmps.getD 1 undef = .pointer (some ⟨w.heap.size, 0, none⟩) := sb h 1 (by kernel_rfl) (by kernel_rfl) rfl
          exact .val (wantg rfl (by kernel_rfl) eg) rfl (by simp [Act.eval, e1, go_sem]) (Keeps.is rfl)
        · intro a w9 hb h
          have eg := (sw h 6 (by kernel_rfl) (by kernel_rfl)).eq
          have e8 := (sw h 8 (by kernel_rfl) (by kernel_rfl)).eq
          exact .val (wantg rfl (by kernel_rfl) eg) rfl (by simp [Act.eval, e8, C0.out w9 hb, C1.out w9 hb, C2.out w9 hb, C3.out w9 hb, go_sem]) (Keeps.is rfl)
        · intro a w9 hb h
          have eg := (sw h 6 (by kernel_rfl) (by kernel_rfl)).eq
          have e9 := (sw h 9 (by kernel_rfl) (by kernel_rfl)).eq
          exact .called (wantg rfl (by kernel_rfl) eg) rfl (by simp [Act.eval, e9, go_sem]) (belowF (N10.out w9))
        · intro a w9 hb h
          have eg := (sw h 6 (by kernel_rfl) (by kernel_rfl)).eq
          have e7 := (sw h 7 (by kernel_rfl) (by kernel_rfl)).eq
          have e10 := (sw h 10 (by kernel_rfl) (by kernel_rfl)).eq
          exact .val (wantg rfl (by kernel_rfl) eg) rfl (by simp [Act.eval, e7, e10, Q11.out, go_sem]) (Keeps.is rfl)
        · intro a w9 hb h
          have eg := (sw h 6 (by kernel_rfl) (by kernel_rfl)).eq
          have e11 := (sw h 11 (by kernel_rfl) (by kernel_rfl)).eq
          exact .val (wantg rfl (by kernel_rfl) eg) rfl (by simp [Act.eval, e11, go_sem]) (Keeps.is rfl)
        · intro a w9 hb h
          have eg := (sw h 12 (by kernel_rfl) (by kernel_rfl)).eq
          exact .off (idleg rfl (by kernel_rfl) eg rfl) rfl (Keeps.is rfl)
        · intro a w9 hb h
          have eg := (sw h 12 (by kernel_rfl) (by kernel_rfl)).eq
          exact .off (idleg rfl (by kernel_rfl) eg rfl) rfl (Keeps.is rfl)
        · intro a w9 hb h
          have eg := (sw h 12 (by kernel_rfl) (by kernel_rfl)).eq
          exact .off (idleg rfl (by kernel_rfl) eg rfl) rfl (Keeps.is rfl)
        · intro a w9 hb h
          have eg := (sw h 6 (by kernel_rfl) (by kernel_rfl)).eq
          have e12 := (sw h 12 (by kernel_rfl) (by kernel_rfl)).eq
          exact .val (wantg rfl (by kernel_rfl) eg) rfl (by simp [Act.eval, e12, go_sem]) (Keeps.is rfl)
        · intro a w9 hb h
          have e6 := (sw h 6 (by kernel_rfl) (by kernel_rfl)).eq
          have e16 := (sw h 16 (by kernel_rfl) (by kernel_rfl)).eq
          exact .val (want0 rfl) rfl (by simp [Act.eval, e6, e16, go_sem]) (Keeps.is rfl)
        · intro a w9 hb h
          have e17 := (sw h 17 (by kernel_rfl) (by kernel_rfl)).eq
          exact .val (want0 rfl) rfl (by simp [Act.eval, e17, go_sem]) (Keeps.is rfl)
        · intro a w9 hb h
          have eg := (sw h 18 (by kernel_rfl) (by kernel_rfl)).eq
          have e1 : a.tmps.getD 1 undef = .pointer (some ⟨w.heap.size, 0, none⟩) := sb h 1 (by kernel_rfl) (by kernel_rfl) rfl
          exact .val (wantg rfl (by kernel_rfl) eg) rfl (by simp [Act.eval, e1, C0.out w9 hb, C1.out w9 hb, C2.out w9 hb, C3.out w9 hb, go_sem]) (Keeps.is rfl)
        · intro a w9 hb h
          have eg := (sw h 18 (by kernel_rfl) (by kernel_rfl)).eq
          have e1 : a.tmps.getD 1 undef = .pointer (some ⟨w.heap.size, 0, none⟩) := sb h 1 (by kernel_rfl) (by kernel_rfl) rfl
          exact .val (wantg rfl (by kernel_rfl) eg) rfl (by simp [Act.eval, e1, go_sem]) (Keeps.is rfl)
        · intro a w9 hb h
          have eg := (sw h 18 (by kernel_rfl) (by kernel_rfl)).eq
          have e20 := (sw h 20 (by kernel_rfl) (by kernel_rfl)).eq
          exact .val (wantg rfl (by kernel_rfl) eg) rfl (by simp [Act.eval, e20, C0.out w9 hb, C1.out w9 hb, C2.out w9 hb, C3.out w9 hb, go_sem]) (Keeps.is rfl)
        · intro a w9 hb h
          have eg := (sw h 18 (by kernel_rfl) (by kernel_rfl)).eq
          have e1 : a.tmps.getD 1 undef = .pointer (some ⟨w.heap.size, 0, none⟩) := sb h 1 (by kernel_rfl) (by kernel_rfl) rfl
          exact .val (wantg rfl (by kernel_rfl) eg) rfl (by simp [Act.eval, e1, go_sem]) (Keeps.is rfl)
        · intro a w9 hb h
          have eg := (sw h 18 (by kernel_rfl) (by kernel_rfl)).eq
          have e22 := (sw h 22 (by kernel_rfl) (by kernel_rfl)).eq
          exact .val (wantg rfl (by kernel_rfl) eg) rfl (by simp [Act.eval, e22, C0.out w9 hb, C1.out w9 hb, C2.out w9 hb, C3.out w9 hb, go_sem]) (Keeps.is rfl)
        · intro a w9 hb h
          have eg := (sw h 18 (by kernel_rfl) (by kernel_rfl)).eq
          have e21 := (sw h 21 (by kernel_rfl) (by kernel_rfl)).eq
          have e23 := (sw h 23 (by kernel_rfl) (by kernel_rfl)).eq
          exact .called (wantg rfl (by kernel_rfl) eg) rfl (by simp [Act.eval, e21, e23, go_sem]) (belowF (N24.out w9))
        · intro a w9 hb h
          have eg := (sw h 18 (by kernel_rfl) (by kernel_rfl)).eq
          have e19 := (sw h 19 (by kernel_rfl) (by kernel_rfl)).eq
          have e24 := (sw h 24 (by kernel_rfl) (by kernel_rfl)).eq
          exact .val (wantg rfl (by kernel_rfl) eg) rfl (by simp [Act.eval, e19, e24, Q25.out, go_sem]) (Keeps.is rfl)
        · intro a w9 hb h
          have e18 := (sw h 18 (by kernel_rfl) (by kernel_rfl)).eq
          have e25 := (sw h 25 (by kernel_rfl) (by kernel_rfl)).eq
          exact .val (want0 rfl) rfl (by simp [Act.eval, e18, e25, go_sem]) (Keeps.is rfl)
        · intro a w9 hb h
          have e26 := (sw h 26 (by kernel_rfl) (by kernel_rfl)).eq
          exact .val (want0 rfl) rfl (by simp [Act.eval, e26, go_sem]) (Keeps.is rfl)
      · intro a w2 hd hb hv
        have er := hv.eq
        clear hv
        simp only [Exit.then]
        go_wp2
        exact ⟨hd, _, results_tmp rfl _ _ _, by rw [er], Hb1.out.trans (hb.mono Hb1.out.size)⟩

end Go.Proofs.Ytlbgcbekjjkokaa
