/-
  LAYER 19, mathematics: finds that count for nothing, or that a greater version is there of, change no group.
-/
import Derived.Test.YtjdaoenapmjoeaaLtM
namespace Go.Proofs.Ytjdaoenapmjoeaa
open Go.RowKit
set_option maxRecDepth 8000

theorem hiO_max (l : List Fo) : ∀ a : Int, (∀ f ∈ l, f.bt ≤ a) → l.foldl (fun h f => max h f.bt) a = a := by
  induction l with
  | nil => intro a _; rfl
  | cons x l ih =>
    intro a h
    rw [List.foldl_cons, Int.max_eq_left (h x (List.mem_cons_self ..))]
    exact ih a (fun f hf => h f (List.mem_cons_of_mem _ hf))
theorem hiO_app (l X : List Fo) (h : ∀ f ∈ X, f.bt ≤ hiO l) : hiO (l ++ X) = hiO l := by
  show List.foldl _ _ _ = _
  rw [List.foldl_append]
  exact hiO_max X (hiO l) h
theorem foldN_ge (ns : List Int) (lp : Int) (l : List Fo) : ∀ a : Int, a ≤ l.foldl (fun h f => if countO ns f.bt = true ∧ f.lp = lp then max h f.bt else h) a := by
  induction l with
  | nil => intro a; exact Int.le_refl _
  | cons x l ih =>
    intro a
    rw [List.foldl_cons]
    refine Int.le_trans ?_ (ih _)
    split <;> omega
theorem foldN_mem (ns : List Int) (lp : Int) (e : Fo) (he : countO ns e.bt = true ∧ e.lp = lp) : ∀ (l : List Fo) (a : Int), e ∈ l → e.bt ≤ l.foldl (fun h f => if countO ns f.bt = true ∧ f.lp = lp then max h f.bt else h) a := by
  intro l
  induction l with
  | nil => intro a h; cases h
  | cons x l ih =>
    intro a h
    rw [List.foldl_cons]
    rcases List.mem_cons.1 h with rfl | h
    · refine Int.le_trans ?_ (foldN_ge ns lp l _)
      rw [if_pos he]
      omega
    · exact ih _ h
theorem foldN_same (ns : List Int) (lp : Int) : ∀ (X : List Fo) (a : Int), (∀ f ∈ X, countO ns f.bt = true ∧ f.lp = lp → f.bt ≤ a) → X.foldl (fun h f => if countO ns f.bt = true ∧ f.lp = lp then max h f.bt else h) a = a := by
  intro X
  induction X with
  | nil => intro a _; rfl
  | cons x X ih =>
    intro a h
    rw [List.foldl_cons]
    have h1 : (if countO ns x.bt = true ∧ x.lp = lp then max a x.bt else a) = a := by
      split
      · have := h x (List.mem_cons_self ..) (by assumption); omega
      · rfl
    rw [h1]
    exact ih a (fun f hf => h f (List.mem_cons_of_mem _ hf))
/-- A find that changes no version. -/
def Idle (l : List Fo) (vs : List Int) (f : Fo) : Prop := f.bt ≤ hiO l ∧ (f.bt ∈ vs ∨ ∃ e ∈ l, e.lp = f.lp ∧ ¬ e.bt ∈ vs ∧ f.bt < e.bt)
theorem stays (l X : List Fo) (vs : List Int) (hb : brokenO l = false) (h0 : 0 < l.length) (hX : ∀ f ∈ X, Idle l vs f) : voidO (l ++ X) vs = voidO l vs ∧ groupO (voidO (l ++ X) vs) (l ++ X) (l ++ X) = groupO (voidO l vs) l l := by
  have hhi : hiO (l ++ X) = hiO l := hiO_app l X (fun f hf => (hX f hf).1)
  have hend : l.any (endO (hiO l)) = true := by
    unfold brokenO at hb
    rw [decide_eq_true h0, Bool.true_and] at hb
    simpa using hb
  have hb2 : brokenO (l ++ X) = false := by
    unfold brokenO
    rw [hhi, List.any_append, hend]
    simp
  have hv : voidO l vs = vs := by unfold voidO; rw [hb]; simp
  have hv2 : voidO (l ++ X) vs = vs := by unfold voidO; rw [hb2]; simp
  refine ⟨hv2.trans hv.symm, ?_⟩
  rw [hv, hv2]
  have hnew : ∀ lp, newO vs (l ++ X) lp = newO vs l lp := by
    intro lp
    unfold newO
    rw [List.foldl_append]
    refine foldN_same vs lp X _ (fun f hf hc => ?_)
    rcases (hX f hf).2 with h | ⟨e, he, h1, h2, h3⟩
    · have := hc.1
      unfold countO at this
      simp [h] at this
    · have := foldN_mem vs lp e ⟨by unfold countO; simp [h2], h1.trans hc.2⟩ l 0 he
      omega
  have hwant : ∀ f, wantO vs (l ++ X) f = wantO vs l f := fun f => by unfold wantO; rw [hnew]
  funext lp
  unfold groupO
  rw [List.filter_append]
  have hnil : X.filter (fun f => wantO vs (l ++ X) f && decide (f.lp = lp)) = [] := by
    rw [List.filter_eq_nil_iff]
    intro f hf
    rw [hwant]
    unfold wantO
    rcases (hX f hf).2 with h | ⟨e, he, h1, h2, h3⟩
    · have : countO vs f.bt = false := by unfold countO; simp [h]
      simp [this]
    · have h4 := foldN_mem vs f.lp e ⟨by unfold countO; simp [h2], h1⟩ l 0 he
      have h5 : ¬ f.bt = newO vs l f.lp := by unfold newO; omega
      simp [h5]
  rw [hnil, List.append_nil]
  simp only [hwant]
end Go.Proofs.Ytjdaoenapmjoeaa
