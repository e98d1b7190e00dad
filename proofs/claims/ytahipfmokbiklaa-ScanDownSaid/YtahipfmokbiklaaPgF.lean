/-
  A string of bytes as bytes. (Cut out of PgV.)
  The walk of PageTorn.
  A page programmed on a blank one, plain. (Cut out of MrI.)
-/
import Derived.Test.YtahipfmokbiklaaBits
import Derived.Test.YtahipfmokbiklaaTch
import Derived.Laws.Strings2
import Derived.Deep.AppendLies
import Derived.Test.YtahipfmokbiklaaPgG
import Derived.Test.YtahipfmokbiklaaRd9
import Derived.Test.YtahipfmokbiklaaPgQ
import Derived.Test.YtahipfmokbiklaaRd2
import Derived.Deep.QuietTactic
import Derived.BigQuiet
import Derived.Test.YtahipfmokbiklaaElem
import Derived.Test.YtahipfmokbiklaaDev2
namespace Go.Proofs.Ytahipfmokbiklaa
section
open Go.RowKit
set_option maxRecDepth 8000

theorem strBytesP (W : World) (s : List UInt8) : ∃ c W', (convert 9 65 (.string (str s))).run Try.prog W = .ok (.slice (some ⟨W.heap.size, 0, none⟩) s.length c) W' ∧ s.length ≤ c ∧ Below W.heap.size W W' ∧ Lies W' W'.heap.size (some ⟨W.heap.size, 0, none⟩) (bys s) := by
  have hr := run_bytes_of_string (P := Try.prog) W 9 65 5 (str s) Try.underlying9 Try.underlying65 Try.underlying5
  have hz : (str s).size = s.length := str_size s
  have hcap := grownCap_ge W (str s).size 0 5
  generalize hcp : grownCap W (str s).size 0 5 = cp at hr hcap
  rw [hz] at hr hcap
  refine ⟨_, _, hr, hcap, ((Below.refl _ W).drew).alloc (Nat.le_refl _) _, .inr ⟨_, rfl, by simp, ?_⟩⟩
  intro j u hj
  have hjl : j < s.length := by have := (List.getElem?_eq_some_iff.1 hj).1; rwa [bys_len] at this
  rw [bys_at s j hjl] at hj
  cases hj
  have e : (⟨W.heap.size, 0, none⟩ : Addr).add j = ⟨W.heap.size, j, none⟩ := by unfold Addr.add; split <;> simp_all
  rw [e, show (⟨W.heap.size, j, none⟩ : Addr) = ⟨W.drew.heap.size, j, none⟩ from rfl, World.cell?_alloc_mark, bytesRow_at (str s) _ j (by simpa [str] using hjl)]
  simp [str]
/-- A string of bytes as bytes, in a block of bytes. -/
theorem strBytesT (W : World) (s : List UInt8) : ∃ c W', (convert 9 65 (.string (str s))).run Try.prog W = .ok (.slice (some ⟨W.heap.size, 0, none⟩) s.length c) W' ∧ s.length ≤ c ∧ Below W.heap.size W W' ∧ LiesT W' W'.heap.size (some ⟨W.heap.size, 0, none⟩) s := by
  have hr := run_bytes_of_string (P := Try.prog) W 9 65 5 (str s) Try.underlying9 Try.underlying65 Try.underlying5
  have hz : (str s).size = s.length := str_size s
  have hcap := grownCap_ge W (str s).size 0 5
  generalize hcp : grownCap W (str s).size 0 5 = cp at hr hcap
  rw [hz] at hr hcap
  refine ⟨_, _, hr, hcap, ((Below.refl _ W).drew).alloc (Nat.le_refl _) _, .inr ⟨_, rfl, by simp, ⟨_, _, heap_alloc_new W.drew _⟩, ?_⟩⟩
  intro j u hj
  have hjl : j < s.length := by have := (List.getElem?_eq_some_iff.1 hj).1; rwa [bys_len] at this
  rw [bys_at s j hjl] at hj
  cases hj
  have e : (⟨W.heap.size, 0, none⟩ : Addr).add j = ⟨W.heap.size, j, none⟩ := by unfold Addr.add; split <;> simp_all
  rw [e, show (⟨W.heap.size, j, none⟩ : Addr) = ⟨W.drew.heap.size, j, none⟩ from rfl, World.cell?_alloc_mark, bytesRow_at (str s) _ j (by simpa [str] using hjl)]
  simp [str]
end
section
open Go.RowKit

/-- A mask that came in. -/
structure Sl where
  A : Option Addr
  n : Nat
  c : Nat
  l : List UInt8
def Sl.cells (x : Sl) : List Value := [.slice x.A x.n x.c]
theorem Sl.cells_len (x : Sl) : x.cells.length = 1 := rfl
structure Sl.Ok (w : World) (B : Nat) (x : Sl) : Prop where
  lies : Lies w B x.A (bys x.l)
  len : x.n = x.l.length
  cap : x.n ≤ x.c
theorem Sl.Ok.below {w w' : World} {B : Nat} {x : Sl} (h : x.Ok w B) (hb : Below B w w') : x.Ok w' B := ⟨h.lies.below hb, h.len, h.cap⟩
/-- What the loop of PageTorn keeps. -/
structure TornS (w : World) (s : List UInt8) (gs cs j : Nat) (A : Option Addr) (c : Nat) (l : List UInt8) (W : World) : Prop where
  lies : Lies W W.heap.size A (bys l)
  len : l.length = 256
  cap : 256 ≤ c
  start : j = 0 → l = List.replicate 256 255
  cov : 0 < j → covB l s = true
  slies : Lies W W.heap.size (some ⟨gs, 0, none⟩) (bys s)
  slen : s.length = 256
  scap : 256 ≤ cs
  below : Below w.heap.size w W
theorem TornS.later {w W W' : World} {s l : List UInt8} {gs cs j c : Nat} {A : Option Addr} (h : TornS w s gs cs j A c l W) (hb : Below W.heap.size W W') : TornS w s gs cs j A c l W' :=
  ⟨(h.lies.below hb).up hb.size, h.len, h.cap, h.start, h.cov, (h.slies.below hb).up hb.size, h.slen, h.scap, h.below.trans (hb.mono h.below.size)⟩
end
section
open Go.RowKit

theorem mix_ones (p : UInt8) : mixB 255 (255 &&& p) 255 = p := by
  apply UInt8.toNat_inj.1
  rw [mixB_toNat, UInt8.toNat_and]
  show 255 &&& 0 ||| (255 &&& p.toNat) &&& 255 = p.toNat
  have : ∀ n, n < 256 → (255 &&& 0 ||| (255 &&& n) &&& 255 : Nat) = n := by decide +kernel
  exact this _ p.toNat_lt
theorem prog_full (p : List UInt8) (hp : p.length = 256) : progL (List.replicate 256 255) p [255] = p := by
  unfold progL
  rw [List.length_replicate]
  apply List.ext_getElem
  · rw [List.length_map, List.length_range, hp]
  · intro j h1 h2
    rw [List.getElem_map, List.getElem_range]
    have hj : j < 256 := by omega
    unfold progB maskB
    rw [if_pos h2, if_neg (by decide), List.length_singleton, Nat.mod_one, rep_getD j hj]
    show mixB 255 (255 &&& p.getD j 0) 255 = p[j]
    rw [mix_ones, List.getD_eq_getElem?_getD, List.getElem?_eq_getElem h2]
    rfl
end
end Go.Proofs.Ytahipfmokbiklaa
