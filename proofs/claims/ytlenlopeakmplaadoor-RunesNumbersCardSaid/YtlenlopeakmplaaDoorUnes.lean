/-
  CONTRACTS of package runes: unescape, Back.
-/
import Derived.Test.YtlenlopeakmplaaDoorEsca
namespace Go.Proofs.YtlenlopeakmplaaDoor
open Go.RowKit

theorem unesc_end {g : Nat} {l : List UInt8} (h : l.dropWhile (· != 92) = []) : unesc (g + 1) l = some l := by unfold unesc; rw [h]
theorem unesc_open {g : Nat} {l b : List UInt8} {x : UInt8} (h : l.dropWhile (· != 92) = x :: b) (h2 : b.dropWhile (· != 46) = []) : unesc (g + 1) l = none := by unfold unesc; rw [h]; simp only [h2]
theorem unesc_bad {g : Nat} {l b r : List UInt8} {x y : UInt8} (h : l.dropWhile (· != 92) = x :: b) (h2 : b.dropWhile (· != 46) = y :: r) (h3 : numd (b.takeWhile (· != 46)) = none) : unesc (g + 1) l = none := by
  unfold unesc; rw [h]; simp only [h2, h3]
theorem unesc_go {g : Nat} {l b r one : List UInt8} {x y : UInt8} (h : l.dropWhile (· != 92) = x :: b) (h2 : b.dropWhile (· != 46) = y :: r) (h3 : numd (b.takeWhile (· != 46)) = some one) : unesc (g + 1) l = (unesc g r).map fun t => l.takeWhile (· != 92) ++ (one ++ t) := by
  conv => lhs; unfold unesc
  rw [h]; simp only [h2, h3]

def strLen : Value → Nat
  | .string s => s.size
  | _ => 0

def Unes (o : Option (List UInt8)) (v : Value) : Prop :=
  match o with
  | some t => v = .tuple #[.string (st t), .bool true]
  | none => ∃ S : ByteArray, v = .tuple #[.string S, .bool false]
theorem unes_none {o : Option (List UInt8)} (h : o = none) (S : ByteArray) : Unes o (.tuple #[.string S, .bool false]) := by subst h; exact ⟨S, rfl⟩
theorem unes_some {o : Option (List UInt8)} {t : List UInt8} (h : o = some t) : Unes o (.tuple #[.string (st t), .bool true]) := by subst h; exact rfl

theorem len_split {l b : List UInt8} {x : UInt8} {p : UInt8 → Bool} (h : l.dropWhile p = x :: b) : (l.takeWhile p).length + 1 + b.length = l.length := by
  have := congrArg List.length (List.takeWhile_append_dropWhile (p := p) (l := l))
  rw [h, List.length_append, List.length_cons] at this
  omega

set_option maxHeartbeats 4000000 in
set_option maxRecDepth 1000000 in
theorem unescape_run (s : ByteArray) (w : World) (hR : Ready w) (hs : s.size ≤ 100000) :
    Calls Tryd.prog 35 #[.string s] w fun e w' => (∃ v, e = .returned v ∧ Unes (unesc (s.size + 1) s.data.toList) v) ∧ Below w.heap.size w w' := by
  have hRs := hR.size
  obtain ⟨E, hE⟩ : ∃ E, E = unesc (s.size + 1) s.data.toList := ⟨_, rfl⟩
  rw [← hE]
  have HE := hide hE
  clear hE
  have HR := hide hR
  clear hR
  go_enter Tryd.func35, Tryd.ntmps35
  go_wp2
  go_loopw [0] (fun sv wr => ∃ (S : ByteArray) (acc : List UInt8) (g : Nat), sv = .string S ∧ S.size ≤ s.size ∧ Lib.IsBuilderF 47 5 w.heap.size w.heap.size (Lib.byteCells acc) wr ∧ w.heap.size < wr.heap.size ∧ Below w.heap.size w wr ∧
      Hid (acc.length + 4 * S.size ≤ 4 * s.size ∧ S.size < g + 1 ∧ (unesc (g + 1) S.data.toList).map (fun t => acc ++ t) = E)) (fun sv _ => strLen sv)
  case atStart =>
    refine ⟨s, [], s.size, rfl, Nat.le_refl _, Lib.IsBuilderF.of (Lib.fresh_isBuilder 47 5 w), by simp, (Below.refl _ w).alloc (Nat.le_refl _) _, hide ⟨by simp, Nat.lt_succ_self _, ?_⟩⟩
    rw [HE.out]
    cases unesc (s.size + 1) s.data.toList <;> rfl
  case round =>
    obtain ⟨S, acc, g, rfl, hSs, hI, hwz, hbw, HP⟩ := hrel
    have HSl := hide (show S.data.toList.length = S.size by rw [Array.length_toList]; rfl)
    have hacc : acc.length ≤ 400000 := by have := HP.out.1; omega
    have hR1 := HR.out.below hbw hRs
    have hcut := cut1_run S ⟨#[92]⟩ 92 wr rfl (by omega)
    cases hd : S.data.toList.dropWhile (· != 92) with
    | nil =>
      have hcv : cutV S.data.toList 92 = .tuple #[.string S, .string ⟨#[]⟩, .bool false] := by unfold cutV; rw [hd]; show Value.tuple #[.string (st S.data.toList), _, _] = _; rw [← st_of]
      rw [hcv] at hcut
      have hEs := hide (show E = some (acc ++ S.data.toList) by rw [← HP.out.2.2, unesc_end hd]; rfl)
      clear hcv hd hR1
      have hws := fun W h hB => Tryd.Builder_WriteString_k w.heap.size w.heap.size (Lib.byteCells acc) S W h (by rw [cells_len]; omega) hB
      have hcs := hide (show Lib.byteCells acc ++ Lib.strCells S = Lib.byteCells (acc ++ S.data.toList) by rw [cells_app]; rfl)
      go_wp2_with (first | (go_at_call 46; (with_reducible refine hcut.mono ?_); rintro e w2 ⟨rfl, hb2⟩; have hI2 := hide (builder_below hI hb2); have hbw2 := hide (hbw.trans (hb2.mono (by omega))); have hsz2 := hb2.size; clear hb2) | (go_at_call 31; (with_reducible refine (hws w2 hI2.out (by omega)).mono ?_); rintro e w4 ⟨rfl, h4, b4, _⟩; rw [hcs.out] at h4; have H4 := hide h4; have B4 := hide (hbw2.out.trans b4); have hsz4 := b4.size; clear h4 b4) | (go_at_call 34; refine (Tryd.Builder_String_any_k w.heap.size w.heap.size (acc ++ S.data.toList) w4 (Or.inr H4.out) (by omega)).mono ?_; rintro e w5 ⟨rfl, _, b5, _⟩; have B5 := hide b5; clear b5))
      go_ret2
      exact ⟨⟨_, rfl, unes_some hEs.out⟩, B4.out.trans B5.out⟩
    | cons x b =>
      have hls := len_split hd
      rw [HSl.out] at hls
      obtain ⟨A, hA⟩ : ∃ A, A = S.data.toList.takeWhile (· != 92) := ⟨_, rfl⟩
      rw [← hA] at hls
      have hcv : cutV S.data.toList 92 = .tuple #[.string (st A), .string (st b), .bool true] := by unfold cutV; rw [hd, hA]
      rw [hcv] at hcut
      have hbl : (st b).size ≤ 100000 := by rw [st_size]; omega
      have hAl : (st A).size ≤ 100000 := by rw [st_size]; omega
      have hcut2 := fun W => cut1_run (st b) ⟨#[46]⟩ 46 W rfl (by omega)
      rw [st_list] at hcut2
      have hws := fun W h hB => Tryd.Builder_WriteString_k w.heap.size w.heap.size (Lib.byteCells acc) (st A) W h (by rw [cells_len]; omega) hB
      have hcs := hide (show Lib.byteCells acc ++ Lib.strCells (st A) = Lib.byteCells (acc ++ A) by rw [cells_app, cells_st])
      have Hls := hide hls
      have Hd := hide hd
      have HA := hide hA
      cases hd2 : b.dropWhile (· != 46) with
      | nil =>
        have hcv2 : cutV b 46 = .tuple #[.string (st b), .string ⟨#[]⟩, .bool false] := by unfold cutV; rw [hd2]
        rw [hcv2] at hcut2
        have hEs := hide (show E = none by rw [← HP.out.2.2, unesc_open hd hd2]; rfl)
        have hnum := fun W (hW : Below w.heap.size w W) => numbered_run (st b) W (HR.out.below hW hRs) (by omega)
        rw [st_list] at hnum
        clear hcv hcv2 hd hd2 hA hR1 hls
        have hnumv : ∀ W, Below w.heap.size w W → Calls Tryd.prog 47 #[.string (st b)] W fun e w' => (∃ a d, e = .returned (.tuple #[.string a, .bool d])) ∧ Below W.heap.size W w' := by
          intro W hW
          refine (hnum W hW).mono fun e w' ⟨⟨v, he, hv⟩, hb⟩ => ⟨?_, hb⟩
          cases ho : numd b with
          | some one => rw [ho] at hv; have hv2 : v = _ := hv; subst hv2; exact ⟨_, _, he⟩
          | none => rw [ho] at hv; obtain ⟨S', hv2⟩ := hv; subst hv2; exact ⟨_, _, he⟩
        clear hnum
        generalize st b = Sb at hcut hcut2 hnumv hbl
        generalize st A = SA at hcut hws hcs hAl
        go_wp2_with (first | (go_at_call 46; (with_reducible refine hcut.mono ?_); rintro e w2 ⟨rfl, hb2⟩; have hI2 := hide (builder_below hI hb2); have hbw2 := hide (hbw.trans (hb2.mono (by omega))); have hsz2 := hb2.size; clear hb2 hcut) | (go_at_call 46; (with_reducible refine (hcut2 _).mono ?_); rintro e w4 ⟨rfl, hb4⟩; have hbw4 := hide (hbw3.out.trans (hb4.mono (by omega))); clear hb4) | (go_at_call 47; (with_reducible refine (hnumv _ hbw4.out).mono ?_); rintro e w5 ⟨⟨a5, d5, rfl⟩, hb5⟩; have hbw5 := hide (hbw4.out.trans (hb5.mono hbw4.out.size)); clear hb5) | (go_at_call 31; (with_reducible refine (hws w2 hI2.out (by omega)).mono ?_); rintro e w3 ⟨rfl, h3, b3, _⟩; rw [hcs.out] at h3; have H3 := hide h3; have hbw3 := hide (hbw2.out.trans b3); have hsz3 := b3.size; clear h3 b3))
        go_ret2
        exact ⟨⟨_, rfl, unes_none hEs.out _⟩, hbw5.out⟩
      | cons y r =>
        have hls2 := len_split hd2
        obtain ⟨N, hN⟩ : ∃ N, N = b.takeWhile (· != 46) := ⟨_, rfl⟩
        rw [← hN] at hls2
        have hcv2 : cutV b 46 = .tuple #[.string (st N), .string (st r), .bool true] := by unfold cutV; rw [hd2, hN]
        rw [hcv2] at hcut2
        have hnum := fun W (hW : Below w.heap.size w W) => numbered_run (st N) W (HR.out.below hW hRs) (by rw [st_size]; omega)
        rw [st_list] at hnum
        cases ho : numd N with
        | none =>
          have hEs := hide (show E = none by rw [← HP.out.2.2, unesc_bad hd hd2 (by rw [← hN]; exact ho)]; rfl)
          have hnumv : ∀ W, Below w.heap.size w W → Calls Tryd.prog 47 #[.string (st N)] W fun e w' => (∃ a, e = .returned (.tuple #[.string a, .bool false])) ∧ Below W.heap.size W w' := by
            intro W hW
            refine (hnum W hW).mono fun e w' ⟨⟨v, he, hv⟩, hb⟩ => ⟨?_, hb⟩
            rw [ho] at hv; obtain ⟨S', hv2⟩ := hv; subst hv2; exact ⟨_, he⟩
          clear hnum hcv hcv2 hd hd2 hA hR1 hls hls2 hN ho
          generalize st b = Sb at hcut hcut2 hbl
          generalize st A = SA at hcut hws hcs hAl
          generalize st N = SN at hcut2 hnumv
          generalize st r = Sr at hcut2
          go_wp2_with (first | (go_at_call 46; (with_reducible refine hcut.mono ?_); rintro e w2 ⟨rfl, hb2⟩; have hI2 := hide (builder_below hI hb2); have hbw2 := hide (hbw.trans (hb2.mono (by omega))); have hsz2 := hb2.size; clear hb2 hcut) | (go_at_call 46; (with_reducible refine (hcut2 _).mono ?_); rintro e w4 ⟨rfl, hb4⟩; have hI4 := hide (builder_below (Or.inr H3.out) hb4); have hbw4 := hide (hbw3.out.trans (hb4.mono (by omega))); have hsz4 := hb4.size; clear hb4 hcut2) | (go_at_call 47; (with_reducible refine (hnumv _ hbw4.out).mono ?_); rintro e w5 ⟨⟨a5, rfl⟩, hb5⟩; have hI5 := hide (builder_below hI4.out hb5); have hbw5 := hide (hbw4.out.trans (hb5.mono (by omega))); have hsz5 := hb5.size; clear hb5) | (go_at_call 31; (with_reducible refine (hws w2 hI2.out (by omega)).mono ?_); rintro e w3 ⟨rfl, h3, b3, _⟩; rw [hcs.out] at h3; have H3 := hide h3; have hbw3 := hide (hbw2.out.trans b3); have hsz3 := b3.size; clear h3 b3 hws))
          go_ret2
          exact ⟨⟨_, rfl, unes_none hEs.out _⟩, hbw5.out⟩
        | some one =>
          have hone := numd_len ho
          have Hnext := hide (show (unesc g r).map (fun t => (acc ++ A ++ one) ++ t) = E by
            rw [← HP.out.2.2, unesc_go hd hd2 (by rw [← hN]; exact ho), Option.map_map, ← hA]
            congr 1
            funext t
            simp)
          have hnumv : ∀ W, Below w.heap.size w W → Calls Tryd.prog 47 #[.string (st N)] W fun e w' => e = .returned (.tuple #[.string (st one), .bool true]) ∧ Below W.heap.size W w' := by
            intro W hW
            refine (hnum W hW).mono fun e w' ⟨⟨v, he, hv⟩, hb⟩ => ⟨?_, hb⟩
            rw [ho] at hv; have hv2 : v = .tuple #[.string (st one), .bool true] := hv; subst hv2; exact he
          have hg : 1 ≤ g := by have := HP.out.2.1; omega
          obtain ⟨g', rfl⟩ : ∃ g', g = g' + 1 := ⟨g - 1, by omega⟩
          have h1l : (st one).size ≤ 4 := by rw [st_size]; exact hone
          have hal : acc.length + A.length ≤ 500000 := by have := HP.out.1; omega
          have hws2 := fun W h hB => Tryd.Builder_WriteString_k w.heap.size w.heap.size (Lib.byteCells (acc ++ A)) (st one) W h (by rw [cells_len, List.length_append]; omega) hB
          have hcs2 := hide (show Lib.byteCells (acc ++ A) ++ Lib.strCells (st one) = Lib.byteCells (acc ++ A ++ one) by rw [cells_app (acc ++ A) one, cells_st])
          have hrs : (st r).size = r.length := st_size r
          have hfin := hide (show (acc ++ A ++ one).length + 4 * (st r).size ≤ 4 * s.size ∧ (st r).size < g' + 1 ∧ (unesc (g' + 1) (st r).data.toList).map (fun t => (acc ++ A ++ one) ++ t) = E by
            refine ⟨?_, ?_, ?_⟩
            · have := HP.out.1
              rw [List.length_append, List.length_append, hrs]; omega
            · have := HP.out.2.1
              omega
            · rw [st_list]; exact Hnext.out)
          have hmeas : (st r).size < S.size := by omega
          clear hnum hcv hcv2 hd hd2 hA hR1 hls hls2 hN ho hone hrs hal hg
          generalize st b = Sb at hcut hcut2 hbl
          generalize st A = SA at hcut hws hcs hAl
          generalize st N = SN at hcut2 hnumv
          generalize st r = Sr at hcut2 hfin hmeas
          generalize st one = S1 at hnumv hws2 hcs2 h1l
          go_wp2_with (first | (go_at_call 46; (with_reducible refine hcut.mono ?_); rintro e w2 ⟨rfl, hb2⟩; have hI2 := hide (builder_below hI hb2); have hbw2 := hide (hbw.trans (hb2.mono (by omega))); have hsz2 := hb2.size; clear hb2 hcut) | (go_at_call 46; (with_reducible refine (hcut2 _).mono ?_); rintro e w4 ⟨rfl, hb4⟩; have hI4 := hide (builder_below (Or.inr H3.out) hb4); have hbw4 := hide (hbw3.out.trans (hb4.mono (by omega))); have hsz4 := hb4.size; clear hb4 hcut2) | (go_at_call 47; (with_reducible refine (hnumv _ hbw4.out).mono ?_); rintro e w5 ⟨rfl, hb5⟩; have hI5 := hide (builder_below hI4.out hb5); have hbw5 := hide (hbw4.out.trans (hb5.mono (by omega))); have hsz5 := hb5.size; clear hb5) | (go_at_call 31; (with_reducible refine (hws w2 hI2.out (by omega)).mono ?_); rintro e w3 ⟨rfl, h3, b3, _⟩; rw [hcs.out] at h3; have H3 := hide h3; have hbw3 := hide (hbw2.out.trans b3); have hsz3 := b3.size; clear h3 b3 hws) | (go_at_call 31; (with_reducible refine (hws2 w5 hI5.out (by omega)).mono ?_); rintro e w6 ⟨rfl, h6, b6, _⟩; rw [hcs2.out] at h6; have H6 := hide h6; have hbw6 := hide (hbw5.out.trans b6); have hsz6 := b6.size; clear h6 b6))
          refine ⟨⟨Sr, acc ++ A ++ one, g', rfl, by omega, Or.inr H6.out, by omega, hbw6.out, hfin⟩, ?_⟩
          exact hmeas

end Go.Proofs.YtlenlopeakmplaaDoor
