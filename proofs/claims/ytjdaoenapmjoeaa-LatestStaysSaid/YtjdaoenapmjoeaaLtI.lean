/-
  LAYER 19, CONTRACTS: Versions.
-/
import Derived.Test.YtjdaoenapmjoeaaLtH
namespace Go.Proofs.Ytjdaoenapmjoeaa
open Go.RowKit
open Go.Maps (Keyed IsMap)
set_option maxRecDepth 8000

theorem pairs_ne {l : List (Int × Int)} (h : l ≠ []) : pairCells l ≠ [] := by
  cases l with
  | nil => exact absurd rfl h
  | cons x l => simp [pairCells]
theorem ats_ne {l : List Fo} (h : l ≠ []) : atsO l ≠ [] := by
  intro e
  have : (atsO l).length = l.length := by unfold atsO; rw [List.length_map, sortO_len]
  rw [e] at this
  exact h (List.eq_nil_of_length_eq_zero this.symm)
set_option maxHeartbeats 4000000 in
theorem versions_any (A A2 : Option Addr) (n c n2 c2 B : Nat) (l : List Fo) (vs : List Int) (w : World) (hl : Lies w B A (rowO l)) (hv : Lies w B A2 (nums .u64 vs)) (hB : B ≤ w.heap.size) (hn : n = l.length) (hn2 : n2 = vs.length) (hbig : n ≤ 200) (hbig2 : n2 ≤ 45) (hok : ∀ f ∈ l, f.Ok) :
    Calls Try.prog 9 #[.slice A n c, .slice A2 n2 c2] w fun e w' => ∃ (A3 : Option Addr) (c3 : Nat) (R : List Te), e = .returned (.slice A3 R.length c3) ∧ Vr w (groupO (voidO l vs) l l) A3 R w' := by
  have F1 := hide (chooser_any A A2 n c n2 c2 B l vs w hl hv hB hn hn2 (by omega) hbig2 hok)
  obtain ⟨ns, hns⟩ : ∃ ns, voidO l vs = ns := ⟨_, rfl⟩
  rw [hns] at F1 ⊢
  obtain ⟨G, hG⟩ : ∃ G, groupO ns l l = G := ⟨_, rfl⟩
  rw [hG]
  have HG := hide hG
  clear hG
  have HL := hide hl
  have HB := hide hB
  have Hn := hide hn
  have Hbig := hide hbig
  have Hok := hide hok
  clear hl hv hn hn2 hbig hbig2 hB hok hns
  have eg : ∀ args w, (callFunc 27 args).run Try.prog w = .ok (.enter 27 args) w := enters_of Try.func27 (by kernel_rfl) rfl
  go_enter Try.func9, Try.ntmps9
  go_wp2_with fail
  (with_reducible refine F1.out.mono ?_)
  rintro e w1 ⟨q5, q6, rfl, hch, hlt, hb⟩
  have C0 : Hid (Vn w ns l q5 q6 w1.heap.size 0 (.map []) (fun _ => .slice none 0 0) (w1.alloc (.map #[] 0))) := hide {
    chs := hch.below ((Below.refl w1.heap.size w1).alloc (Nat.le_refl _) _)
    vs := Vs.made w1
    below := hb.alloc hb.size _
    lo := hb.size }
  clear F1 hch hlt hb
  have mk := madeFs w1
  go_wp2_with fail
  clear mk
  generalize w1.heap.size = bm at *
  generalize w1.alloc (.map #[] 0) = w2 at *
  go_loopw [8, 18] (fun _ i wr => ∃ k : Nat, k ≤ n ∧ i = .int .i64 (k : Int) ∧ ∃ D V, Hid (Vn w ns l q5 q6 bm k D V wr)) (fun _ i _ => n - (intOf i).toNat)
  case atStart => exact ⟨0, Nat.zero_le _, rfl, _, _, C0⟩
  case round =>
    clear C0
    obtain ⟨k, hk, rfl, D, V, HC⟩ := hrel
    by_cases hlt : k < n
    · have hlt' : (k : Int) < (n : Int) := by omega
      have e7 : wrap64 ((k : Int) + 1) = ((k + 1 : Nat) : Int) := by have := Hbig.out; unfold wrap64; omega
      have hnl : k < l.length := by rw [← Hn.out]; exact hlt
      obtain ⟨ad, rfl, hab, hca⟩ := (HL.out.below (HC.out.below.mono HB.out)).elem Fo.cells_len hnl (by decide)
      have Hca := hide hca
      have Hf := hide (Hok.out _ (List.getElem_mem hnl))
      have Hx : Hid (l[k]? = some l[k]) := hide (List.getElem?_eq_getElem hnl)
      generalize l[k] = f at *
      clear hca hab hnl
      have Hlt := hide hlt
      obtain ⟨wt, hwt⟩ : ∃ wt, wantO ns l f = wt := ⟨_, rfl⟩
      have Hw := hide hwt
      clear hwt
      have HX4 := hide (BoxO.new f wr)
      have HA4 := hide (HC.out.later ((Below.refl wr.heap.size wr).alloc (Nat.le_refl _) (.cells (Fo.cells f).toArray 34)))
      have F := hide (fun W h1 h2 => wants_any ns l q5 q6 bm f W h1 Hf.out h2)
      rw [Hw.out] at F
      rcases f with ⟨fx, fy, kd, ix, ct, bt, op, lp, ln⟩
      unfold Fo.cells at *
      dsimp only at *
      go_upto_region 6 with (with_reducible refine wpl_load_addr rfl 34 (.tmp 20) rfl (ad.add (k * 9)) _ Hca.out rfl _ Try.underlying34 rfl 9 infoFo rfl ?_)
      generalize wr.alloc (.cells #[.int .i64 fx, .int .i64 fy, .int .i64 kd, .int .i64 ix, .int .i64 ct, .int .u64 bt, .int .u64 op, .int .i64 lp, .int .i64 ln] 34) = w4 at *
      have H8 := hide HX4.out.lt
      have Hc8 := hide (World.news_of_block HX4.out)
      unfold Fo.cells at *
      dsimp only at Hc8
      have HVlt := hide (fun x g h => (own_lowS (HC.out.vs.own x) g h).2)
      clear Hca HC
      generalize wr.heap.size = q8 at *
      have FC := hide (F.out w4 HA4.out.chs (Nat.le_of_lt HA4.out.hi))
      clear F
      cases wt with
      | false =>
        go_wp2_with (first
          | (with_reducible refine wpl_load_addr rfl 34 (.tmp 8) rfl ⟨q8, 0, none⟩ _ Hc8.out rfl _ Try.underlying34 rfl 9 infoFo rfl ?_)
          | (go_at_fn 27; refine FC.out.mono ?_; rintro e w5 ⟨rfl, hb⟩; have HN := hide ((HA4.out.later hb).skip Hx.out Hw.out); clear hb))
        go_roundw
        case rel => exact ⟨k + 1, hlt, congrArg (Value.int .i64) e7, _, _, HN⟩
        case measure => first | exact measT hlt | exact measT2 e7 hlt
      | true =>
        go_upto_region 7 with (first
          | (with_reducible refine wpl_load_addr rfl 34 (.tmp 8) rfl ⟨q8, 0, none⟩ _ Hc8.out rfl _ Try.underlying34 rfl 9 infoFo rfl ?_)
          | (go_at_fn 27; refine FC.out.mono ?_; rintro e w5 ⟨rfl, hb⟩; have HV5 := hide (HA4.out.later hb); have HX5 := hide (HX4.out.below hb H8.out); have H85 := hide (Nat.lt_of_lt_of_le H8.out hb.size); clear hb))
        clear HA4 HX4 H8 Hc8 FC
        have x0 := HX5.out.c 0 _ rfl
        have x1 := HX5.out.c 1 _ rfl
        have x2 := HX5.out.c 2 _ rfl
        have x3 := HX5.out.c 3 _ rfl
        have x4 := HX5.out.c 4 _ rfl
        have x5 := HX5.out.c 5 _ rfl
        have x6 := HX5.out.c 6 _ rfl
        have x7 := HX5.out.c 7 _ rfl
        have x8 := HX5.out.c 8 _ rfl
        dsimp only at x0 x1 x2 x3 x4 x5 x6 x7 x8
        have HA6 := hide (show Below w5.heap.size w5 (w5.alloc (.cells #[.int .i64 fx, .int .i64 fy, .int .i64 kd, .int .i64 ix, .int .i64 ct, .int .u64 bt, .int .u64 op, .int .i64 lp, .int .i64 ln] 34)).drew from ((Below.refl _ _).alloc (Nat.le_refl _) _).drew)
        have y7 := (HX5.out.below HA6.out H85.out).c 7 _ rfl
        dsimp only at y7
        have L1 := (HV5.out.later (Below.refl w5.heap.size w5).drew).vs.look Hf.out.1
        have L2 := (HV5.out.later HA6.out).vs.look Hf.out.1
        have Hkey := hide (key_int Hf.out.1)
        have Hkm : Hid (k < maxLen) := hide (by have := Hbig.out; unfold maxLen; omega)
        have Hgl : Hid ((groupO ns l (l.take k) lp).length ≤ 200) := hide (Nat.le_trans (List.length_filter_le _ _) (by rw [List.length_take]; have := Hbig.out; omega))
        have Hsz : Hid (bm + 1 ≤ (w5.alloc (.cells #[.int .i64 fx, .int .i64 fy, .int .i64 kd, .int .i64 ix, .int .i64 ct, .int .u64 bt, .int .u64 op, .int .i64 lp, .int .i64 ln] 34)).drew.heap.size) := hide (Nat.le_trans HV5.out.hi HA6.out.size)
        have Hlt := hide hlt
        have E7 := hide e7
        dsimp only at L1 L2 Hkey
        clear hlt hlt' e7 hk
        go_region_law (first
          | (refine step_app _ rfl foelems (.tmp 33) (.tmp 35) rfl (bm + 1) (V lp) (groupO ns l (l.take k) lp).length (rowO (groupO ns l (l.take k) lp)) (by simp [Act.eval]) (own_keepT (HV5.out.vs.own lp) HA6.out) (w5.heap.size + 1) (some ⟨w5.heap.size, 0, none⟩) 1 1 _ (by simp [Act.eval]) (by rfl) (Lies.new w5 _ _ _ _ (Nat.lt_succ_self _)).drew (by simp [Value.oneCell']) (by have := Hgl.out; unfold maxLen; omega) (by have := Hgl.out; omega) Hsz.out ?_; intro A3 c3 w6 hown hg hat; have z7 := (World.cell?_of_block (a := ⟨q8, 7, none⟩) (hg.block q8 (Nat.lt_of_lt_of_le H85.out HA6.out.size) (fun e => Nat.lt_irrefl _ (HVlt.out _ _ e.symm)))).trans y7; obtain ⟨w7, hrun, hm, hg7⟩ := (HV5.out.map6 HA6.out hg).update (t := 51) (e := 22) (val := .slice A3 ((groupO ns l (l.take k) lp).length + 1) c3) keyF Try.underlying51 Hkm.out Hkey.out rfl; have HN := hide (HV5.out.more Hx.out Hw.out HA6.out hown hg hat hm hg7); clear hown hg hat hm hg7))
        all_goals
          go_wp2
          go_roundw
          case rel => obtain ⟨D', V', h⟩ := HN.out; exact ⟨k + 1, Hlt.out, congrArg (Value.int .i64) E7.out, D', V', hide h⟩
          case measure => first | exact measT Hlt.out | exact measT2 E7.out Hlt.out
    · obtain rfl : k = n := by omega
      have HGn : Hid (∀ x, (G x).length ≤ 200) := hide (fun x => by rw [← HG.out]; exact Nat.le_trans (List.length_filter_le _ _) (by have := Hn.out; have := Hbig.out; omega))
      have HM : Hid (Maps.size D ≤ 200) := hide (Nat.le_trans (size_le HC.out.vs.map_) Hbig.out)
      have HC2 := hide (fun W2 a b c => HC.out.start (W' := W2) Hn.out.symm a b c)
      rw [HG.out] at HC2
      have hown := HC.out.vs.map_
      clear hlt hk HC HL HB Hn Hok eg HG
      go_wp2_with (first
        | (at_range; refine wpList_range_own _ rfl _ 51 rfl 3 22 keyF Try.underlying51 rawV bm k D rfl hown ?_; intro w5 hrg0 hg0 hs0; have V0 := hide (HC2.out w5 hrg0 hg0 hs0); clear hrg0 hg0 hs0))
      go_frame
      clear hown HC2
      generalize wr.heap.size = r at *
      generalize Maps.size D = M at *
      go_loopw [9] (fun v W => ∃ left cnt T, Hid (Vt w G bm r k M D V left cnt T v W)) (fun _ W => W.rangeLeft bm r)
      case atStart => exact ⟨_, _, _, V0⟩
      case round =>
        clear V0
        obtain ⟨left, cnt, T, HV⟩ := hrel
        have hrg := HV.out.rg
        have hmeas := hrg.left_eq
        have HTl : Hid (T.length ≤ 200) := hide (by have := HV.out.len; have := HM.out; omega)
        go_wp2_with (first
          | (at_next; refine wpList_next_ranges _ rfl _ rfl 3 keyF rawV (Value.int .i64) (fun v : Value => v) (fun key kl hkey => by obtain ⟨x, rfl, _⟩ := Maps.keyOf_int_inv Try.underlying3 hkey; exact ⟨x, rfl⟩) (fun v y _ => ⟨v, rfl⟩) bm r k D left cnt rfl hrg ?_ ?_))
        · intro hc0 hl0
          subst hc0
          have Hl0 := hide hl0
          have F := hide (sortTold_any _ T (r + 1) _ HV.out.told (by have := HTl.out; omega))
          clear hrg hmeas hl0
          go_wp2_with fail
          (with_reducible refine F.out.mono ?_)
          rintro e w' ⟨rfl, hg, A3, c3, R, rfl, hp, hs, hL⟩
          have HR := hide (HV.out.done Hl0.out hg hp hs hL (by have := HM.out; omega))
          have hlen := hp.length_eq
          rw [← hlen]
          clear F HV hg hp hs hL hlen
          go_wp2
          go_ret
          exact ⟨A3, c3, R, rfl, HR.out⟩
        · intro x c kl ya yb w1 cnt' hkey hlk hy hat hrg1 hlt1 hg1 hs1 hen
          obtain ⟨x', ex, rfl, hwx⟩ := Maps.keyOf_int_inv Try.underlying3 hkey
          cases ex
          have hy2 : ya = .held c := by injection hy with hy; injection hy with hy; exact hy.symm
          subst hy2
          have hc := hat (.held (.slice none 0 0))
          rw [HV.out.at_ x] at hc
          injection hc with hc
          have hrow := (HV.out.rows x hlk).kept hg1 (by
            cases hv : (V x).ownBlock with
            | none => exact .inl rfl
            | some j => exact .inr (fun e => by injection e with e; have := (HV.out.low x j hv).2; omega))
          have hGx : G x ≠ [] := (HV.out.keys x).2 (.inl hlk)
          have hpos : 0 < (G x).length := List.length_pos_iff.2 hGx
          subst hc
          obtain ⟨vx, hvx⟩ : ∃ vx, V x = vx := ⟨_, rfl⟩
          rw [hvx] at hrow hen ⊢
          rcases hrow.2 with ⟨rfl, h0⟩ | ⟨g, cap, cur, rfl, _⟩
          · exact absurd h0 (by omega)
          have hgx : (V x).ownBlock = some g := by rw [hvx]; rfl
          have FC := hide (copies_any g (G x).length cap (bm + 1) (G x) x w1 hrow rfl hpos (by have := HGn.out x; omega))
          have HMore := hide (fun (W2 W3 W4 : World) (a : Addr) (c' : Nat) (A : Option Addr) (c4 : Nat) h1 h2 h3 h4 h5 h6 h7 => HV.out.more (W1 := w1) (W2 := W2) (W3 := W3) (W4 := W4) (a := a) (c' := c') (A := A) (c := c4) hlk hlt1 hrg1 hg1 hgx h1 h2 h3 (pairs_ne (ats_ne hGx)) h4 h5 h6 h7)
          have HTold := hide (fun (W2 W3 : World) h1 h2 => HV.out.told3 (W2 := W2) (W3 := W3) hg1 hgx h1 h2)
          have Hmeas := hide (show cnt' < wr.rangeLeft bm r by rw [hmeas]; exact hlt1)
          have Hcnt' := hide hrg1
          clear hrg hmeas hkey hlk hy hat hrow hGx hpos hvx hgx hrg1 hlt1 hg1 hs1 hwx
          generalize kindO (G x) = kx at *
          generalize hats : atsO (G x) = ats at *
          generalize (G x).length = gn at *
          go_wp2_with fail
          (with_reducible refine FC.out.mono ?_)
          rintro e w2 ⟨a, c', rfl, ha, hL, hg2⟩
          have HA3 := hide ((Below.refl w2.heap.size w2).alloc (Nat.le_refl _) (.cells #[.int .i64 x, .int .i64 kx, .slice (some a) gn c'] 42))
          have HT3 := hide (HTold.out w2 _ hg2 HA3.out)
          have HM4 := hide (fun (W4 : World) (A : Option Addr) (c4 : Nat) h5 h6 h7 => HMore.out w2 _ W4 a c' A c4 hg2 ha hL HA3.out h5 h6 h7)
          clear FC HMore HTold ha hL hg2 hen
          go_wp2_with (at_builtin; refine wpl_app _ rfl teelems (.tmp 45) (.tmp 49) rfl (r + 1) _ T.length (T.flatMap Te.cells) rfl HT3.out.1 (w2.heap.size + 1) (some ⟨w2.heap.size, 0, none⟩) 1 1 [.int .i64 x, .int .i64 kx, .slice (some a) gn c'] rfl (by rfl) (Lies.new w2 #[.int .i64 x, .int .i64 kx, .slice (some a) gn c'] 42 (0, 0) _ (Nat.lt_succ_self _)) (by simp [Value.oneCell']) (by have := HTl.out; unfold maxLen; omega) (by have := HTl.out; omega) HT3.out.2 ?_; intro A4 c4 w4 hown hg4 hblk; have HV4 := hide (HM4.out w4 A4 c4 hown hg4 hblk); clear hown hg4 hblk)
          go_roundw
          case rel => exact ⟨_, _, _, HV4⟩
          case measure =>
            have h1 := HV4.out.rg.left_eq
            have h2 := Hmeas.out
            first | omega | (rw [h1]; exact h2)
end Go.Proofs.Ytjdaoenapmjoeaa
