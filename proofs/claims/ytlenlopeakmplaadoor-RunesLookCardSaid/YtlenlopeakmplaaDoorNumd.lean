/-
  CONTRACTS: what the program's variables hold; strconv.ParseUint at base 16; package runes' numbered.
-/
import Derived.Test.YtlenlopeakmplaaDoorPars
import Derived.Lib.LaidTab
import Derived.BigQuiet
import Derived.Deep.QuietTactic
namespace Go.Proofs.YtlenlopeakmplaaDoor
open Go.RowKit

/-- What the listed variables hold. -/
structure Ready (w : World) : Prop where
  tz : w.cell? ⟨5, 15, none⟩ = some (.int .u8 4)
  pow : Lib.TabIs Tryd.prog w "internal/strconv.uint64pow10" .u64 Lib.pow10Tab
  syn : ∃ t p, w.cell? ⟨0, 0, none⟩ = some (.iface t p)
  rng : ∃ t p, w.cell? ⟨1, 0, none⟩ = some (.iface t p)

theorem Ready.size {w : World} (h : Ready w) : 6 ≤ w.heap.size := by
  have := World.block_lt_of_cell? w _ h.tz
  have e : (⟨5, 15, none⟩ : Addr).block = 5 := rfl
  omega
theorem gPow : Tryd.prog.globalNamed "internal/strconv.uint64pow10" = some 2 := by kernel_rfl
theorem Ready.below {w w' : World} {B : Nat} (h : Ready w) (hb : Below B w w') (hB : 6 ≤ B) : Ready w' := by
  obtain ⟨t1, p1, h1⟩ := h.syn
  obtain ⟨t2, p2, h2⟩ := h.rng
  refine ⟨(hb.cell (p := ⟨5, 15, none⟩) ?_).trans h.tz, ?_, ⟨t1, p1, (hb.cell (p := ⟨0, 0, none⟩) ?_).trans h1⟩, ⟨t2, p2, (hb.cell (p := ⟨1, 0, none⟩) ?_).trans h2⟩⟩
  · show 5 < B; omega
  · have hp := h.pow
    unfold Lib.TabIs World.var? at hp ⊢
    rw [gPow] at hp ⊢
    simp only [Option.bind_some] at hp ⊢
    rw [hb.block 2 (by omega)]
    exact hp
  · show 0 < B; omega
  · show 1 < B; omega
theorem Ready.on {w w' : World} (h : Ready w) (hb : Below w.heap.size w w') : Ready w' := h.below hb h.size

/-- What strconv.ParseUint tells. -/
def Told (o : Option Nat) (v : Value) : Prop :=
  match o with
  | some n => v = .tuple #[.int .u64 (n : Int), .nilIface]
  | none => ∃ (x : Int) (t : TypeId) (p : Value), v = .tuple #[.int .u64 x, .iface t p] ∧ 0 ≤ x ∧ x < 4294967296

theorem tell (o : Option Nat) (B : Int) (s : ByteArray) (w : World) (hR : Ready w) (hs : s.size ≤ 1000000) (hin : Calls Tryd.prog 72 #[.string s, .int .i64 16, .int .i64 B] w fun e w' => (∃ v, e = .returned v ∧ Parsed o v) ∧ Below w.heap.size w w') :
    Calls Tryd.prog 59 #[.string s, .int .i64 16, .int .i64 B] w fun e w' => (∃ v, e = .returned v ∧ Told o v) ∧ Below w.heap.size w w' := by
  go_enter Tryd.func59, Tryd.ntmps59
  go_wp2_with fail
  (with_reducible refine hin.mono ?_)
  rintro e w1 ⟨⟨v, rfl, hp⟩, hb⟩
  have hR1 := hR.on hb
  have Hb := hide hb
  clear hin hb
  cases o with
  | some n =>
    have hv : v = .tuple #[.int .u64 (n : Int), .nilIface] := hp
    subst hv
    clear hp
    obtain ⟨x, hx⟩ : ∃ x : Int, x = (n : Int) := ⟨_, rfl⟩
    rw [← hx]
    have Hx := hide hx
    clear hx
    go_wp2
    go_ret2
    exact ⟨⟨_, rfl, by rw [Hx.out]; exact rfl⟩, Hb.out⟩
  | none =>
    obtain ⟨x, k, hv, hk, h0, h1⟩ := hp
    subst hv
    obtain ⟨t1, p1, hs1⟩ := hR1.syn
    obtain ⟨t2, p2, hs2⟩ := hR1.rng
    have H0 := hide h0
    have H1 := hide h1
    rcases hk with rfl | rfl
    · have ht := Tryd.strconv_toError_range ⟨#[80, 97, 114, 115, 101, 85, 105, 110, 116]⟩ s 16 B _ w1 (by omega) hs2 (.inr ⟨_, _, rfl⟩)
      clear hs1 hs2 h0 h1 hR1 hR
      go_wp2_with (go_at_call 51; (with_reducible refine ht.mono ?_); rintro e w2 ⟨N, rfl, hN, -, hb2⟩; have Hb2 := hide hb2; clear hb2 ht)
      go_ret2
      exact ⟨⟨_, rfl, _, _, _, rfl, H0.out, H1.out⟩, Hb.out.trans (Hb2.out.mono Hb.out.size)⟩
    · have ht := Tryd.strconv_toError_syntax ⟨#[80, 97, 114, 115, 101, 85, 105, 110, 116]⟩ s 16 B _ w1 (by omega) hs1 (.inr ⟨_, _, rfl⟩)
      clear hs1 hs2 h0 h1 hR1 hR
      go_wp2_with (go_at_call 51; (with_reducible refine ht.mono ?_); rintro e w2 ⟨N, rfl, hN, -, hb2⟩; have Hb2 := hide hb2; clear hb2 ht)
      go_ret2
      exact ⟨⟨_, rfl, _, _, _, rfl, H0.out, H1.out⟩, Hb.out.trans (Hb2.out.mono Hb.out.size)⟩

theorem enc_len (n : Nat) : (Utf8.encode (n : Int)).data.toList.length ≤ 4 := by
  unfold Utf8.encode
  simp only
  generalize (if Utf8.valid (n : Int) = true then ((n : Int)).toNat else Utf8.runeError) = c
  repeat' split
  all_goals simp
theorem numd_len {l one : List UInt8} (h : numd l = some one) : one.length ≤ 4 := by
  unfold numd at h
  split at h
  · cases hp : parseHex 255 _ with
    | none => rw [hp] at h; cases h
    | some n => rw [hp] at h; injection h with h; subst h; simp
  · cases hp : parseHex 2147483647 _ with
    | none => rw [hp] at h; cases h
    | some n => rw [hp] at h; injection h with h; subst h; exact enc_len n

/-- What numbered tells. -/
def Named (o : Option (List UInt8)) (v : Value) : Prop :=
  match o with
  | some one => v = .tuple #[.string (st one), .bool true]
  | none => ∃ S : ByteArray, v = .tuple #[.string S, .bool false]

set_option maxRecDepth 100000 in
set_option maxHeartbeats 2000000 in
theorem numbered_run (s : ByteArray) (w : World) (hR : Ready w) (hs : s.size ≤ 1000000) :
    Calls Tryd.prog 47 #[.string s] w fun e w' => (∃ v, e = .returned v ∧ Named (numd s.data.toList) v) ∧ Below w.heap.size w w' := by
  have hcp := Tryd.strings_CutPrefix s ⟨#[120]⟩ w
  have e120 : (⟨#[120]⟩ : ByteArray).data.toList = [120] := rfl
  rw [e120] at hcp
  by_cases hx : Lib.hasPrefix s.data.toList [120] = true
  · obtain ⟨r, hr⟩ : ∃ r, s.data.toList = 120 :: r := by
      unfold Lib.hasPrefix at hx
      cases hl : s.data.toList with
      | nil => rw [hl] at hx; cases hx
      | cons c r =>
        rw [hl] at hx
        have : 120 = c := by simpa [List.isPrefixOf] using hx
        exact ⟨r, by rw [← this]⟩
    have htr : Lib.trimPrefix s.data.toList [120] = r := by unfold Lib.trimPrefix; rw [if_pos hx, hr]; rfl
    rw [htr, hx] at hcp
    have hsr : r.length ≤ 1000000 := by
      have := congrArg List.length hr
      rw [Array.length_toList, List.length_cons] at this
      have e : s.size = s.data.size := rfl
      omega
    have htell := tell _ 8 (st r) w hR (by rw [st_size]; exact hsr) (parse16_8_in (st r) w (by rw [st_size]; exact hsr))
    rw [st_list] at htell
    change Calls _ _ #[.string s, .string ⟨#[120]⟩] w (fun e w' => e = .returned (.tuple #[.string (st r), .bool true]) ∧ w' = w) at hcp
    rw [hr, numd_x]
    have Hle := hide (fun n (h : parseHex 255 r = some n) => parseHex_le h)
    generalize parseHex 255 r = o at htell Hle ⊢
    generalize st r = S at hcp htell
    clear hx htr hr hR
    go_enter Tryd.func47, Tryd.ntmps47
    go_wp2_with fail
    (with_reducible refine hcp.mono ?_)
    rintro e w' ⟨rfl, rfl⟩
    go_wp2_with fail
    (with_reducible refine htell.mono ?_)
    rintro e w1 ⟨⟨v, rfl, hv⟩, hb⟩
    have Hb := hide hb
    clear htell hcp hb
    cases o with
    | some n =>
      have hv2 : v = .tuple #[.int .u64 (n : Int), .nilIface] := hv
      subst hv2
      have hn := Hle.out n rfl
      clear hv Hle
      have hw : IntKind.u8.wrap (n : Int) = n := IntWalk.u8_in _ (by omega)
      have hcv : (convert 45 9 (.slice (some ⟨w1.heap.size, 0, none⟩) 1 1)).run Tryd.prog (w1.alloc (.cells #[.int .u8 (n : Int)] 5)).drew = .ok (.string (st [UInt8.ofNat n])) (w1.alloc (.cells #[.int .u8 (n : Int)] 5)).drew :=
        strU8 (B := w1.heap.size + 1) (l := [UInt8.ofNat n]) 1 ((Lies.fresh w1 [UInt8.ofNat n] 5 (0, 0) #[.int .u8 (n : Int)] (by simp [bys]; omega) w1.heap.size _ rfl (Nat.lt_succ_self _)).drew) rfl
      go_wp2
      go_region
      go_wp2
      go_ret2
      exact ⟨⟨_, rfl, rfl⟩, Hb.out.trans (((Below.refl _ w1).alloc (Nat.le_refl _) _).drew.mono Hb.out.size)⟩
    | none =>
      obtain ⟨x, t, pp, hv2, hx0, hx1⟩ := hv
      subst hv2
      clear Hle
      obtain ⟨y, hy, hy2⟩ : ∃ y : Nat, IntKind.u8.wrap x = (y : Int) ∧ y < 256 := by
        have h0 : 0 ≤ IntKind.u8.wrap x ∧ IntKind.u8.wrap x < 256 := by rw [IntKind.wrap_u8]; omega
        exact ⟨(IntKind.u8.wrap x).toNat, by omega, by omega⟩
      have hcv : (convert 45 9 (.slice (some ⟨w1.heap.size, 0, none⟩) 1 1)).run Tryd.prog (w1.alloc (.cells #[.int .u8 (y : Int)] 5)).drew = .ok (.string (st [UInt8.ofNat y])) (w1.alloc (.cells #[.int .u8 (y : Int)] 5)).drew :=
        strU8 (B := w1.heap.size + 1) (l := [UInt8.ofNat y]) 1 ((Lies.fresh w1 [UInt8.ofNat y] 5 (0, 0) #[.int .u8 (y : Int)] (by simp [bys, Nat.mod_eq_of_lt hy2]) w1.heap.size _ rfl (Nat.lt_succ_self _)).drew) rfl
      clear hx0 hx1
      go_wp2
      go_region
      go_wp2
      go_ret2
      exact ⟨⟨_, rfl, _, rfl⟩, Hb.out.trans (((Below.refl _ w1).alloc (Nat.le_refl _) _).drew.mono Hb.out.size)⟩
  · have hxf : Lib.hasPrefix s.data.toList [120] = false := Bool.eq_false_iff.2 hx
    have htr : (⟨(Lib.trimPrefix s.data.toList [120]).toArray⟩ : ByteArray) = s := by unfold Lib.trimPrefix; rw [if_neg hx]
    rw [htr, hxf] at hcp
    have hnum : numd s.data.toList = (parseHex 2147483647 s.data.toList).map fun n => (Utf8.encode (n : Int)).data.toList := by
      cases hl : s.data.toList with
      | nil => rfl
      | cons c r =>
        refine numd_other fun hc => ?_
        rw [hl, hc] at hxf
        simp [Lib.hasPrefix, List.isPrefixOf] at hxf
    have htell := tell _ 31 s w hR hs (parse16_31_in s w hs)
    rw [hnum]
    have Hle := hide (fun n (h : parseHex 2147483647 s.data.toList = some n) => parseHex_le h)
    generalize parseHex 2147483647 s.data.toList = o at htell Hle ⊢
    change Calls _ _ #[.string s, .string ⟨#[120]⟩] w (fun e w' => e = .returned (.tuple #[.string s, .bool false]) ∧ w' = w) at hcp
    clear hx hxf htr hnum hR
    go_enter Tryd.func47, Tryd.ntmps47
    go_wp2_with fail
    (with_reducible refine hcp.mono ?_)
    rintro e w' ⟨rfl, rfl⟩
    go_wp2_with fail
    (with_reducible refine htell.mono ?_)
    rintro e w1 ⟨⟨v, rfl, hv⟩, hb⟩
    have Hb := hide hb
    clear htell hcp hb
    cases o with
    | some n =>
      have hv2 : v = .tuple #[.int .u64 (n : Int), .nilIface] := hv
      subst hv2
      have hn := Hle.out n rfl
      clear hv Hle
      have hw : IntKind.i32.wrap (n : Int) = n := by rw [IntKind.wrap_i32]; omega
      go_wp2
      go_quiet (fail)
      go_wp2
      go_ret2
      refine ⟨⟨_, rfl, ?_⟩, bel_drewN Hb.out _⟩
      show Value.tuple #[.string (Utf8.encode (n : Int)), .bool true] = Value.tuple #[.string (st (Utf8.encode (n : Int)).data.toList), .bool true]
      rw [← st_of]
    | none =>
      obtain ⟨x, t, pp, hv2, hx0, hx1⟩ := hv
      subst hv2
      clear Hle
      obtain ⟨z, hz⟩ : ∃ z, IntKind.i32.wrap x = z := ⟨_, rfl⟩
      clear hx0 hx1
      go_wp2
      go_quiet (fail)
      go_wp2
      go_ret2
      exact ⟨⟨_, rfl, _, rfl⟩, bel_drewN Hb.out _⟩

end Go.Proofs.YtlenlopeakmplaaDoor
