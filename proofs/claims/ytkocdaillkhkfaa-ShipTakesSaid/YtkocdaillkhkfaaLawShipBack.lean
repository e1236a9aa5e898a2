/- The walk of ShipBack. Conditions: the numbers fit their kinds, a text is no longer than a machine has addresses. -/
import Derived.Test.YtkocdaillkhkfaaShipGreat
import Derived.Test.YtkocdaillkhkfaaShipRefSame
namespace Go.Proofs.Ytkocdaillkhkfaa
open Go.RowKit
set_option linter.unusedVariables false
theorem take_cases (s : ByteArray) (hz : s.size ≤ 140737488351232) :
    (∃ y : Int, (y != 0) = true ∧ (y = 7 ∨ y = 40) ∧ ∀ W, Calls Try.prog 12 #[.string s] W fun e w' => e = .returned (.tuple #[.agg #[.int .u8 0, .int .u64 0, .int .u64 0, .bool false, .int .i64 0, .slice none 0 0], .int .i64 y]) ∧ Below W.heap.size W w') ∨
    (∃ (k ep K p : Nat) (full : Bool) (l : List (Int × ByteArray)), IsShip s k ep K full p l) := by
  by_cases h1 : s.size < 56 ∨ s.size % 8 ≠ 0
  · exact .inl ⟨7, rfl, .inl rfl, fun W => take_short s W hz h1⟩
  · by_cases h2 : sumOk s
    · cases h3 : tkB s with
      | false => exact .inl ⟨7, rfl, .inl rfl, fun W => take_bad s W hz (by omega) (by omega) h2 h3⟩
      | true => exact .inr ⟨_, _, _, _, _, _, tk_ship (by omega) h2 h3⟩
    · exact .inl ⟨40, rfl, .inr rfl, fun W => take_sum s W hz (by omega) (by omega) h2⟩
set_option maxRecDepth 100000 in
set_option maxHeartbeats 8000000 in
theorem shipBack_great (kind ep K pages : Int) (full : Bool) (A : Option Addr) (n c : Nat) (s : ByteArray) (g : Bool) (w : World)
    (HG : Hid (∀ W, Sb w kind ep K pages full A n c W → Calls Try.prog 14 #[.agg #[.int .u8 kind, .int .u64 ep, .int .u64 K, .bool full, .int .i64 pages, .slice A n c]] W fun e w' => e = .returned (.bool g) ∧ Below W.heap.size W w'))
    (h : g = true ∨ g = false ∧ (16384 : Int) < s.size) :
    Calls Try.prog 6 #[.agg #[.int .u8 kind, .int .u64 ep, .int .u64 K, .bool full, .int .i64 pages, .slice A n c], .string s] w fun e w' => e = .returned (.bool true) ∧ Below w.heap.size w w' := by
  have hs0 := sb_new w kind ep K pages full A n c
  rcases h with rfl | ⟨rfl, hl⟩
  all_goals
    go_enter Try.func6, Try.ntmps6
    go_wp2_with fail
    refine (works_any _).mono ?_
    rintro e w1 ⟨rfl, hb1⟩
    have hs1 := sb_step hb1 hs0
    obtain ⟨r0, r1, r2, r3, r4, r5⟩ := sbS hs1
    clear hb1 hs0
    go_wp2_with fail
    refine (HG.out _ hs1).mono ?_
    rintro e w2 ⟨rfl, hb2⟩
    have hs2 := sb_step hb2 hs1
    clear hb2 hs1 r0 r1 r2 r3 r4 r5
    go_wp2
    go_ret
    exact ⟨rfl, hs2.2⟩
def Sn (k e K p : Nat) (full : Bool) (l : List (Int × ByteArray)) (g : Nat) (A : Option Addr) (c : Nat) (W : World) : Prop := Blk W g 28 #[.int .u8 k, .int .u64 e, .int .u64 K, .bool full, .int .i64 p, .slice A l.length c] ∧ Imgs W W.heap.size A l
theorem sn_new {k e K p : Nat} {full : Bool} {l : List (Int × ByteArray)} {A : Option Addr} {c : Nat} {W : World} (h : Imgs W W.heap.size A l) : Sn k e K p full l W.heap.size A c (W.alloc (.cells #[.int .u8 k, .int .u64 e, .int .u64 K, .bool full, .int .i64 p, .slice A l.length c] 28)) :=
  ⟨Blk.new _ _ _, imgs_mono (imgs_below h ((Below.refl _ _).alloc (Nat.le_refl _) _)) (by simp)⟩
set_option maxRecDepth 100000 in
set_option maxHeartbeats 8000000 in
theorem shipBack_bad (kind ep K pages : Int) (full : Bool) (A : Option Addr) (l : List (Int × ByteArray)) (n c : Nat) (s : ByteArray) (w : World) (hI : Imgs w w.heap.size A l) (hn : n = l.length) (hm : n ≤ maxLen) (hp : ∀ W, Sb w kind ep K pages full A n c W → Calls Try.prog 10 #[.agg #[.int .u8 kind, .int .u64 ep, .int .u64 K, .bool full, .int .i64 pages, .slice A n c]] W fun e w' => e = .returned (.tuple #[.string ⟨#[]⟩, .int .i64 2]) ∧ Below W.heap.size W w') (hg : grB l = false) (hs16 : (s.size : Int) ≤ 16384) :
    Calls Try.prog 6 #[.agg #[.int .u8 kind, .int .u64 ep, .int .u64 K, .bool full, .int .i64 pages, .slice A n c], .string s] w fun e w' => e = .returned (.bool true) ∧ Below w.heap.size w w' := by
  have hG := fun W (h : Sb w kind ep K pages full A n c W) => great_any kind ep K pages full A l n c W (sb_imgs h hI) hn hm
  rw [hg] at hG
  have hTC := take_cases s (by omega)
  have hs0 := sb_new w kind ep K pages full A n c
  have HG := Lib.hid hG
  have HP := Lib.hid hp
  have HTC := Lib.hid hTC
  have HI := Lib.hid hI
  have HN := Lib.hid hn
  have HM := Lib.hid hm
  clear hG hp hTC hI hn hm hg
  go_enter Try.func6, Try.ntmps6
  go_wp2_with fail
  refine (works_any _).mono ?_
  rintro e w1 ⟨rfl, hb1⟩
  have hs1 := sb_step hb1 hs0
  obtain ⟨r0, r1, r2, r3, r4, r5⟩ := sbS hs1
  clear hb1 hs0
  go_wp2_with fail
  refine (HG.out _ hs1).mono ?_
  rintro e w2 ⟨rfl, hb2⟩
  have hs2 := sb_step hb2 hs1
  clear hb2 hs1 r0 r1 r2 r3 r4 r5
  obtain ⟨r0, r1, r2, r3, r4, r5⟩ := sbS hs2
  go_wp2_with fail
  refine (HP.out _ hs2).mono ?_
  rintro e w3 ⟨rfl, hb3⟩
  have hs3 := sb_step hb3 hs2
  clear hb3 hs2 r0 r1 r2 r3 r4 r5
  have hcut := hs3.2
  clear hs3
  rcases HTC.out with ⟨y, hy, _, ht⟩ | ⟨k, e', K', p, f', l', hs⟩
  · go_wp2_with fail
    refine (ht _).mono ?_
    rintro e w3 ⟨rfl, hb3⟩
    have hSame := refSame_any 0 0 0 0 false none [] 0 0 0 0 0 0 false none [] 0 0 (w3.alloc (.cells #[.int .u8 0, .int .u64 0, .int .u64 0, .bool false, .int .i64 0, .slice none 0 0] 28)) (.inl rfl) (.inl rfl) rfl rfl (by unfold maxLen; omega)
    have e1 : sameB 0 0 0 0 false [] 0 0 0 0 false [] = true := by unfold sameB; exact decide_eq_true ⟨rfl, rfl, rfl, rfl, rfl, rfl⟩
    rw [e1] at hSame
    have HS := Lib.hid hSame
    have hb := bj hcut hb3
    clear hSame e1 ht hcut hb3
    go_wp2_with fail
    refine (HS.out).mono ?_
    rintro e w4 ⟨rfl, hb4⟩
    go_wp2
    go_ret
    exact ⟨rfl, bja _ hb hb4⟩
  · have hty := fun W => take_yes s k e' K' f' p l' W (by omega) hs
    have hput := fun (W : World) (A : Option Addr) (c : Nat) (hI : Imgs W W.heap.size A l') => put_yes k e' K' p f' A l' l'.length c W hI rfl hs.hep hs.hK hs.ok
    have hT : bstr (shipL k e' K' f' p l') = s := by rw [← hs.text, bstr_bts]
    rw [hT] at hput
    have HTY := Lib.hid hty
    have HPT := Lib.hid hput
    clear hty hput hT hs
    go_wp2_with fail
    refine (HTY.out _).mono ?_
    rintro e w3 ⟨A3, c3, rfl, hI3, hb3⟩
    have hn3 := sn_new (k := k) (e := e') (K := K') (p := p) (full := f') (c := c3) hI3
    obtain ⟨m0, m1, m2, m3, m4, m5⟩ := six_at hn3.1
    have HP2 := Lib.hid (HPT.out _ _ c3 hn3.2)
    have hb := bj hcut hb3
    clear hn3 hI3 hcut hb3
    go_wp2_with fail
    refine (HP2.out).mono ?_
    rintro e w4 ⟨rfl, hb4⟩
    go_wp2
    go_ret
    exact ⟨rfl, bja _ hb hb4⟩
set_option maxRecDepth 100000 in
set_option maxHeartbeats 8000000 in
theorem shipBack_good (k e' K' p : Nat) (full : Bool) (A : Option Addr) (l : List (Int × ByteArray)) (n c : Nat) (s : ByteArray) (w : World) (hI : Imgs w w.heap.size A l) (hn : n = l.length) (hm : n ≤ maxLen) (hs : IsShip (bstr (shipL k e' K' full p l)) k e' K' full p l) (h256 : n ≤ 256) (hp : ∀ W, Sb w k e' K' p full A n c W → Calls Try.prog 10 #[.agg #[.int .u8 k, .int .u64 e', .int .u64 K', .bool full, .int .i64 p, .slice A n c]] W fun e w' => e = .returned (.tuple #[.string (bstr (shipL k e' K' full p l)), .int .i64 0]) ∧ Below W.heap.size W w') (hg : grB l = false) (hs16 : (s.size : Int) ≤ 16384) :
    Calls Try.prog 6 #[.agg #[.int .u8 k, .int .u64 e', .int .u64 K', .bool full, .int .i64 p, .slice A n c], .string s] w fun e w' => e = .returned (.bool true) ∧ Below w.heap.size w w' := by
  have hG := fun W (h : Sb w k e' K' p full A n c W) => great_any k e' K' p full A l n c W (sb_imgs h hI) hn hm
  rw [hg] at hG
  have hTC := take_cases s (by omega)
  have hs0 := sb_new w k e' K' p full A n c
  have HG := Lib.hid hG
  have hsz := ship_size hs
  have htk := fun W => take_yes _ k e' K' full p l W (by omega) hs
  have HTC := Lib.hid hTC
  have HI := Lib.hid hI
  have HN := Lib.hid hn
  have HM := Lib.hid hm
  generalize bstr (shipL k e' K' full p l) = T at *
  have HTK := Lib.hid htk
  have HP := Lib.hid hp
  clear hG hp hTC hI hn hm hg hs h256 hsz htk
  go_enter Try.func6, Try.ntmps6
  go_wp2_with fail
  refine (works_any _).mono ?_
  rintro e w1 ⟨rfl, hb1⟩
  have hs1 := sb_step hb1 hs0
  obtain ⟨r0, r1, r2, r3, r4, r5⟩ := sbS hs1
  clear hb1 hs0
  go_wp2_with fail
  refine (HG.out _ hs1).mono ?_
  rintro e w2 ⟨rfl, hb2⟩
  have hs2 := sb_step hb2 hs1
  clear hb2 hs1 r0 r1 r2 r3 r4 r5
  obtain ⟨r0, r1, r2, r3, r4, r5⟩ := sbS hs2
  go_wp2_with fail
  refine (HP.out _ hs2).mono ?_
  rintro e w3 ⟨rfl, hb3⟩
  have hs3 := sb_step hb3 hs2
  clear hb3 hs2 r0 r1 r2 r3 r4 r5
  go_wp2_with fail
  refine (HTK.out _).mono ?_
  rintro e w4 ⟨A4, c4, rfl, hI4, hb4⟩
  have hs4 := sb_step ((Below.refl _ _).alloc (Nat.le_refl _) (.cells #[.int .u8 k, .int .u64 e', .int .u64 K', .bool full, .int .i64 p, .slice A4 l.length c4] 28)) (sb_step hb4 hs3)
  have hn4 := sn_new (k := k) (e := e') (K := K') (p := p) (full := full) (c := c4) hI4
  obtain ⟨r0, r1, r2, r3, r4, r5⟩ := sbS hs4
  obtain ⟨m0, m1, m2, m3, m4, m5⟩ := six_at hn4.1
  have hSame := refSame_any k e' K' p full A l n c k e' K' p full A4 l l.length c4 _ (sb_imgs hs4 HI.out) hn4.2 HN.out rfl HM.out
  have e1 : sameB k e' K' p full l k e' K' p full l = true := by unfold sameB; exact decide_eq_true ⟨rfl, rfl, rfl, rfl, rfl, rfl⟩
  rw [e1] at hSame
  have HS := Lib.hid hSame
  have HS4 := Lib.hid hs4
  clear hSame e1 hs4 hn4 hI4 hb4 hs3
  go_wp2_with fail
  refine (HS.out).mono ?_
  rintro e w5 ⟨rfl, hb5⟩
  have hs5 := sb_step hb5 HS4.out
  clear r0 r1 r2 r3 r4 r5 m0 m1 m2 m3 m4 m5 hb5
  have hcut := hs5.2
  clear hs5
  rcases HTC.out with ⟨y, hy, _, ht⟩ | ⟨k2, e2, K2, p2, f', l', hs⟩
  · go_wp2_with fail
    refine (ht _).mono ?_
    rintro e w3 ⟨rfl, hb3⟩
    have hSame := refSame_any 0 0 0 0 false none [] 0 0 0 0 0 0 false none [] 0 0 (w3.alloc (.cells #[.int .u8 0, .int .u64 0, .int .u64 0, .bool false, .int .i64 0, .slice none 0 0] 28)) (.inl rfl) (.inl rfl) rfl rfl (by unfold maxLen; omega)
    have e1 : sameB 0 0 0 0 false [] 0 0 0 0 false [] = true := by unfold sameB; exact decide_eq_true ⟨rfl, rfl, rfl, rfl, rfl, rfl⟩
    rw [e1] at hSame
    have HS := Lib.hid hSame
    have hb := bj hcut hb3
    clear hSame e1 ht hcut hb3
    go_wp2_with fail
    refine (HS.out).mono ?_
    rintro e w4 ⟨rfl, hb4⟩
    go_wp2
    go_ret
    exact ⟨rfl, bja _ hb hb4⟩
  · have hty := fun W => take_yes s k2 e2 K2 f' p2 l' W (by omega) hs
    have hput := fun (W : World) (A : Option Addr) (c : Nat) (hI : Imgs W W.heap.size A l') => put_yes k2 e2 K2 p2 f' A l' l'.length c W hI rfl hs.hep hs.hK hs.ok
    have hT : bstr (shipL k2 e2 K2 f' p2 l') = s := by rw [← hs.text, bstr_bts]
    rw [hT] at hput
    have HTY := Lib.hid hty
    have HPT := Lib.hid hput
    clear hty hput hT hs
    go_wp2_with fail
    refine (HTY.out _).mono ?_
    rintro e w3 ⟨A3, c3, rfl, hI3, hb3⟩
    have hn3 := sn_new (k := k2) (e := e2) (K := K2) (p := p2) (full := f') (c := c3) hI3
    obtain ⟨m0, m1, m2, m3, m4, m5⟩ := six_at hn3.1
    have HP2 := Lib.hid (HPT.out _ _ c3 hn3.2)
    have hb := bj hcut hb3
    clear hn3 hI3 hcut hb3
    go_wp2_with fail
    refine (HP2.out).mono ?_
    rintro e w4 ⟨rfl, hb4⟩
    go_wp2
    go_ret
    exact ⟨rfl, bja _ hb hb4⟩
theorem shipBack_walk (a0 b0 c0 : Int) (d0 : Bool) (e0 : Int) (A0 : Option Addr) (l0 : List (Int × ByteArray)) (n0 k0 : Nat) (a1 : ByteArray) (_wa0 : (Lit.int .u8 a0).wf = true) (wb0 : (Lit.int .u64 b0).wf = true) (wc0 : (Lit.int .u64 c0).wf = true) (_we0 : (Lit.int .i64 e0).wf = true) (hn0 : n0 = l0.length) (hm0 : n0 ≤ maxLen) (_hx0 : ∀ x ∈ l0, (Lit.int .i64 x.1).wf = true) (_w1 : a1.size ≤ 140737488351232) (w : World) (I0 : Imgs w w.heap.size A0 l0) :
    Calls Try.prog 6 #[.agg #[.int .u8 a0, .int .u64 b0, .int .u64 c0, .bool d0, .int .i64 e0, .slice A0 n0 k0], .string a1] w fun e w' => e = .returned (.bool true) ∧ Below w.heap.size w w' := by
  have hG := fun W (h : Sb w a0 b0 c0 e0 d0 A0 n0 k0 W) => great_any a0 b0 c0 e0 d0 A0 l0 n0 k0 W (sb_imgs h I0) hn0 hm0
  cases hg : grB l0 with
  | true => exact shipBack_great a0 b0 c0 e0 d0 A0 n0 k0 a1 _ w (Lib.hid hG) (.inl hg)
  | false =>
    by_cases h : (16384 : Int) < a1.size
    · exact shipBack_great a0 b0 c0 e0 d0 A0 n0 k0 a1 _ w (Lib.hid hG) (.inr ⟨hg, h⟩)
    · rcases put_cases a0 b0 c0 e0 d0 A0 l0 n0 k0 w I0 hn0 hm0 (u64_lt wb0) (u64_lt wc0) with ⟨_, hp⟩ | ⟨k, e', K', p, rfl, rfl, rfl, rfl, hs, h256, hp⟩
      · exact shipBack_bad a0 b0 c0 e0 d0 A0 l0 n0 k0 a1 w I0 hn0 hm0 hp hg (by omega)
      · exact shipBack_good k e' K' p d0 A0 l0 n0 k0 a1 w I0 hn0 hm0 hs h256 hp hg (by omega)
end Go.Proofs.Ytkocdaillkhkfaa
