/- The walk of ShipTakes. Conditions: a text is no longer than a machine has addresses. -/
import Derived.Test.YtkocdaillkhkfaaShipRefTake3
import Derived.Test.YtkocdaillkhkfaaLawShipBack
namespace Go.Proofs.Ytkocdaillkhkfaa
open Go.RowKit
set_option linter.unusedVariables false
theorem ref_sum_calls (s : ByteArray) (h : 8 ≤ s.size) (hz : s.size ≤ 1000000) : ∃ (Q1 Q2 : Int) (Y : ByteArray),
    (∀ w, Calls Try.prog 34 #[.agg #[.int .u32 0, .int .u32 0], .string (s.extract 8 s.size)] w fun e w' => e = .returned (.agg #[.int .u32 Q1, .int .u32 Q2]) ∧ Below w.heap.size w w') ∧
    (∀ w, Calls Try.prog 33 #[.agg #[.int .u32 Q1, .int .u32 Q2]] w fun e w' => e = .returned (.string Y) ∧ Below w.heap.size w w') ∧ (sumOk s ↔ s.extract 0 8 = Y) := by
  have h1 := fun w => refAdd_any 0 0 (s.extract 8 s.size) w fit0 (by rw [ByteArray.size_extract]; omega)
  rw [bts_cutr] at h1
  have h2 := fun w => refText_any (addL ((bts s).drop 8) (0, 0)).1 (addL ((bts s).drop 8) (0, 0)).2 w (fit_addL fit0)
  refine ⟨_, _, _, h1, h2, ?_⟩
  unfold sumOk sumT
  constructor
  · intro e
    refine bts_inj ?_
    rw [bts_text, bts_cut0, e]
  · intro e
    rw [← bts_cut0, e, bts_text]
theorem refTake_cases (s : ByteArray) (hz : s.size ≤ 1000000) :
    (∃ y : Int, (∀ W, Calls Try.prog 12 #[.string s] W fun e w' => e = .returned (.tuple #[.agg #[.int .u8 0, .int .u64 0, .int .u64 0, .bool false, .int .i64 0, .slice none 0 0], .int .i64 y]) ∧ Below W.heap.size W w') ∧
      (∀ W, Calls Try.prog 18 #[.string s] W fun e w' => e = .returned (.tuple #[.agg #[.int .u8 0, .int .u64 0, .int .u64 0, .bool false, .int .i64 0, .slice none 0 0], .int .i64 y]) ∧ Below W.heap.size W w')) ∨
    (∃ (k ep K p : Nat) (full : Bool) (l : List (Int × ByteArray)), IsShip s k ep K full p l ∧
      (∀ W, Calls Try.prog 18 #[.string s] W fun e w' => ∃ A c, e = .returned (.tuple #[.agg #[.int .u8 k, .int .u64 ep, .int .u64 K, .bool full, .int .i64 p, .slice A l.length c], .int .i64 0]) ∧ Imgs w' w'.heap.size A l ∧ Below W.heap.size W w')) := by
  by_cases h1 : s.size < 56 ∨ s.size % 8 ≠ 0
  · exact .inl ⟨7, fun W => take_short s W (by omega) h1, fun W => refTake_short s W hz (by omega)⟩
  · obtain ⟨Q1, Q2, Y, g1, g2, g3⟩ := ref_sum_calls s (by omega) hz
    by_cases h2 : sumOk s
    · have hm := fun W => refTake_main s Q1 Q2 Y W hz (by omega) (mod8 (by omega)) g1 g2 (by rw [g3.1 h2]; simp)
      cases h3 : tkB s with
      | false =>
        refine .inl ⟨7, fun W => take_bad s W (by omega) (by omega) (by omega) h2 h3, fun W => (hm W).mono fun e w' he => ⟨he.2.1 ?_, he.1⟩⟩
        rintro ⟨k, ep, K, p, full, l, h⟩
        have := (ship_tk h).1
        rw [h3] at this
        cases this
      | true =>
        refine .inr ⟨_, _, _, _, _, _, tk_ship (by omega) h2 h3, fun W => (hm W).mono fun e w' he => ?_⟩
        obtain ⟨A, c, q1, q2⟩ := he.2.2 _ _ _ _ _ _ (tk_ship (by omega) h2 h3)
        exact ⟨A, c, q1, q2, he.1⟩
    · exact .inl ⟨40, fun W => take_sum s W (by omega) (by omega) (by omega) h2, fun W => refTake_sum s Q1 Q2 Y W hz (by omega) (mod8 (by omega)) g1 g2 (toList_ne (fun e => h2 (g3.2 e.symm)))⟩
set_option maxRecDepth 100000 in
set_option maxHeartbeats 8000000 in
theorem shipTakes_walk (a0 : ByteArray) (w0 : a0.size ≤ 140737488351232) (w : World) :
    Calls Try.prog 5 #[.string a0] w fun e w' => e = .returned (.bool true) ∧ Below w.heap.size w w' := by
  by_cases hl : (16384 : Int) < a0.size
  · go_enter Try.func5, Try.ntmps5
    go_wp2_with fail
    refine (works_any _).mono ?_
    rintro e w1 ⟨rfl, hb1⟩
    go_wp2
    go_ret
    exact ⟨rfl, hb1⟩
  · have hl' : (a0.size : Int) ≤ 16384 := by omega
    rcases refTake_cases a0 (by omega) with ⟨y, ht, hr⟩ | ⟨k, e', K', p, f', l', hs, hr⟩
    · have HT := Lib.hid ht
      have HR := Lib.hid hr
      clear ht hr hl
      go_enter Try.func5, Try.ntmps5
      go_wp2_with fail
      refine (works_any _).mono ?_
      rintro e w1 ⟨rfl, hb1⟩
      go_wp2_with fail
      refine (HT.out _).mono ?_
      rintro e w2 ⟨rfl, hb2⟩
      have hb12 := bj hb1 hb2
      clear hb1 hb2
      go_wp2_with fail
      refine (HR.out _).mono ?_
      rintro e w3 ⟨rfl, hb3⟩
      have k1 := blk_at hb3
      have k1' := k1.alloc (.cells #[.int .u8 0, .int .u64 0, .int .u64 0, .bool false, .int .i64 0, .slice none 0 0] 28)
      obtain ⟨m0, m1, m2, m3, m4, m5⟩ := six_at k1'
      have hSame := refSame_any 0 0 0 0 false none [] 0 0 0 0 0 0 false none [] 0 0 (w3.alloc (.cells #[.int .u8 0, .int .u64 0, .int .u64 0, .bool false, .int .i64 0, .slice none 0 0] 28)) (.inl rfl) (.inl rfl) rfl rfl (by unfold maxLen; omega)
      have e1 : sameB 0 0 0 0 false [] 0 0 0 0 false [] = true := by unfold sameB; exact decide_eq_true ⟨rfl, rfl, rfl, rfl, rfl, rfl⟩
      rw [e1] at hSame
      have HS := Lib.hid hSame
      have hb := bja _ hb12 hb3
      clear hSame e1 k1 k1' hb3 hb12
      go_wp2_with fail
      refine (HS.out).mono ?_
      rintro e w4 ⟨rfl, hb4⟩
      go_wp2
      go_ret
      exact ⟨rfl, bja _ hb hb4⟩
    · have hty := fun W => take_yes a0 k e' K' f' p l' W w0 hs
      have HT := Lib.hid hty
      have HR := Lib.hid hr
      have hlen := hs.hlen
      clear hty hr hl hs
      go_enter Try.func5, Try.ntmps5
      go_wp2_with fail
      refine (works_any _).mono ?_
      rintro e w1 ⟨rfl, hb1⟩
      go_wp2_with fail
      refine (HT.out _).mono ?_
      rintro e w2 ⟨A2, c2, rfl, hI2, hb2⟩
      have hb12 := bj hb1 hb2
      have hn2 := sn_new (k := k) (e := e') (K := K') (p := p) (full := f') (c := c2) hI2
      have HN2 := Lib.hid hn2
      clear hb1 hb2 hI2 hn2
      go_wp2_with fail
      refine (HR.out _).mono ?_
      rintro e w3 ⟨A3, c3, rfl, hI3, hb3⟩
      have hbx : Below w3.heap.size w3 (w3.alloc (.cells #[.int .u8 k, .int .u64 e', .int .u64 K', .bool f', .int .i64 p, .slice A3 l'.length c3] 28)) := (Below.refl _ _).alloc (Nat.le_refl _) _
      have k2 := blk_step (blk_step HN2.out.1 hb3) hbx
      have i2 : Imgs (w3.alloc (.cells #[.int .u8 k, .int .u64 e', .int .u64 K', .bool f', .int .i64 p, .slice A3 l'.length c3] 28)) (w3.alloc (.cells #[.int .u8 k, .int .u64 e', .int .u64 K', .bool f', .int .i64 p, .slice A3 l'.length c3] 28)).heap.size A2 l' := imgs_mono (imgs_below (imgs_mono (imgs_below HN2.out.2 hb3) hb3.size) hbx) hbx.size
      have i3 := (sn_new (k := k) (e := e') (K := K') (p := p) (full := f') (c := c3) hI3).2
      obtain ⟨m0, m1, m2, m3, m4, m5⟩ := six_at k2
      have hSame := refSame_any k e' K' p f' A2 l' l'.length c2 k e' K' p f' A3 l' l'.length c3 _ i2 i3 rfl rfl (by unfold maxLen; omega)
      have e1 : sameB k e' K' p f' l' k e' K' p f' l' = true := by unfold sameB; exact decide_eq_true ⟨rfl, rfl, rfl, rfl, rfl, rfl⟩
      rw [e1] at hSame
      have HS := Lib.hid hSame
      have hb := bja _ hb12 hb3
      clear hSame e1 k2 i2 i3 hb3 hb12 hI3 hbx
      go_wp2_with fail
      refine (HS.out).mono ?_
      rintro e w4 ⟨rfl, hb4⟩
      go_wp2
      go_ret
      exact ⟨rfl, bja _ hb hb4⟩
end Go.Proofs.Ytkocdaillkhkfaa
