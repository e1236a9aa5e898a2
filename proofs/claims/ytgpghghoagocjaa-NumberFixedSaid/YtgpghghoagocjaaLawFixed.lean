/- The walks of NumberFixed and NumberRising. Conditions: the numbers fit their kinds, the text is no longer than a machine has addresses. -/
import Derived.Test.YtgpghghoagocjaaProg
import Derived.Test.YtgpghghoagocjaaNumFix
import Derived.Test.YtgpghghoagocjaaRefFixed
import Derived.Test.YtgpghghoagocjaaRefValue
import Derived.OpenShut
namespace Go.Proofs.Ytgpghghoagocjaa
open Go.RowKit
theorem fixL_four (a : Nat) : fixL 4 a = fourL a := by simp [fixL, fourL]
theorem fixL_eight (b : Nat) : fixL 8 b = eightL b := by
  simp [fixL, eightL, fourL]
  refine ⟨?_, ?_, ?_, ?_, ?_, ?_⟩ <;> omega
theorem refFixed_int (z : Int) (many : Nat) (w : World) (h0 : 0 ≤ z) (hn : z < 18446744073709551616) (h1 : 1 ≤ many) (h8 : many ≤ 8) :
    Calls Try.prog 25 #[.int .u64 z, .int .i64 many] w fun e w' => e = .returned (.string (bstr (fixL many z.toNat))) ∧ Below w.heap.size w w' := by
  obtain ⟨n, rfl⟩ := Int.eq_ofNat_of_zero_le h0
  exact refFixed_any n many w (by omega) h1 h8
theorem bts_cut (s : ByteArray) (k : Nat) : bts (s.extract 0 k) = (bts s).take k := by
  unfold bts
  rw [← List.map_take]
  simp [ByteArray.data_extract]
set_option maxRecDepth 100000 in
set_option maxHeartbeats 1000000 in
theorem numberFixed_nat (a b : Nat) (s : ByteArray) (w : World) (ha : a < 4294967296) (hb : b < 18446744073709551616) (hs : s.size ≤ maxLen) :
    Calls Try.prog 7 #[.int .u32 a, .int .u64 b, .string s] w fun e w' => e = .returned (.bool true) ∧ Below w.heap.size w w' := by
  have hs2 := hs
  unfold maxLen at hs2
  have h32 := fixedS_lt s 4
  have h64 := fixedS_lt s 8
  go_enter Try.func7, Try.ntmps7
  go_wp2_with fail
  refine (works_any _).mono ?_
  rintro e w1 ⟨rfl, hb1⟩
  go_wp2_with fail
  refine (four_any _ _ (by omega) (by omega)).mono ?_
  rintro e w2 ⟨rfl, hb2⟩
  go_wp2_with fail
  refine (refFixed_int _ 4 _ (by omega) (by omega) (by omega) (by omega)).mono ?_
  rintro e w3 ⟨rfl, hb3⟩
  rw [fixL_four]
  go_wp2_with fail
  refine (eight_int _ _ (by omega) (by omega)).mono ?_
  rintro e w4 ⟨rfl, hb4⟩
  go_wp2_with fail
  refine (refFixed_int _ 8 _ (by omega) (by omega) (by omega) (by omega)).mono ?_
  rintro e w5 ⟨rfl, hb5⟩
  rw [fixL_eight]
  go_wp2_with fail
  refine (takeFour_any s _ hs).mono ?_
  rintro e w6 ⟨rfl, rfl⟩
  go_wp2_with fail
  refine (takeEight_any s _ hs).mono ?_
  rintro e w6 ⟨rfl, rfl⟩
  have hbb : Below w.heap.size w w5 := hb1.trans ((hb2.mono hb1.size).trans ((hb3.mono (by have := hb1.size; have := hb2.size; omega)).trans ((hb4.mono (by have := hb1.size; have := hb2.size; have := hb3.size; omega)).trans (hb5.mono (by have := hb1.size; have := hb2.size; have := hb3.size; have := hb4.size; omega)))))
  clear hb1 hb2 hb3 hb4 hb5
  by_cases h4 : s.size < 4
  · have e4 : fixedS (bts s) 4 = (0, 10) := by unfold fixedS; rw [if_pos (by rw [bts_length]; exact h4)]
    have e8 : fixedS (bts s) 8 = (0, 10) := by unfold fixedS; rw [if_pos (by rw [bts_length]; omega)]
    rw [e4, e8]
    clear e4 e8 h32 h64
    go_wp2
    go_ret
    exact ⟨rfl, hbb⟩
  · have e4 : fixedS (bts s) 4 = (val 0 ((bts s).take 4), 0) := by unfold fixedS; rw [if_neg (by rw [bts_length]; exact h4)]
    rw [e4] at h32 ⊢
    have hx := bts_cut s 4
    have hz : (s.extract 0 4).size = 4 := by simp; omega
    by_cases h8 : s.size < 8
    · have e8 : fixedS (bts s) 8 = (0, 10) := by unfold fixedS; rw [if_pos (by rw [bts_length]; omega)]
      rw [e8]
      clear e4 e8 h64
      generalize (bts s).take 4 = L4 at *
      have HX := Lib.hid hx
      have HZ := Lib.hid hz
      clear hx hz
      have h32' : val 0 L4 < 4294967296 := h32
      clear h32
      go_wp2_with fail
      refine (refValue_any _ _ (by rw [HZ.out]; omega)).mono ?_
      rintro e w6 ⟨rfl, rfl⟩
      rw [HX.out]
      go_wp2
      go_ret
      exact ⟨rfl, hbb⟩
    · have e8 : fixedS (bts s) 8 = (val 0 ((bts s).take 8), 0) := by unfold fixedS; rw [if_neg (by rw [bts_length]; exact h8)]
      rw [e8] at h64 ⊢
      have hx8 := bts_cut s 8
      have hz8 : (s.extract 0 8).size = 8 := by simp; omega
      clear e4 e8
      generalize (bts s).take 4 = L4 at *
      generalize (bts s).take 8 = L8 at *
      have HX := Lib.hid hx
      have HZ := Lib.hid hz
      have HX8 := Lib.hid hx8
      have HZ8 := Lib.hid hz8
      clear hx hz hx8 hz8
      have h32' : val 0 L4 < 4294967296 := h32
      have h64' : val 0 L8 < 18446744073709551616 := h64
      clear h32 h64
      go_wp2_with fail
      refine (refValue_any _ _ (by rw [HZ.out]; omega)).mono ?_
      rintro e w6 ⟨rfl, rfl⟩
      rw [HX.out]
      go_wp2_with fail
      refine (refValue_any _ _ (by rw [HZ8.out]; omega)).mono ?_
      rintro e w6 ⟨rfl, rfl⟩
      rw [HX8.out]
      go_wp2
      go_ret
      exact ⟨rfl, hbb⟩
theorem numberFixed_walk (a0 : Int) (a1 : Int) (s : ByteArray) (w0 : (Lit.int .u32 a0).wf = true) (w1 : (Lit.int .u64 a1).wf = true) (hsR : s.size ≤ 140737488351232) (w : World) :
    Calls Try.prog 7 #[.int .u32 a0, .int .u64 a1, .string s] w fun e w' => e = .returned (.bool true) ∧ Below w.heap.size w w' := by
  have h0 := bounds_u32 w0
  have h1 := bounds_u64 w1
  obtain ⟨n0, rfl⟩ := Int.eq_ofNat_of_zero_le h0.1
  obtain ⟨n1, rfl⟩ := Int.eq_ofNat_of_zero_le h1.1
  exact numberFixed_nat n0 n1 s w (by omega) (by omega) (by unfold maxLen; omega)
end Go.Proofs.Ytgpghghoagocjaa
