/- The walk of NumberKnown: the document's examples. No condition. -/
import Derived.Test.YtgpghghoagocjaaProg
import Derived.Test.YtgpghghoagocjaaNumFix
import Derived.Test.YtgpghghoagocjaaNumFold
import Derived.Test.YtgpghghoagocjaaLawIs
namespace Go.Proofs.Ytgpghghoagocjaa
open Go.RowKit
theorem four_int (z : Int) (w : World) (h0 : 0 ≤ z) (h : z < 4294967296) :
    Calls Try.prog 20 #[.int .u32 z] w fun e w' => e = .returned (.string (bstr (fourL z.toNat))) ∧ Below w.heap.size w w' := four_any z w h0 h
theorem unfold_int' (z : Int) (w : World) (h0 : 0 ≤ z) (h : z < 18446744073709551616) :
    Calls Try.prog 17 #[.int .u64 z] w fun e w' => e = .returned (.int .i64 (unfoldZ z)) ∧ w = w' := by
  obtain ⟨n, rfl⟩ := Int.eq_ofNat_of_zero_le h0
  exact unfold_any n w (by omega)
theorem take_at (s : ByteArray) (n k e : Nat) (w : World) (hs : s.size ≤ 1000) (h : takeS (bts s) = (n, k, e)) :
    Calls Try.prog 15 #[.string s] w fun r w' => r = .returned (.tuple #[.int .u64 n, .int .i64 k, .int .i64 e]) ∧ Below w.heap.size w w' :=
  (take_any s w (by unfold maxLen; omega)).mono fun _ _ hT => by
    unfold Took at hT
    rw [h] at hT
    exact hT
set_option maxRecDepth 100000 in
set_option maxHeartbeats 8000000 in
theorem numberKnown_walk (w : World) :
    Calls Try.prog 3 #[] w fun e w' => e = .returned (.bool true) ∧ Below w.heap.size w w' := by
  have t0 : (bstr (putL 0)).toList = [0] := by rw [ByteArray.toList_eq]; rfl
  have t1 : (bstr (putL 127)).toList = [127] := by rw [ByteArray.toList_eq]; rfl
  have t2 : (bstr (putL 128)).toList = [129, 0] := by rw [ByteArray.toList_eq]; rfl
  have t3 : (bstr (putL 16384)).toList = [129, 128, 0] := by rw [ByteArray.toList_eq]; rfl
  have t4 : (bstr (putL 18446744073709551615)).toList = [255, 255, 255, 255, 255, 255, 255, 255, 255] := by rw [ByteArray.toList_eq]; rfl
  have t5 : (bstr (fourL 258)).toList = [0, 0, 1, 2] := by rw [ByteArray.toList_eq]; rfl
  go_enter Try.func3, Try.ntmps3
  have hb : Below w.heap.size w w := Below.refl _ _
  go_wp2_with fail
  refine (put_int _ _ (by omega) (by omega)).mono ?_
  rintro e w1 ⟨rfl, hbk⟩
  replace hb := hb.trans (hbk.mono hb.size)
  go_wp2_with fail
  refine (put_int _ _ (by omega) (by omega)).mono ?_
  rintro e w1 ⟨rfl, hbk⟩
  replace hb := hb.trans (hbk.mono hb.size)
  go_wp2_with fail
  refine (put_int _ _ (by omega) (by omega)).mono ?_
  rintro e w1 ⟨rfl, hbk⟩
  replace hb := hb.trans (hbk.mono hb.size)
  go_wp2_with fail
  refine (put_int _ _ (by omega) (by omega)).mono ?_
  rintro e w1 ⟨rfl, hbk⟩
  replace hb := hb.trans (hbk.mono hb.size)
  go_wp2_with fail
  refine (put_int _ _ (by omega) (by omega)).mono ?_
  rintro e w1 ⟨rfl, hbk⟩
  replace hb := hb.trans (hbk.mono hb.size)
  go_wp2_with fail
  refine (size_int _ _ (by omega) (by omega)).mono ?_
  rintro e w1 ⟨rfl, rfl⟩
  go_wp2_with fail
  refine (size_int _ _ (by omega) (by omega)).mono ?_
  rintro e w1 ⟨rfl, rfl⟩
  go_wp2_with fail
  refine (is_any _ _ _ _).mono ?_
  rintro e w1 ⟨a, b, c, rfl, hH, hbk⟩
  replace hb := hb.trans (hbk.mono hb.size)
  go_wp2_with fail
  refine (take_at _ 128 2 0 _ (by decide) (by rfl)).mono ?_
  rintro e w2 ⟨rfl, hbk⟩
  have hH2 := hH.below hbk
  replace hb := hb.trans (hbk.mono hb.size)
  go_wp2_with fail
  refine (isf_yes _ _ _ _ _ _ _ hH2).mono ?_
  rintro e w3 ⟨rfl, rfl⟩
  clear hH hH2
  go_wp2_with fail
  refine (is_any _ _ _ _).mono ?_
  rintro e w1 ⟨a, b, c, rfl, hH, hbk⟩
  replace hb := hb.trans (hbk.mono hb.size)
  go_wp2_with fail
  refine (take_at _ 0 0 10 _ (by decide) (by rfl)).mono ?_
  rintro e w2 ⟨rfl, hbk⟩
  have hH2 := hH.below hbk
  replace hb := hb.trans (hbk.mono hb.size)
  go_wp2_with fail
  refine (isf_yes _ _ _ _ _ _ _ hH2).mono ?_
  rintro e w3 ⟨rfl, rfl⟩
  clear hH hH2
  go_wp2_with fail
  refine (is_any _ _ _ _).mono ?_
  rintro e w1 ⟨a, b, c, rfl, hH, hbk⟩
  replace hb := hb.trans (hbk.mono hb.size)
  go_wp2_with fail
  refine (take_at _ 0 0 10 _ (by decide) (by rfl)).mono ?_
  rintro e w2 ⟨rfl, hbk⟩
  have hH2 := hH.below hbk
  replace hb := hb.trans (hbk.mono hb.size)
  go_wp2_with fail
  refine (isf_yes _ _ _ _ _ _ _ hH2).mono ?_
  rintro e w3 ⟨rfl, rfl⟩
  clear hH hH2
  go_wp2_with fail
  refine (is_any _ _ _ _).mono ?_
  rintro e w1 ⟨a, b, c, rfl, hH, hbk⟩
  replace hb := hb.trans (hbk.mono hb.size)
  go_wp2_with fail
  refine (take_at _ 0 0 11 _ (by decide) (by rfl)).mono ?_
  rintro e w2 ⟨rfl, hbk⟩
  have hH2 := hH.below hbk
  replace hb := hb.trans (hbk.mono hb.size)
  go_wp2_with fail
  refine (isf_yes _ _ _ _ _ _ _ hH2).mono ?_
  rintro e w3 ⟨rfl, rfl⟩
  clear hH hH2
  go_wp2_with fail
  refine (is_any _ _ _ _).mono ?_
  rintro e w1 ⟨a, b, c, rfl, hH, hbk⟩
  replace hb := hb.trans (hbk.mono hb.size)
  go_wp2_with fail
  refine (take_at _ 0 0 11 _ (by decide) (by rfl)).mono ?_
  rintro e w2 ⟨rfl, hbk⟩
  have hH2 := hH.below hbk
  replace hb := hb.trans (hbk.mono hb.size)
  go_wp2_with fail
  refine (isf_yes _ _ _ _ _ _ _ hH2).mono ?_
  rintro e w3 ⟨rfl, rfl⟩
  clear hH hH2
  go_wp2_with fail
  refine (fold_any _ _ (by omega) (by omega)).mono ?_
  rintro e w1 ⟨rfl, rfl⟩
  go_wp2_with fail
  refine (fold_any _ _ (by omega) (by omega)).mono ?_
  rintro e w1 ⟨rfl, rfl⟩
  go_wp2_with fail
  refine (fold_any _ _ (by omega) (by omega)).mono ?_
  rintro e w1 ⟨rfl, rfl⟩
  go_wp2_with fail
  refine (unfold_int' _ _ (by omega) (by omega)).mono ?_
  rintro e w1 ⟨rfl, rfl⟩
  go_wp2_with fail
  refine (takeFour_any _ _ (by decide)).mono ?_
  rintro e w1 ⟨rfl, rfl⟩
  go_wp2_with fail
  refine (takeEight_any _ _ (by decide)).mono ?_
  rintro e w1 ⟨rfl, rfl⟩
  go_wp2_with fail
  refine (four_int _ _ (by omega) (by omega)).mono ?_
  rintro e w1 ⟨rfl, hbk⟩
  replace hb := hb.trans (hbk.mono hb.size)
  go_wp2
  go_ret
  exact ⟨rfl, hb⟩
end Go.Proofs.Ytgpghghoagocjaa
