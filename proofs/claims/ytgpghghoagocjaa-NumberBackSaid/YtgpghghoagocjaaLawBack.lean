/- The walk of NumberBack. Conditions: the number fits its kind, the text is no longer than a machine has addresses. -/
import Derived.Test.YtgpghghoagocjaaProg
import Derived.Test.YtgpghghoagocjaaNumFix
import Derived.Test.YtgpghghoagocjaaNumTaken
import Derived.Test.YtgpghghoagocjaaLawIs
import Derived.Deep.RegionWith
import Derived.OpenShut
namespace Go.Proofs.Ytgpghghoagocjaa
open Go.RowKit
theorem bts_append (a b : ByteArray) : bts (a ++ b) = bts a ++ bts b := by simp [bts]
theorem bts_cut (s : ByteArray) (k : Nat) : bts (s.extract 0 k) = (bts s).take k := by
  unfold bts
  rw [← List.map_take]
  simp [ByteArray.data_extract]
theorem take_is (n k e : Nat) (s : ByteArray) (w : World) (hs : s.size ≤ 140737488355328) (h : takeS (bts s) = (n, k, e)) :
    Calls Try.prog 15 #[.string s] w fun r w' => r = .returned (.tuple #[.int .u64 n, .int .i64 k, .int .i64 e]) ∧ Below w.heap.size w w' :=
  (take_any s w (by unfold maxLen; omega)).mono fun _ _ hT => by
    unfold Took at hT
    rw [h] at hT
    exact hT
theorem take_put_is (n : Nat) (s : ByteArray) (w : World) (hs : s.size ≤ 140737488355327 - 9) (hn : n < 18446744073709551616) :
    Calls Try.prog 15 #[.string (bstr (putL n) ++ s)] w fun r w' => r = .returned (.tuple #[.int .u64 n, .int .i64 (sz n), .int .i64 0]) ∧ Below w.heap.size w w' :=
  take_is n (sz n) 0 _ w (by rw [ByteArray.size_append, bstr_size, putL_length]; have := sz_le n; omega) (by
    rw [bts_append, bts_bstr _ (putL_lt n)]
    exact takeS_ok (put_taken n _ hn) rfl)
theorem take_short_is (n i : Nat) (w : World) (hi : i < sz n) :
    Calls Try.prog 15 #[.string ((bstr (putL n)).extract 0 i)] w fun r w' => r = .returned (.tuple #[.int .u64 0, .int .i64 0, .int .i64 10]) ∧ Below w.heap.size w w' :=
  take_is 0 0 10 _ w (by have := sz_le n; simp [bstr_size, putL_length]; omega) (by
    rw [bts_cut, bts_bstr _ (putL_lt n)]
    exact takeS_none (put_short n i hi))
set_option maxRecDepth 100000 in
set_option maxHeartbeats 6000000 in
theorem numberBack_nat (n : Nat) (s : ByteArray) (w : World) (hs : s.size ≤ 140737488351232) (hn : n < 18446744073709551616) :
    Calls Try.prog 8 #[.int .u64 n, .string s] w fun e w' => e = .returned (.bool true) ∧ Below w.heap.size w w' := by
  have hl : (bstr (putL n)).size = sz n := by rw [bstr_size, putL_length]
  obtain ⟨h1, h9⟩ := sz_le n
  have hne : ((sz n : Int) != (sz n : Int)) = false := by simp
  go_enter Try.func8, Try.ntmps8
  go_wp2_with fail
  refine (put_any _ _ hn).mono ?_
  rintro e w1 ⟨rfl, hb1⟩
  go_wp2_with fail
  refine (is_any _ _ _ _).mono ?_
  rintro r w2 ⟨a, b, c, rfl, hH, hb2⟩
  go_wp2_with fail
  refine (take_put_is n s _ (by omega) hn).mono ?_
  rintro r w3 ⟨rfl, hb3⟩
  go_wp2_with fail
  refine (isf_yes _ _ _ _ _ _ _ (hH.below hb3)).mono ?_
  rintro r w4 ⟨rfl, rfl⟩
  go_wp2_with fail
  refine (size_any _ _ hn).mono ?_
  rintro r w4 ⟨rfl, rfl⟩
  have hbb : Below w.heap.size w w3 := hb1.trans ((hb2.mono hb1.size).trans (hb3.mono (by have := hb1.size; have := hb2.size; omega)))
  clear hb1 hb2 hb3 hH
  go_wp2_with fail
  go_loopw [41] (fun i wr => ∃ j : Nat, j ≤ sz n ∧ i = .int .i64 j ∧ Below w.heap.size w wr) (fun i _ => sz n - (intOf i).toNat)
  case atStart => exact ⟨0, by omega, rfl, hbb⟩
  case round =>
    obtain ⟨j, hj, rfl, hb⟩ := hrel
    by_cases hlt : j < sz n
    · have hs1 : ((j : Int) ≤ (sz n : Int)) := by omega
      go_wp2_with fail
      go_region_with (first | (go_at_call 14; refine (is_any _ _ _ _).mono ?_; rintro r w2 ⟨a, b, c, rfl, hH, hb2⟩) | (go_at_call 15; refine (take_short_is n j _ hlt).mono ?_; rintro r w3 ⟨rfl, hb3⟩) | (go_at_call 28; refine (isf_yes _ _ _ _ _ _ _ (by first | assumption | exact Holds3.below (by assumption) (by assumption))).mono ?_; rintro r w4 ⟨rfl, rfl⟩))
      go_wp2
      have hB2 : Below wr.heap.size wr w2 := ((Below.refl _ wr).drew).trans hb2
      exact ⟨⟨j + 1, by omega, by go_num, hb.trans ((hB2.mono hb.size).trans (hb3.mono (Nat.le_trans hb.size hB2.size)))⟩, by simp [intOf]; omega⟩
    · obtain rfl : j = sz n := by omega
      go_wp2
      go_ret
      exact ⟨rfl, hb⟩
theorem numberBack_walk (a0 : Int) (s : ByteArray) (w0 : (Lit.int .u64 a0).wf = true) (hs : s.size ≤ 140737488351232) (w : World) :
    Calls Try.prog 8 #[.int .u64 a0, .string s] w fun e w' => e = .returned (.bool true) ∧ Below w.heap.size w w' := by
  have h0 := bounds_u64 w0
  obtain ⟨n0, rfl⟩ := Int.eq_ofNat_of_zero_le h0.1
  exact numberBack_nat n0 s w hs (by omega)
end Go.Proofs.Ytgpghghoagocjaa
