/- The walk of NumberFolds. Conditions: the numbers fit their kinds. -/
import Derived.Test.YtgpghghoagocjaaProg
import Derived.Test.YtgpghghoagocjaaNumFix
import Derived.Test.YtgpghghoagocjaaNumFold
import Derived.OpenShut
namespace Go.Proofs.Ytgpghghoagocjaa
open Go.RowKit
set_option maxRecDepth 100000 in
theorem refFold_any (i : Int) (w : World) (h0 : -9223372036854775808 ≤ i) (h1 : i ≤ 9223372036854775807) :
    Calls Try.prog 24 #[.int .i64 i] w fun e w' => e = .returned (.int .u64 (foldZ i)) ∧ w = w' := by
  by_cases h : 0 ≤ i
  · have HF := Lib.hid (show foldZ i = 2 * i by unfold foldZ; rw [if_pos h])
    go_enter Try.func24, Try.ntmps24
    go_wp2
    go_ret
    exact ⟨rint (by rw [HF.out]), rfl⟩
  · have HF := Lib.hid (show foldZ i = 2 * -(i + 1) + 1 by unfold foldZ; rw [if_neg h]; omega)
    go_enter Try.func24, Try.ntmps24
    go_wp2
    go_ret
    exact ⟨rint (by rw [HF.out]), rfl⟩
theorem fold_bd (i : Int) (h0 : -9223372036854775808 ≤ i) (h1 : i ≤ 9223372036854775807) : 0 ≤ foldZ i ∧ foldZ i < 18446744073709551616 := by unfold foldZ; split <;> omega
theorem unfold_bd (n : Nat) (h : n < 18446744073709551616) : -9223372036854775808 ≤ unfoldZ n ∧ unfoldZ n ≤ 9223372036854775807 := by unfold unfoldZ; split <;> omega
theorem unfold_fold (i : Int) : unfoldZ (foldZ i) = i := by unfold unfoldZ foldZ; split <;> split <;> omega
theorem fold_unfold (n : Nat) : foldZ (unfoldZ n) = n := by unfold unfoldZ foldZ; split <;> split <;> omega
theorem unfold_int (z : Int) (w : World) (h0 : 0 ≤ z) (h : z < 18446744073709551616) :
    Calls Try.prog 17 #[.int .u64 z] w fun e w' => e = .returned (.int .i64 (unfoldZ z)) ∧ w = w' := by
  obtain ⟨n, rfl⟩ := Int.eq_ofNat_of_zero_le h0
  exact unfold_any n w (by omega)
set_option maxRecDepth 100000 in
set_option maxHeartbeats 1000000 in
theorem numberFolds_nat (i : Int) (n : Nat) (k : Nat) (w : World) (h0 : -9223372036854775808 ≤ i) (h1 : i ≤ 9223372036854775807) (hn : n < 18446744073709551616) (hk : k < 256) :
    Calls Try.prog 6 #[.int .i64 i, .int .u64 n, .int .u8 k] w fun e w' => e = .returned (.bool true) ∧ Below w.heap.size w w' := by
  have fb := fold_bd i h0 h1
  have ub := unfold_bd n hn
  have e1 := unfold_fold i
  have e2 := fold_unfold n
  have E1 := Lib.hid e1
  have E2 := Lib.hid e2
  clear e1 e2
  have hj : k % 63 ≤ 62 := by omega
  have hP : (2 : Nat) ^ (k % 63) ≤ 2 ^ 62 := Nat.pow_le_pow_right (by omega) hj
  have hP2 : (2 : Nat) ^ 62 = 4611686018427387904 := by decide
  rw [hP2] at hP
  clear hP2
  have hpos : 0 < (2 : Nat) ^ (k % 63) := Nat.pow_pos (by omega)
  have hw : wrap64 (2 ^ (k % 63)) = ((2 ^ (k % 63) : Nat) : Int) := by
    have e1 : (2 : Int) ^ (k % 63) = ((2 ^ (k % 63) : Nat) : Int) := by simp
    rw [e1]
    generalize 2 ^ (k % 63) = P at *
    unfold wrap64
    omega
  have hs : (2 : Int) ^ (1 + k % 63) = 2 * ((2 ^ (k % 63) : Nat) : Int) := by
    rw [Int.pow_add]; simp
  generalize hPP : 2 ^ (k % 63) = P at *
  clear hPP
  have hq : (foldZ i / (2 * (P : Int)) == 0) = (decide (-(P : Int) ≤ i) && decide (i < (P : Int))) := by
    rw [← Bool.decide_and]
    have hz : foldZ i / (2 * (P : Int)) = 0 ↔ foldZ i < 2 * (P : Int) := by
      constructor
      · intro h
        have := Int.lt_mul_ediv_self_add (x := foldZ i) (k := 2 * (P : Int)) (by omega)
        rw [h] at this; omega
      · intro h; exact Int.ediv_eq_zero_of_lt fb.1 h
    rw [Bool.eq_iff_iff, beq_iff_eq, hz, decide_eq_true_iff]
    unfold foldZ; split <;> omega
  go_enter Try.func6, Try.ntmps6
  go_wp2_with fail
  refine (works_any _).mono ?_
  rintro e w1 ⟨rfl, hb1⟩
  go_wp2_with fail
  refine (fold_any _ _ h0 h1).mono ?_
  rintro e w2 ⟨rfl, rfl⟩
  go_wp2_with fail
  refine (refFold_any _ _ h0 h1).mono ?_
  rintro e w2 ⟨rfl, rfl⟩
  go_wp2_with fail
  refine (fold_any _ _ h0 h1).mono ?_
  rintro e w2 ⟨rfl, rfl⟩
  go_wp2_with fail
  refine (unfold_int _ _ fb.1 fb.2).mono ?_
  rintro e w2 ⟨rfl, rfl⟩
  rw [E1.out]
  go_wp2_with fail
  refine (unfold_any _ _ hn).mono ?_
  rintro e w2 ⟨rfl, rfl⟩
  go_wp2_with fail
  refine (fold_any _ _ ub.1 ub.2).mono ?_
  rintro e w2 ⟨rfl, rfl⟩
  rw [E2.out]
  go_wp2_with fail
  refine (fold_any _ _ h0 h1).mono ?_
  rintro e w2 ⟨rfl, rfl⟩
  by_cases hA : -(P : Int) ≤ i
  · by_cases hB : i < (P : Int)
    · have hq2 : (foldZ i / (2 * (P : Int)) == 0) = true := by rw [hq]; simp [hA, hB]
      clear hq
      go_wp2
      go_ret
      exact ⟨rfl, hb1⟩
    · have hq2 : (foldZ i / (2 * (P : Int)) == 0) = false := by rw [hq]; simp [hA, hB]
      have hB2 : decide (i < (P : Int)) = false := by simpa using hB
      clear hq
      go_wp2
      go_ret
      exact ⟨rfl, hb1⟩
  · have hq2 : (foldZ i / (2 * (P : Int)) == 0) = false := by rw [hq]; simp [hA]
    clear hq
    go_wp2
    go_ret
    exact ⟨rfl, hb1⟩
theorem numberFolds_walk (a0 : Int) (a1 : Int) (a2 : Int) (w0 : (Lit.int .i64 a0).wf = true) (w1 : (Lit.int .u64 a1).wf = true) (w2 : (Lit.int .u8 a2).wf = true) (w : World) :
    Calls Try.prog 6 #[.int .i64 a0, .int .u64 a1, .int .u8 a2] w fun e w' => e = .returned (.bool true) ∧ Below w.heap.size w w' := by
  have h0 := bounds_i64 w0
  have h1 := bounds_u64 w1
  have h2 := bounds_u8 w2
  obtain ⟨n1, rfl⟩ := Int.eq_ofNat_of_zero_le h1.1
  obtain ⟨n2, rfl⟩ := Int.eq_ofNat_of_zero_le h2.1
  exact numberFolds_nat a0 n1 n2 w (by omega) (by omega) (by omega) (by omega)
end Go.Proofs.Ytgpghghoagocjaa
