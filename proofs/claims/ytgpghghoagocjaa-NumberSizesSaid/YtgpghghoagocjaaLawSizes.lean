/- What the functions of package number answer, and that they leave memory as it was. Conditions: the numbers fit their kinds, a text is no longer than a machine has addresses. -/
import Derived.Test.YtgpghghoagocjaaProg
import Derived.Test.YtgpghghoagocjaaNumFix
import Derived.Deep.QuietTactic
import Derived.BigQuiet
import Derived.OpenShut
namespace Go.Proofs.Ytgpghghoagocjaa
open Go.RowKit
theorem ret_bool {a b : Bool} (h : a = b) : Ending.returned (.bool a) = .returned (.bool b) := by rw [h]
theorem size_q (n : Nat) (w : World) (h1 : n < 18446744073709551616) :
    Calls Try.prog 13 #[.int .u64 n] w fun e w' => e = .returned (.int .i64 (sz n)) ∧ w' = w :=
  (size_any n w h1).mono fun _ _ h => ⟨h.1, h.2.symm⟩
set_option maxRecDepth 100000 in
set_option maxHeartbeats 1000000 in
theorem numberSizes_nat (a b : Nat) (w : World) (ha : a < 18446744073709551616) (hb : b < 18446744073709551616) :
    Calls Try.prog 11 #[.int .u64 a, .int .u64 b] w fun e w' => e = .returned (.bool true) ∧ Below w.heap.size w w' := by
  go_enter Try.func11, Try.ntmps11
  go_wp2_with fail
  refine (works_any _).mono ?_
  rintro e w1 ⟨rfl, hb1⟩
  go_wp2_with fail
  go_loopw [5] (fun i wr => ∃ n : Nat, 1 ≤ n ∧ n ≤ 9 ∧ i = .int .i64 n ∧ Below w.heap.size w wr) (fun i _ => 9 - (intOf i).toNat)
  case atStart => exact ⟨1, by omega, by omega, rfl, hb1⟩
  case round =>
    obtain ⟨n, h1, h9, rfl, hb2⟩ := hrel
    by_cases h8 : n ≤ 8
    · have hp : IntKind.u64.wrap ((2 : Int) ^ (7 * n)) = ((128 ^ n : Nat) : Int) := by
        have e1 : (2 : Int) ^ (7 * n) = ((128 ^ n : Nat) : Int) := by
          have : (2 : Nat) ^ (7 * n) = 128 ^ n := by rw [Nat.pow_mul]
          rw [← this]; simp
        have e2 : (128 : Nat) ^ n ≤ 128 ^ 8 := Nat.pow_le_pow_right (by omega) h8
        have e3 : (128 : Nat) ^ 8 = 72057594037927936 := by decide
        rw [e1]; generalize 128 ^ n = P at *; rw [IntKind.wrap_u64, Int.emod_eq_of_lt (by omega) (by omega)]
      have hd : decide (a < 128 ^ n) = decide (sz a ≤ n) := by
        rw [decide_eq_decide]; exact sz_iff (a := a) h1 h8
      generalize 128 ^ n = P at *
      go_wp2_with fail
      go_quiet ((go_at_call 13; exact Calls.quiet_of_same (size_q _ _ ha)))
      have hb3 : Below w.heap.size w (wr.drewN nq) := by
        exact hb2.trans ⟨rfl, rfl, rfl, Nat.le_refl _, fun _ _ => rfl⟩
      go_wp2_with fail
      go_roundw
      case rel => exact ⟨n + 1, by omega, by omega, by go_num, hb3⟩
      case measure => simp [intOf]; omega
    · have hsz := sz_le a
      have hszb := sz_le b
      have hfin : decide (sz a ≤ sz b) = (decide (a ≤ b) || decide (sz a = sz b)) := by
        by_cases hab : a ≤ b
        · have := sz_mono hab; simp [hab, this]
        · have := sz_mono (a := b) (b := a) (by omega); simp [hab]; omega
      obtain ⟨hsz1, hsz2⟩ := hsz
      clear hfin hszb
      by_cases hab : a ≤ b
      · have HM := Lib.hid (sz_mono hab)
        go_wp2_with (go_at_call 13; refine (size_any _ _ (by omega)).mono ?_; rintro e w' ⟨rfl, rfl⟩)
        go_ret
        exact ⟨ret_bool (by simp [HM.out]), hb2⟩
      · have HM := Lib.hid (sz_mono (a := b) (b := a) (by omega))
        go_wp2_with (go_at_call 13; refine (size_any _ _ (by omega)).mono ?_; rintro e w' ⟨rfl, rfl⟩)
        go_ret
        have e : ((sz a : Int) == (sz b : Int)) = decide (sz a = sz b) := by rw [Bool.eq_iff_iff]; simp; omega
        exact ⟨ret_bool (by show (decide (sz a ≤ sz b) == ((sz a : Int) == (sz b : Int))) = true; rw [beq_iff_eq, e, decide_eq_decide]; have := HM.out; omega), hb2⟩
theorem numberSizes_walk (a0 : Int) (a1 : Int) (w0 : (Lit.int .u64 a0).wf = true) (w1 : (Lit.int .u64 a1).wf = true) (w : World) :
    Calls Try.prog 11 #[.int .u64 a0, .int .u64 a1] w fun e w' => e = .returned (.bool true) ∧ Below w.heap.size w w' := by
  have h0 := bounds_u64 w0
  have h1 := bounds_u64 w1
  obtain ⟨n0, rfl⟩ := Int.eq_ofNat_of_zero_le h0.1
  obtain ⟨n1, rfl⟩ := Int.eq_ofNat_of_zero_le h1.1
  exact numberSizes_nat n0 n1 w (by omega) (by omega)
end Go.Proofs.Ytgpghghoagocjaa
