/- The walk of NumberRising. Conditions: the numbers fit their kinds. -/
import Derived.Test.YtgpghghoagocjaaProg
import Derived.Test.YtgpghghoagocjaaNumFix
import Derived.OpenShut
namespace Go.Proofs.Ytgpghghoagocjaa
open Go.RowKit
theorem val_acc (acc : Nat) (l : List Nat) : val acc l = acc * 256 ^ l.length + val 0 l := by
  induction l generalizing acc with
  | nil => simp [val]
  | cons c l ih =>
    rw [val_cons, ih (acc * 256 + c), val_cons, ih (0 * 256 + c)]
    simp only [List.length_cons, Nat.pow_succ]
    rw [Nat.add_mul, Nat.add_mul, Nat.mul_assoc, Nat.mul_comm 256, ← Nat.mul_assoc]
    simp [Nat.add_assoc, Nat.mul_comm]
theorem less_val : ∀ (l m : List Nat), l.length = m.length → (∀ x ∈ l, x < 256) → (∀ x ∈ m, x < 256) →
    Op.bytesLess (l.map UInt8.ofNat) (m.map UInt8.ofNat) = decide (val 0 l < val 0 m)
  | [], [], _, _, _ => by simp [Op.bytesLess]
  | [], _ :: _, h, _, _ => by cases h
  | _ :: _, [], h, _, _ => by cases h
  | a :: x, b :: y, h, h1, h2 => by
    have hl : x.length = y.length := by simpa using h
    have ih := less_val x y hl (fun z hz => h1 z (by simp [hz])) (fun z hz => h2 z (by simp [hz]))
    have ha := h1 a (by simp)
    have hb := h2 b (by simp)
    have vx := val_lt 0 x (fun z hz => h1 z (by simp [hz]))
    have vy := val_lt 0 y (fun z hz => h2 z (by simp [hz]))
    simp only [List.map_cons, Op.bytesLess, ih]
    rw [val_cons, val_acc (0 * 256 + a) x, val_cons, val_acc (0 * 256 + b) y, hl]
    rw [hl] at vx
    generalize val 0 x = p at *
    generalize val 0 y = q at *
    generalize 256 ^ y.length = M at *
    have e1 : (UInt8.ofNat a < UInt8.ofNat b) ↔ a < b := by
      rw [UInt8.lt_iff_toNat_lt]; simp [Nat.mod_eq_of_lt ha, Nat.mod_eq_of_lt hb]
    have e2 : (UInt8.ofNat a = UInt8.ofNat b) ↔ a = b := by
      rw [← UInt8.toNat_inj]; simp [Nat.mod_eq_of_lt ha, Nat.mod_eq_of_lt hb]
    rw [Bool.eq_iff_iff]
    simp only [Bool.or_eq_true, Bool.and_eq_true, decide_eq_true_eq, beq_iff_eq, e1, e2]
    rcases Nat.lt_trichotomy a b with hab | rfl | hab
    · have : (a + 1) * M ≤ b * M := Nat.mul_le_mul_right _ hab
      rw [Nat.add_mul] at this
      simp; omega
    · simp
    · have : (b + 1) * M ≤ a * M := Nat.mul_le_mul_right _ hab
      rw [Nat.add_mul] at this
      simp; omega
theorem fourL_lt (n : Nat) : ∀ x ∈ fourL n, x < 256 := by
  intro x h; simp [fourL] at h; omega
theorem eightL_lt (n : Nat) : ∀ x ∈ eightL n, x < 256 := by
  intro x h; simp only [eightL, List.mem_append] at h; rcases h with h | h <;> exact fourL_lt _ x h
theorem val_fourL (n : Nat) (h : n < 4294967296) : val 0 (fourL n) = n := by simp [val, fourL]; omega
theorem val_eightL (n : Nat) (h : n < 18446744073709551616) : val 0 (eightL n) = n := by simp [val, eightL, fourL]; omega
theorem less_four (a b : Nat) (ha : a < 4294967296) (hb : b < 4294967296) : Op.bytesLess (bstr (fourL a)).toList (bstr (fourL b)).toList = decide (a < b) := by
  rw [ByteArray.toList_eq, ByteArray.toList_eq, bstr_toList, bstr_toList, less_val _ _ (by simp [fourL]) (fourL_lt a) (fourL_lt b), val_fourL a ha, val_fourL b hb]
theorem less_eight (a b : Nat) (ha : a < 18446744073709551616) (hb : b < 18446744073709551616) : Op.bytesLess (bstr (eightL a)).toList (bstr (eightL b)).toList = decide (a < b) := by
  rw [ByteArray.toList_eq, ByteArray.toList_eq, bstr_toList, bstr_toList, less_val _ _ (by simp [eightL, fourL]) (eightL_lt a) (eightL_lt b), val_eightL a ha, val_eightL b hb]
set_option maxRecDepth 100000 in
set_option maxHeartbeats 1000000 in
theorem numberRising_nat (a b : Nat) (w : World) (ha : a < 18446744073709551616) (hb : b < 18446744073709551616) :
    Calls Try.prog 10 #[.int .u64 a, .int .u64 b] w fun e w' => e = .returned (.bool true) ∧ Below w.heap.size w w' := by
  have hl := less_eight a b ha hb
  have hl4 := less_four (a % 4294967296) (b % 4294967296) (by omega) (by omega)
  go_enter Try.func10, Try.ntmps10
  go_wp2_with fail
  refine (works_any _).mono ?_
  rintro e w1 ⟨rfl, hb1⟩
  go_wp2_with fail
  refine (eight_any _ _ ha).mono ?_
  rintro e w2 ⟨rfl, hb2⟩
  go_wp2_with fail
  refine (eight_any _ _ hb).mono ?_
  rintro e w3 ⟨rfl, hb3⟩
  go_wp2_with fail
  refine (four_any _ _ (by omega) (by omega)).mono ?_
  rintro e w4 ⟨rfl, hb4⟩
  go_wp2_with fail
  refine (four_any _ _ (by omega) (by omega)).mono ?_
  rintro e w5 ⟨rfl, hb5⟩
  have et : ∀ z : Nat, ((z : Int) % 4294967296).toNat = z % 4294967296 := fun z => by omega
  rw [et a, et b]
  clear et
  go_wp2
  go_ret
  exact ⟨rbool (by show (decide (a % 4294967296 < b % 4294967296) == decide ((a : Int) % 4294967296 < (b : Int) % 4294967296)) = true; rw [beq_iff_eq, decide_eq_decide]; omega), hb1.trans ((hb2.mono hb1.size).trans ((hb3.mono (by have := hb1.size; have := hb2.size; omega)).trans ((hb4.mono (by have := hb1.size; have := hb2.size; have := hb3.size; omega)).trans (hb5.mono (by have := hb1.size; have := hb2.size; have := hb3.size; have := hb4.size; omega)))))⟩
theorem numberRising_walk (a0 : Int) (a1 : Int) (w0 : (Lit.int .u64 a0).wf = true) (w1 : (Lit.int .u64 a1).wf = true) (w : World) :
    Calls Try.prog 10 #[.int .u64 a0, .int .u64 a1] w fun e w' => e = .returned (.bool true) ∧ Below w.heap.size w w' := by
  have h0 := bounds_u64 w0
  have h1 := bounds_u64 w1
  obtain ⟨n0, rfl⟩ := Int.eq_ofNat_of_zero_le h0.1
  obtain ⟨n1, rfl⟩ := Int.eq_ofNat_of_zero_le h1.1
  exact numberRising_nat n0 n1 w (by omega) (by omega)
end Go.Proofs.Ytgpghghoagocjaa
