/- What number.Fold and number.Unfold answer. Conditions: the numbers fit their kinds. -/
import Derived.Test.YtocbdehcjcggeaaProg
import Derived.WalkKit
import Derived.WalkSpells
import Derived.WalkLawsBesides
import Derived.Lib.Hide
import Derived.OpenShut
import Derived.Test.YtocbdehcjcggeaaNumMath
namespace Go.Proofs.Ytocbdehcjcggeaa
open Go.RowKit
theorem ofInt_ones : BitVec.ofInt IntKind.u64.bits 18446744073709551615 = BitVec.allOnes _ := by decide
theorem ofInt_neg : BitVec.ofInt IntKind.i64.bits (-1) = BitVec.allOnes _ := by decide
theorem toNat_ofInt64 (a : Nat) (h : a < 18446744073709551616) : (BitVec.ofInt 64 (a : Int)).toNat = a := by
  rw [BitVec.toNat_ofInt]; omega
theorem xor_ones_u64 (a : Nat) (h : a < 18446744073709551616) : bits .xor .u64 (a : Int) 18446744073709551615 = 18446744073709551615 - (a : Int) := by
  unfold bits
  simp only [ofInt_ones, BitVec.xor_allOnes, BitVec.toNat_not]
  have e := toNat_ofInt64 a h
  show IntKind.u64.wrap (((2 ^ 64 - 1 - (BitVec.ofInt 64 (a : Int)).toNat : Nat)) : Int) = _
  rw [e, IntKind.wrap_u64]
  omega
theorem xor_zero_u64 (a : Nat) (h : a < 18446744073709551616) : bits .xor .u64 (a : Int) 0 = (a : Int) := by
  have := bits_xor_u64_nat a 0 h (by omega)
  simpa using this
theorem xor_neg_i64 (a : Nat) (h : a < 9223372036854775808) : bits .xor .i64 (a : Int) (-1) = -1 - (a : Int) := by
  unfold bits
  simp only [ofInt_neg, BitVec.xor_allOnes, BitVec.toNat_not]
  have e := toNat_ofInt64 a (by omega)
  show IntKind.i64.wrap (((2 ^ 64 - 1 - (BitVec.ofInt 64 (a : Int)).toNat : Nat)) : Int) = _
  rw [e]
  simp [IntKind.wrap, IntKind.bits, IntKind.signed]
  omega
theorem xor_zero_i64 (a : Nat) (h : a < 9223372036854775808) : bits .xor .i64 (a : Int) 0 = (a : Int) := by
  unfold bits
  have e := toNat_ofInt64 a (by omega)
  show IntKind.i64.wrap ((((BitVec.ofInt 64 (a : Int)) ^^^ (BitVec.ofInt 64 0)).toNat : Nat) : Int) = _
  rw [show BitVec.ofInt 64 0 = 0#64 from rfl, BitVec.xor_zero, e]
  simp [IntKind.wrap, IntKind.bits, IntKind.signed]
  omega
theorem and_one (m : Nat) (h : m < 18446744073709551616) : bits .and .u64 (m : Int) 1 = (m : Int) % 2 := by
  have := bits_and_u64_nat m 1 h (by omega)
  rw [show ((1 : Nat) : Int) = 1 from rfl] at this
  rw [this, show (1 : Nat) = 2 ^ 1 - 1 from rfl, Nat.and_two_pow_sub_one_eq_mod]
  simp
/-- a whole number, folded -/
def foldZ (i : Int) : Int := if 0 ≤ i then 2 * i else -2 * i - 1
/-- the whole number that is n when it is folded -/
def unfoldZ (n : Int) : Int := if n % 2 = 0 then n / 2 else -1 - n / 2

set_option maxRecDepth 100000 in
theorem fold_any (i : Int) (w : World) (h0 : -9223372036854775808 ≤ i) (h1 : i ≤ 9223372036854775807) :
    Calls Try.prog 75 #[.int .i64 i] w fun e w' => e = .returned (.int .u64 (foldZ i)) ∧ w = w' := by
  by_cases h : 0 ≤ i
  · have hx := xor_zero_u64 (2 * i).toNat (by omega)
    rw [Int.toNat_of_nonneg (by omega), Int.mul_comm 2 i] at hx
    have hd : i / 9223372036854775808 = 0 := by omega
    have HF := Lib.hid (show foldZ i = i * 2 by unfold foldZ; rw [if_pos h]; omega)
    go_enter Try.func75, Try.ntmps75
    go_wp2
    go_ret
    exact ⟨rint (by rw [HF.out]), rfl⟩
  · have hx := xor_ones_u64 (2 * i + 18446744073709551616).toNat (by omega)
    rw [Int.toNat_of_nonneg (by omega)] at hx
    have hw : IntKind.u64.wrap (IntKind.u64.wrap i * 2) = 2 * i + 18446744073709551616 := by rw [IntKind.wrap_u64, IntKind.wrap_u64]; omega
    have hw2 : IntKind.u64.wrap (i / 9223372036854775808) = 18446744073709551615 := by rw [IntKind.wrap_u64]; omega
    have HF := Lib.hid (show foldZ i = 18446744073709551615 - (2 * i + 18446744073709551616) by unfold foldZ; rw [if_neg h]; omega)
    go_enter Try.func75, Try.ntmps75
    go_wp2
    go_ret
    exact ⟨rint (by rw [HF.out, ← hx, ← hw, ← hw2]), rfl⟩
set_option maxRecDepth 100000 in
theorem unfold_any (n : Nat) (w : World) (h : n < 18446744073709551616) :
    Calls Try.prog 92 #[.int .u64 n] w fun e w' => e = .returned (.int .i64 (unfoldZ n)) ∧ w = w' := by
  have ha := and_one n h
  by_cases h2 : n % 2 = 0
  · have hx := xor_zero_i64 (n / 2) (by omega)
    have HF := Lib.hid (show unfoldZ n = n / 2 by unfold unfoldZ; rw [if_pos (by omega)])
    have hm : (n : Int) % 2 = 0 := by omega
    have hb1 : ((n / 2 : Nat) : Int) = (n : Int) / 2 := by simp
    rw [hb1] at hx
    clear hb1
    rw [hm] at ha
    go_enter Try.func92, Try.ntmps92
    go_wp2
    go_ret
    exact ⟨rint (by rw [HF.out]), rfl⟩
  · have hx := xor_neg_i64 (n / 2) (by omega)
    have HF := Lib.hid (show unfoldZ n = -1 - (n : Int) / 2 by unfold unfoldZ; rw [if_neg (by omega)])
    have hm : (n : Int) % 2 = 1 := by omega
    have hb1 : ((n / 2 : Nat) : Int) = (n : Int) / 2 := by simp
    rw [hb1] at hx
    clear hb1
    rw [hm] at ha
    go_enter Try.func92, Try.ntmps92
    go_wp2
    go_ret
    exact ⟨rint (by rw [HF.out]), rfl⟩
end Go.Proofs.Ytocbdehcjcggeaa
