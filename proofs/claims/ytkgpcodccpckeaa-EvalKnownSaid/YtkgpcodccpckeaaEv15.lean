/- eval's wide numbers in general. Conditions: those of each lemma. -/
import Derived.Test.YtkgpcodccpckeaaEv1
import Derived.Test.YtkgpcodccpckeaaShelf
import Derived.Laws.Externs
import Derived.Deep.QuietTactic
import Derived.BigQuiet
import Derived.Deep.RegionWith
namespace Go.Proofs.Ytkgpcodccpckeaa
open Go.RowKit
set_option linter.unusedVariables false
set_option linter.unusedSimpArgs false
/-- both words of a number -/
abbrev wHi (x : Int) : Int := x / 18446744073709551616 % 18446744073709551616
abbrev wLo (x : Int) : Int := x % 18446744073709551616
abbrev wdV (h l : Int) : Value := .agg #[.int .u64 h, .int .u64 l]
theorem addW (x y c : Int) (hx : 0 ≤ x) (hy : 0 ≤ y) (hc0 : 0 ≤ c) (hc : c ≤ 1) (w : World) : (callFunc 80 #[.int .u64 x, .int .u64 y, .int .u64 c]).run Try.prog w = .ok (.value (.tuple #[.int .u64 ((x + y + c) % 18446744073709551616), .int .u64 ((x + y + c) / 18446744073709551616)])) w := by
  rw [run_callFunc_extern (show Try.prog.funcs[80]? = some Try.f80 by kernel_rfl) (by kernel_rfl) (by kernel_rfl) (by kernel_rfl) (e := add64Entry) (by kernel_rfl), run_add64 x y c hx hy hc0 hc]
  rfl
def sub64Entry : Array Value → Sem Value := fun args => do
  let (x, y, b) ← Extern.MathBitsCarry.three "Sub64" args
  pure (Extern.MathBitsCarry.pair ((x + Extern.MathBitsCarry.m64 - y - b) % Extern.MathBitsCarry.m64) (if x < y + b then 1 else 0))
theorem run_sub64 {P : Program} (x y b : Int) (hx : 0 ≤ x) (hy : 0 ≤ y) (hy2 : y < 18446744073709551616) (hb0 : 0 ≤ b) (hb : b ≤ 1) (w : World) :
    (sub64Entry #[.int .u64 x, .int .u64 y, .int .u64 b]).run P w =
      .ok (.tuple #[.int .u64 ((x - y - b) % 18446744073709551616), .int .u64 (if x < y + b then 1 else 0)]) w := by
  have key : ∀ k : Nat, k ≤ 1 → (sub64Entry #[.int .u64 x, .int .u64 y, .int .u64 (k : Int)]).run P w =
      .ok (Extern.MathBitsCarry.pair ((x.toNat + Extern.MathBitsCarry.m64 - y.toNat - k) % Extern.MathBitsCarry.m64) (if x.toNat < y.toNat + k then 1 else 0)) w := by
    intro k hk
    have : k = 0 ∨ k = 1 := by omega
    rcases this with rfl | rfl <;> rfl
  obtain ⟨k, rfl⟩ := Int.eq_ofNat_of_zero_le hb0
  rw [key k (by omega)]
  obtain ⟨X, rfl⟩ := Int.eq_ofNat_of_zero_le hx
  obtain ⟨Y, rfl⟩ := Int.eq_ofNat_of_zero_le hy
  simp only [Extern.MathBitsCarry.pair, Extern.MathBitsCarry.m64, Int.toNat_natCast]
  have e1 : Int.ofNat ((X + 2 ^ 64 - Y - k) % 2 ^ 64) = ((X : Int) - Y - k) % 18446744073709551616 := by
    show (((X + 2 ^ 64 - Y - k) % 2 ^ 64 : Nat) : Int) = _
    rw [show (2 : Nat) ^ 64 = 18446744073709551616 from rfl]
    omega
  have e2 : Int.ofNat (if X < Y + k then 1 else 0) = if (X : Int) < (Y : Int) + (k : Int) then 1 else 0 := by
    by_cases h : X < Y + k
    · rw [if_pos h, if_pos (by omega)]; rfl
    · rw [if_neg h, if_neg (by omega)]; rfl
  rw [e1, e2]
theorem subW (x y b : Int) (hx : 0 ≤ x) (hy : 0 ≤ y) (hy2 : y < 18446744073709551616) (hb0 : 0 ≤ b) (hb : b ≤ 1) (w : World) : (callFunc 79 #[.int .u64 x, .int .u64 y, .int .u64 b]).run Try.prog w = .ok (.value (.tuple #[.int .u64 ((x - y - b) % 18446744073709551616), .int .u64 (if x < y + b then 1 else 0)])) w := by
  rw [run_callFunc_extern (show Try.prog.funcs[79]? = some Try.f79 by kernel_rfl) (by kernel_rfl) (by kernel_rfl) (by kernel_rfl) (e := sub64Entry) (by kernel_rfl), run_sub64 x y b hx hy hy2 hb0 hb]
  rfl
set_option maxRecDepth 100000 in
set_option maxHeartbeats 4000000 in
theorem widened_any (n : Int) (h0 : -9223372036854775808 ≤ n) (h1 : n ≤ 9223372036854775807) (w : World) : Calls Try.prog 64 #[.int .i64 n] w fun e w' => e = .returned (wdV (wHi n) (wLo n)) ∧ Below w.heap.size w w' := by
  have e1 : IntKind.u64.wrap (n / 9223372036854775808) = wHi n := by rw [IntKind.wrap_u64]; unfold wHi; omega
  have e2 : IntKind.u64.wrap n = wLo n := by rw [IntKind.wrap_u64]
  clear h0 h1
  obtain ⟨H, hH⟩ : ∃ H, wHi n = H := ⟨_, rfl⟩
  obtain ⟨L, hL⟩ : ∃ L, wLo n = L := ⟨_, rfl⟩
  rw [hH] at e1 ⊢
  rw [hL] at e2 ⊢
  go_enter Try.func64, Try.ntmps64
  go_wp2
  first
    | exact bodyPost_ret (v := wdV H L) (by simp [results, Try.results64, go_sem]) rfl ⟨rfl, one_alloc⟩
    | (trace_state; fail)
set_option maxRecDepth 100000 in
set_option maxHeartbeats 4000000 in
theorem plus_any (x y : Int) (w : World) : Calls Try.prog 67 #[wdV (wHi x) (wLo x), wdV (wHi y) (wLo y)] w fun e w' => e = .returned (wdV (wHi (x + y)) (wLo (x + y))) ∧ Below w.heap.size w w' := by
  have A1 := addW (wLo x) (wLo y) 0 (by unfold wLo; omega) (by unfold wLo; omega) (by omega) (by omega)
  have A2 := addW (wHi x) (wHi y) ((wLo x + wLo y + 0) / 18446744073709551616) (by unfold wHi; omega) (by unfold wHi; omega) (by unfold wLo; omega) (by unfold wLo; omega)
  rw [show (wLo x + wLo y + 0) % 18446744073709551616 = wLo (x + y) by unfold wLo; omega] at A1
  rw [show (wHi x + wHi y + (wLo x + wLo y + 0) / 18446744073709551616) % 18446744073709551616 = wHi (x + y) by unfold wHi wLo; omega] at A2
  obtain ⟨C, hC⟩ : ∃ C, (wLo x + wLo y + 0) / 18446744073709551616 = C := ⟨_, rfl⟩
  rw [hC] at A1 A2
  obtain ⟨C2, hC2⟩ : ∃ C2, (wHi x + wHi y + C) / 18446744073709551616 = C2 := ⟨_, rfl⟩
  rw [hC2] at A2
  obtain ⟨xh, hxh⟩ : ∃ xh, wHi x = xh := ⟨_, rfl⟩
  obtain ⟨xl, hxl⟩ : ∃ xl, wLo x = xl := ⟨_, rfl⟩
  obtain ⟨yh, hyh⟩ : ∃ yh, wHi y = yh := ⟨_, rfl⟩
  obtain ⟨yl, hyl⟩ : ∃ yl, wLo y = yl := ⟨_, rfl⟩
  obtain ⟨H, hH⟩ : ∃ H, wHi (x + y) = H := ⟨_, rfl⟩
  obtain ⟨L, hL⟩ : ∃ L, wLo (x + y) = L := ⟨_, rfl⟩
  rw [hxl, hyl, hL] at A1
  rw [hxh, hyh, hH] at A2
  rw [hxh, hyh, hxl, hyl, hH, hL]
  clear hC hC2 hxh hxl hyh hyl hH hL
  go_enter Try.func67, Try.ntmps67
  go_wp2
  first
    | exact bodyPost_ret (v := wdV H L) (by simp [results, Try.results67, go_sem]) rfl ⟨rfl, bj (bj one_alloc one_alloc) one_alloc⟩
    | (trace_state; fail)
set_option maxRecDepth 100000 in
set_option maxHeartbeats 4000000 in
theorem minus_any (x y : Int) (w : World) : Calls Try.prog 65 #[wdV (wHi x) (wLo x), wdV (wHi y) (wLo y)] w fun e w' => e = .returned (wdV (wHi (x - y)) (wLo (x - y))) ∧ Below w.heap.size w w' := by
  obtain ⟨C, hC⟩ : ∃ C : Int, (if wLo x < wLo y + 0 then 1 else 0) = C := ⟨_, rfl⟩
  have hC0 : 0 ≤ C ∧ C ≤ 1 := by rw [← hC]; split <;> omega
  have A1 := subW (wLo x) (wLo y) 0 (by unfold wLo; omega) (by unfold wLo; omega) (by unfold wLo; omega) (by omega) (by omega)
  have A2 := subW (wHi x) (wHi y) C (by unfold wHi; omega) (by unfold wHi; omega) (by unfold wHi; omega) (by omega) (by omega)
  rw [show (wLo x - wLo y - 0) % 18446744073709551616 = wLo (x - y) by unfold wLo; omega, hC] at A1
  rw [show (wHi x - wHi y - C) % 18446744073709551616 = wHi (x - y) by rw [← hC]; unfold wHi wLo; split <;> omega] at A2
  obtain ⟨C2, hC2⟩ : ∃ C2 : Int, (if wHi x < wHi y + C then 1 else 0) = C2 := ⟨_, rfl⟩
  rw [hC2] at A2
  obtain ⟨xh, hxh⟩ : ∃ xh, wHi x = xh := ⟨_, rfl⟩
  obtain ⟨xl, hxl⟩ : ∃ xl, wLo x = xl := ⟨_, rfl⟩
  obtain ⟨yh, hyh⟩ : ∃ yh, wHi y = yh := ⟨_, rfl⟩
  obtain ⟨yl, hyl⟩ : ∃ yl, wLo y = yl := ⟨_, rfl⟩
  obtain ⟨H, hH⟩ : ∃ H, wHi (x - y) = H := ⟨_, rfl⟩
  obtain ⟨L, hL⟩ : ∃ L, wLo (x - y) = L := ⟨_, rfl⟩
  rw [hxl, hyl, hL] at A1
  rw [hxh, hyh, hH] at A2
  rw [hxh, hyh, hxl, hyl, hH, hL]
  clear hC0 hC hC2 hxh hxl hyh hyl hH hL
  go_enter Try.func65, Try.ntmps65
  go_wp2
  first
    | exact bodyPost_ret (v := wdV H L) (by simp [results, Try.results65, go_sem]) rfl ⟨rfl, bj (bj one_alloc one_alloc) one_alloc⟩
    | (trace_state; fail)
theorem and_ones (x : Int) (h0 : 0 ≤ x) (h1 : x < 18446744073709551616) : bits .and .u64 18446744073709551615 x = x := by
  obtain ⟨X, rfl⟩ := Int.eq_ofNat_of_zero_le h0
  have h := bits_and_u64_nat 18446744073709551615 X (by omega) (by omega)
  have e : 18446744073709551615 &&& X = X := by
    rw [Nat.and_comm]
    have := Nat.and_two_pow_sub_one_eq_mod X 64
    rw [show (2 : Nat) ^ 64 - 1 = 18446744073709551615 from rfl, show (2 : Nat) ^ 64 = 18446744073709551616 from rfl] at this
    rw [this]
    omega
  rw [e] at h
  exact h
theorem and_none (x : Int) (h0 : 0 ≤ x) (h1 : x < 18446744073709551616) : bits .and .u64 0 x = 0 := by
  obtain ⟨X, rfl⟩ := Int.eq_ofNat_of_zero_le h0
  have h := bits_and_u64_nat 0 X (by omega) (by omega)
  rw [Nat.zero_and] at h
  exact h
/-- what a number's sign takes of another one's words -/
abbrev mk2 (a b : Int) : Int := if a < 0 then wLo b else 0
theorem and_sign (a b : Int) (h0 : -9223372036854775808 ≤ a) (h1 : a ≤ 9223372036854775807) : bits .and .u64 (wHi a) (wLo b) = mk2 a b := by
  have hb0 : 0 ≤ wLo b := by unfold wLo; omega
  have hb1 : wLo b < 18446744073709551616 := by unfold wLo; omega
  by_cases h : a < 0
  · rw [show mk2 a b = wLo b by unfold mk2; rw [if_pos h], show wHi a = 18446744073709551615 by unfold wHi; omega]
    exact and_ones _ hb0 hb1
  · rw [show mk2 a b = 0 by unfold mk2; rw [if_neg h], show wHi a = 0 by unfold wHi; omega]
    exact and_none _ hb0 hb1
theorem mul_lo (a b : Int) : (wLo a * wLo b) % 18446744073709551616 = wLo (a * b) := by
  unfold wLo
  exact (Int.mul_emod a b 18446744073709551616).symm
theorem mul_hi (a b : Int) (h0 : -9223372036854775808 ≤ a) (h1 : a ≤ 9223372036854775807) (g0 : -9223372036854775808 ≤ b) (g1 : b ≤ 9223372036854775807) :
    IntKind.u64.wrap ((wLo a * wLo b) / 18446744073709551616 - IntKind.u64.wrap (mk2 a b + mk2 b a)) = wHi (a * b) := by
  rw [IntKind.wrap_u64, IntKind.wrap_u64]
  unfold mk2
  by_cases ha : a < 0
  · have ea : wLo a = a + 18446744073709551616 := by unfold wLo; omega
    by_cases hb : b < 0
    · have eb : wLo b = b + 18446744073709551616 := by unfold wLo; omega
      rw [if_pos ha, if_pos hb, ea, eb]
      have e : (a + 18446744073709551616) * (b + 18446744073709551616) = a * b + a * 18446744073709551616 + (18446744073709551616 * b + 18446744073709551616 * 18446744073709551616) := by rw [Int.add_mul, Int.mul_add, Int.mul_add]
      rw [e]
      unfold wHi
      omega
    · have eb : wLo b = b := by unfold wLo; omega
      rw [if_pos ha, if_neg hb, ea, eb]
      have e : (a + 18446744073709551616) * b = a * b + 18446744073709551616 * b := by rw [Int.add_mul]
      rw [e]
      unfold wHi
      omega
  · have ea : wLo a = a := by unfold wLo; omega
    by_cases hb : b < 0
    · have eb : wLo b = b + 18446744073709551616 := by unfold wLo; omega
      rw [if_neg ha, if_pos hb, ea, eb]
      have e : a * (b + 18446744073709551616) = a * b + a * 18446744073709551616 := by rw [Int.mul_add]
      rw [e]
      unfold wHi
      omega
    · have eb : wLo b = b := by unfold wLo; omega
      rw [if_neg ha, if_neg hb, ea, eb]
      unfold wHi
      omega
theorem mulW (x y : Int) (hx : 0 ≤ x) (hx1 : x < 18446744073709551616) (hy : 0 ≤ y) (hy1 : y < 18446744073709551616) (w : World) :
    Calls Try.prog 81 #[.int .u64 x, .int .u64 y] w fun e w' => e = .returned (.tuple #[.int .u64 (x * y / 18446744073709551616), .int .u64 (x * y % 18446744073709551616)]) ∧ w = w' := by
  obtain ⟨X, rfl⟩ := Int.eq_ofNat_of_zero_le hx
  obtain ⟨Y, rfl⟩ := Int.eq_ofNat_of_zero_le hy
  refine (Try.bits_Mul64 X Y (by omega) (by omega) w).mono ?_
  rintro e w' ⟨rfl, rfl⟩
  refine ⟨?_, rfl⟩
  rw [Int.natCast_ediv, Int.natCast_emod, Int.natCast_mul]
  rfl
set_option maxRecDepth 100000 in
set_option maxHeartbeats 4000000 in
theorem product_any (a b : Int) (h0 : -9223372036854775808 ≤ a) (h1 : a ≤ 9223372036854775807) (g0 : -9223372036854775808 ≤ b) (g1 : b ≤ 9223372036854775807) (w : World) : Calls Try.prog 68 #[.int .i64 a, .int .i64 b] w fun e w' => e = .returned (wdV (wHi (a * b)) (wLo (a * b))) ∧ Below w.heap.size w w' := by
  have e1 : IntKind.u64.wrap (a / 9223372036854775808) = wHi a := by rw [IntKind.wrap_u64]; unfold wHi; omega
  have e2 : IntKind.u64.wrap a = wLo a := by rw [IntKind.wrap_u64]
  have e3 : IntKind.u64.wrap (b / 9223372036854775808) = wHi b := by rw [IntKind.wrap_u64]; unfold wHi; omega
  have e4 : IntKind.u64.wrap b = wLo b := by rw [IntKind.wrap_u64]
  have s1 := and_sign a b h0 h1
  have s2 := and_sign b a g0 g1
  have m1 := mulW (wLo a) (wLo b) (by unfold wLo; omega) (by unfold wLo; omega) (by unfold wLo; omega) (by unfold wLo; omega)
  have hh := mul_hi a b h0 h1 g0 g1
  rw [mul_lo] at m1
  clear h0 h1 g0 g1
  obtain ⟨Q, hQ⟩ : ∃ Q, wLo a * wLo b / 18446744073709551616 = Q := ⟨_, rfl⟩
  rw [hQ] at m1 hh
  obtain ⟨H, hH⟩ : ∃ H, wHi (a * b) = H := ⟨_, rfl⟩
  obtain ⟨L, hL⟩ : ∃ L, wLo (a * b) = L := ⟨_, rfl⟩
  rw [hL] at m1
  rw [hH] at hh
  rw [hH, hL]
  obtain ⟨M1, hM1⟩ : ∃ M1, mk2 a b = M1 := ⟨_, rfl⟩
  obtain ⟨M2, hM2⟩ : ∃ M2, mk2 b a = M2 := ⟨_, rfl⟩
  rw [hM1] at s1 hh
  rw [hM2] at s2 hh
  obtain ⟨ah, hah⟩ : ∃ ah, wHi a = ah := ⟨_, rfl⟩
  obtain ⟨al, hal⟩ : ∃ al, wLo a = al := ⟨_, rfl⟩
  obtain ⟨bh, hbh⟩ : ∃ bh, wHi b = bh := ⟨_, rfl⟩
  obtain ⟨bl, hbl⟩ : ∃ bl, wLo b = bl := ⟨_, rfl⟩
  rw [hah] at e1 s1
  rw [hal] at e2 s2 m1
  rw [hbh] at e3 s2
  rw [hbl] at e4 s1 m1
  have HM := Lib.hid m1
  clear hQ hH hL hM1 hM2 hah hal hbh hbl m1
  obtain ⟨S, hS⟩ : ∃ S, IntKind.u64.wrap (M1 + M2) = S := ⟨_, rfl⟩
  rw [hS] at hh
  go_enter Try.func68, Try.ntmps68
  go_wp2_with fail
  refine (HM.out _).mono ?_
  rintro e w1 ⟨rfl, rfl⟩
  go_wp2
  first
    | exact bodyPost_ret (v := wdV H L) (by simp [results, Try.results68, go_sem]) rfl ⟨rfl, one_alloc⟩
    | (trace_state; fail)
end Go.Proofs.Ytkgpcodccpckeaa
