/- What the functions of package number answer, and that they leave memory as it was. Conditions: the numbers fit their kinds, a text is no longer than a machine has addresses. -/
import Derived.Test.YtocbdehcjcggeaaProg
import Derived.Test.YtocbdehcjcggeaaNumMath
import Derived.WalkKit
import Derived.WalkSpells
import Derived.WalkLawsBesides
import Derived.Lib.Hide
namespace Go.Proofs.Ytocbdehcjcggeaa
open Go.RowKit
theorem ret_int {k : IntKind} {a b : Int} (h : a = b) : Ending.returned (.int k a) = .returned (.int k b) := by rw [h]
theorem div_pow (n k : Nat) : n / 128 ^ k / 128 = n / 128 ^ (k + 1) := by rw [Nat.div_div_eq_div_mul, Nat.pow_succ]
theorem pos_div (n k : Nat) : 0 < n / 128 ^ k ↔ 128 ^ k ≤ n := by
  rw [Nat.div_pos_iff]; constructor
  · intro h; exact h.2
  · intro h; exact ⟨Nat.pow_pos (by omega), h⟩
theorem pow_lt_7 {n k : Nat} (h0 : n < 72057594037927936) (h : 128 ^ k ≤ n) : k ≤ 7 := by
  rcases Nat.lt_or_ge k 8 with h' | h'
  · omega
  · have := Nat.pow_le_pow_right (n := 128) (by omega) h'
    have e : (128:Nat) ^ 8 = 72057594037927936 := by decide
    omega
set_option maxHeartbeats 400000 in
theorem size_any (n : Nat) (w : World) (h1 : n < 18446744073709551616) :
    Calls Try.prog 48 #[.int .u64 n] w fun e w' => e = .returned (.int .i64 (sz n)) ∧ w = w' := by
  by_cases hb : n < 72057594037927936
  · have h2 : ¬ ((72057594037927936 : Int) ≤ n) := by omega
    go_enter Try.func48, Try.ntmps48
    go_wp2
    go_loop [0, 3] (fun m s => ∃ k m' : Nat, k ≤ 7 ∧ (k = 0 ∨ 128 ^ k ≤ n) ∧ m' = n / 128 ^ (k + 1) ∧ m = .int .u64 m' ∧ s = .int .i64 ((k + 1 : Nat) : Int)) (fun m _ => (intOf m).toNat)
    case atStart => exact ⟨0, n / 128, by omega, by omega, by simp, by simp, rfl⟩
    case round =>
      obtain ⟨k, m, hk, hn, hm, rfl, rfl⟩ := hrel
      by_cases hp : 0 < m
      · have hp' := (pos_div n (k + 1)).1 (by omega)
        have hk7 := pow_lt_7 hb hp'
        have e2 := div_pow n (k + 1)
        rw [← hm] at e2
        have hm1 : m < 72057594037927936 := by rw [hm]; exact Nat.lt_of_le_of_lt (Nat.div_le_self _ _) hb
        have E2 := Lib.hid e2
        clear hm e2
        go_wp2
        go_round
        case rel => exact ⟨k + 1, m / 128, by omega, .inr hp', E2.out, by simp, by go_num⟩
        case measure => simp [intOf]; omega
      · have hlt : n < 128 ^ (k + 1) := by
          rcases Nat.lt_or_ge n (128 ^ (k + 1)) with h | h
          · exact h
          · exact absurd ((pos_div n (k+1)).2 h) (by omega)
        have hs := sz_of hb hk hn hlt
        have HS := Lib.hid hs
        clear hs hm hlt
        obtain rfl : m = 0 := by omega
        go_wp2
        go_ret
        exact ⟨ret_int (by rw [HS.out]; omega), rfl⟩
  · have h2 : ((72057594037927936 : Int) ≤ n) := by omega
    have hs := sz_big (n := n) (by omega)
    have HS := Lib.hid hs
    clear hs
    go_enter Try.func48, Try.ntmps48
    go_wp2
    go_ret
    exact ⟨ret_int (by rw [HS.out]; rfl), rfl⟩
end Go.Proofs.Ytocbdehcjcggeaa
