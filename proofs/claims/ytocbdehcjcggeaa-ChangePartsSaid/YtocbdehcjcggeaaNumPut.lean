/- What the functions of package number answer, and that they leave memory as it was. Conditions: the numbers fit their kinds, a text is no longer than a machine has addresses. -/
import Derived.Test.YtocbdehcjcggeaaProg
import Derived.Test.YtocbdehcjcggeaaNumSize
namespace Go.Proofs.Ytocbdehcjcggeaa
open Go.RowKit
theorem and127 (m : Nat) (h : m < 18446744073709551616) : bits .and .u64 (m : Int) 127 = ((m % 128 : Nat) : Int) := by
  have := bits_and_u64_nat m 127 h (by omega)
  rw [show ((127 : Nat) : Int) = 127 from rfl] at this
  rw [this, show (127 : Nat) = 2 ^ 7 - 1 from rfl, Nat.and_two_pow_sub_one_eq_mod]
theorem or128 (y : Nat) (h : y < 128) : bits .or .u8 (y : Int) 128 = ((y + 128 : Nat) : Int) := by
  rw [u8_or128_right _ (by omega) (by omega)]; omega
set_option maxHeartbeats 400000 in
theorem put_small (n : Nat) (w : World) (h1 : n < 72057594037927936) :
    Calls Try.prog 24 #[.int .u64 n] w fun e w' => e = .returned (.string (bstr (putL n))) ∧ Below w.heap.size w w' := by
  obtain ⟨ht0, ht1⟩ := (sz_le n)
  have hs : sz n ≤ 8 := by unfold sz; repeat (first | omega | split)
  have ht2 : ((sz n : Int) == 9) = false := by simp; omega
  have ha := and127 n (by omega)
  have HH : Hid (high n = n / 128) := Lib.hid (by unfold high; rw [if_pos h1])
  have HL : Hid (low n = n % 128) := Lib.hid (by unfold low; rw [if_pos h1])
  have hhi : high n < 72057594037927936 := by rw [HH.out]; omega
  go_enter Try.func24, Try.ntmps24
  go_wp2_with (go_at_call 48; refine (size_any _ _ (by omega)).mono ?_; rintro e w' ⟨rfl, rfl⟩)
  clear ha
  go_loopw [0, 6] (fun v i wr => ∃ j m' : Nat, j ≤ 8 ∧ v = .int .u64 m' ∧ m' = high n / 128^j ∧ i = .int .i64 (7 - (j : Int)) ∧ wr = w.alloc (.cells (cellsA j (high n) (low n)) 85)) (fun _ i _ => (intOf i + 1).toNat)
  case atStart => exact ⟨0, high n, by omega, by rw [HH.out]; simp, by simp, rfl, by rw [cellsA_zero, HL.out]; simp⟩
  case round =>
    obtain ⟨j, m, hj, rfl, hm, rfl, rfl⟩ := hrel
    by_cases h8 : j < 8
    · have hA := cellsA_size j (high n) (low n) hj
      have hg := cellsA_get j (high n) (low n) h8
      have hset := cellsA_set j (high n) (low n) h8
      rw [← hm] at hset
      have HS := Lib.hid hset
      generalize cellsA j (high n) (low n) = A at *
      have hm1 : m < 72057594037927936 := by rw [hm]; exact Nat.lt_of_le_of_lt (Nat.div_le_self _ _) hhi
      have HM := Lib.hid hm
      clear hset hm
      have ha := and127 m (by omega)
      have ho : bits .or .u8 ((m : Int) % 128) 128 = (m : Int) % 128 + 128 := u8_or128_right _ (by omega) (by omega)
      go_wp2
      go_roundw
      case rel => exact ⟨j + 1, m / 128, by omega, by simp, by rw [HM.out, div_pow], vint (by omega), by rw [← HS.out]; simp [u8v]⟩
      case measure => simp [intOf]; omega
    · obtain rfl : j = 8 := by omega
      clear hm
      have hA := cellsA_size 8 (high n) (low n) hj
      have hal : Try.prog.arrayLen 85 = 9 := by kernel_rfl
      have hb1 : (sz n : Int) ≤ 9 := by omega
      have hb2 : (9 : Int) - sz n ≤ 9 := by omega
      have hb3 : (0 : Int) ≤ 9 - sz n := by omega
      have hcv := run_convert_bytes_arg (P := Try.prog) (w.alloc (.cells (cellsA 8 (high n) (low n)) 85)) 45 5 Try.underlying45 Try.underlying5 w.heap.size (9 - sz n) (9 - (9 - sz n)) (9 - (9 - sz n)) ((putL n).map Int.ofNat) (by simp [putL_length]; omega) (fun i hi => by
        rw [World.cell?_alloc_mark]
        exact putL_cell n i (by omega)) 9 Try.underlying9
      rw [bstr_nums] at hcv
      generalize cellsA 8 (high n) (low n) = A at *
      go_wp2
      go_ret
      exact ⟨rfl, (Below.refl _ _).alloc (Nat.le_refl _) _⟩
set_option maxHeartbeats 400000 in
theorem put_big (n : Nat) (w : World) (h1 : 72057594037927936 ≤ n) (h2 : n < 18446744073709551616) :
    Calls Try.prog 24 #[.int .u64 n] w fun e w' => e = .returned (.string (bstr (putL n))) ∧ Below w.heap.size w w' := by
  obtain ⟨ht0, ht1⟩ := (sz_le n)
  have hs : sz n = 9 := sz_big h1
  have hs9 : 9 ≤ sz n := by omega
  have HZ := Lib.hid hs
  clear hs
  have ht2 : ((sz n : Int) == 9) = true := by simp; omega
  have HH : Hid (high n = n / 256) := Lib.hid (by unfold high; rw [if_neg (by omega)])
  have HL : Hid (low n = n % 256) := Lib.hid (by unfold low; rw [if_neg (by omega)])
  have hhi : high n < 72057594037927936 := by rw [HH.out]; omega
  go_enter Try.func24, Try.ntmps24
  go_wp2_with (go_at_call 48; refine (size_any _ _ (by omega)).mono ?_; rintro e w' ⟨rfl, rfl⟩)
  go_loopw [0, 6] (fun v i wr => ∃ j m' : Nat, j ≤ 8 ∧ v = .int .u64 m' ∧ m' = high n / 128^j ∧ i = .int .i64 (7 - (j : Int)) ∧ wr = w.alloc (.cells (cellsA j (high n) (low n)) 85)) (fun _ i _ => (intOf i + 1).toNat)
  case atStart => exact ⟨0, high n, by omega, by rw [HH.out]; simp, by simp, rfl, by rw [cellsA_zero, HL.out]; simp⟩
  case round =>
    obtain ⟨j, m, hj, rfl, hm, rfl, rfl⟩ := hrel
    by_cases h8 : j < 8
    · have hA := cellsA_size j (high n) (low n) hj
      have hg := cellsA_get j (high n) (low n) h8
      have hset := cellsA_set j (high n) (low n) h8
      rw [← hm] at hset
      have HS := Lib.hid hset
      generalize cellsA j (high n) (low n) = A at *
      have hm1 : m < 72057594037927936 := by rw [hm]; exact Nat.lt_of_le_of_lt (Nat.div_le_self _ _) hhi
      have HM := Lib.hid hm
      clear hset hm
      have ha := and127 m (by omega)
      have ho : bits .or .u8 ((m : Int) % 128) 128 = (m : Int) % 128 + 128 := u8_or128_right _ (by omega) (by omega)
      go_wp2
      go_roundw
      case rel => exact ⟨j + 1, m / 128, by omega, by simp, by rw [HM.out, div_pow], vint (by omega), by rw [← HS.out]; simp [u8v]⟩
      case measure => simp [intOf]; omega
    · obtain rfl : j = 8 := by omega
      clear hm
      have hA := cellsA_size 8 (high n) (low n) hj
      have hal : Try.prog.arrayLen 85 = 9 := by kernel_rfl
      have hb1 : (sz n : Int) ≤ 9 := by omega
      have hb2 : (9 : Int) - sz n ≤ 9 := by omega
      have hb3 : (0 : Int) ≤ 9 - sz n := by omega
      have hcv := run_convert_bytes_arg (P := Try.prog) (w.alloc (.cells (cellsA 8 (high n) (low n)) 85)) 45 5 Try.underlying45 Try.underlying5 w.heap.size 0 9 9 ((putL n).map Int.ofNat) (by simp [putL_length, HZ.out]) (fun i hi => by
        rw [World.cell?_alloc_mark]
        have := putL_cell n i (by omega); rw [HZ.out] at this; exact this) 9 Try.underlying9
      rw [bstr_nums] at hcv
      generalize cellsA 8 (high n) (low n) = A at *
      go_wp2
      go_ret
      exact ⟨rfl, (Below.refl _ _).alloc (Nat.le_refl _) _⟩
theorem put_any (n : Nat) (w : World) (h : n < 18446744073709551616) :
    Calls Try.prog 24 #[.int .u64 n] w fun e w' => e = .returned (.string (bstr (putL n))) ∧ Below w.heap.size w w' := by
  by_cases h1 : n < 72057594037927936
  · exact put_small n w h1
  · exact put_big n w (by omega) h
end Go.Proofs.Ytocbdehcjcggeaa
