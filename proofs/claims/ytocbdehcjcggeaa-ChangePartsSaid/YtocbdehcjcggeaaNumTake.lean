/- What the functions of package number answer, and that they leave memory as it was. Conditions: the numbers fit their kinds, a text is no longer than a machine has addresses. -/
import Derived.Test.YtocbdehcjcggeaaProg
import Derived.Test.YtocbdehcjcggeaaNumSize
namespace Go.Proofs.Ytocbdehcjcggeaa
open Go.RowKit
theorem or_low (a c i : Nat) (h : c < 2 ^ i) : a * 2 ^ i ||| c = a * 2 ^ i + c := by
  rw [Nat.mul_comm, ← Nat.two_pow_add_eq_or_of_lt h]
theorem or7 (a c : Nat) (h : c < 128) (ha : a < 72057594037927936) : bits .or .u64 ((a : Int) * 128) (c : Int) = (a : Int) * 128 + c := by
  have := bits_or_u64_nat (a * 128) c (by omega) (by omega)
  rw [or_low a c 7 h] at this
  simpa using this
theorem or8 (a c : Nat) (h : c < 256) (ha : a < 72057594037927936) : bits .or .u64 ((a : Int) * 256) (c : Int) = (a : Int) * 256 + c := by
  have := bits_or_u64_nat (a * 256) c (by omega) (by omega)
  rw [or_low a c 8 h] at this
  simpa using this
theorem takeS_none {L : List Nat} (h : takeF 0 0 L = none) : takeS L = (0, 0, 10) := by unfold takeS; rw [h]
theorem takeS_ok {L : List Nat} {n k : Nat} (h : takeF 0 0 L = some (n, k)) (hs : sz n = k) : takeS L = (n, k, 0) := by unfold takeS; rw [h]; simp [hs]
theorem takeS_bad {L : List Nat} {n k : Nat} (h : takeF 0 0 L = some (n, k)) (hs : sz n ≠ k) : takeS L = (0, 0, 11) := by unfold takeS; rw [h]; simp [hs]
def Took (L : List Nat) (w : World) (e : Ending) (w' : World) : Prop := e = .returned (.tuple #[.int .u64 (takeS L).1, .int .i64 (takeS L).2.1, .int .i64 (takeS L).2.2]) ∧ Below w.heap.size w w'
theorem took_mk {L : List Nat} {w w' : World} {n k e : Nat} (h : takeS L = (n, k, e)) (hb : Below w.heap.size w w') : Took L w (.returned (.tuple #[.int .u64 n, .int .i64 k, .int .i64 e])) w' := by
  unfold Took; rw [h]; exact ⟨rfl, hb⟩
set_option maxRecDepth 100000 in
set_option maxHeartbeats 1000000 in
theorem take_any (s : ByteArray) (w : World) (hs : s.size ≤ maxLen) :
    Calls Try.prog 54 #[.string s] w (Took (bts s) w) := by
  unfold maxLen at hs
  have hcv := fun w => run_bytes_of_string (P := Try.prog) w 9 45 5 s Try.underlying9 Try.underlying45 Try.underlying5
  go_enter Try.func54, Try.ntmps54
  go_wp2
  go_step3
  go_wp2
  go_step3
  go_wp2
  clear hcv
  have hrow := bytesRow_bts s (grownCap w s.size 0 5)
  generalize grownCap w s.size 0 5 = cap at *
  generalize bytesRow s cap = A at *
  have hlt := bts_getD_lt s
  have hlen := bts_length s
  generalize bts s = L at *
  have HLEN := Lib.hid hlen
  clear hlen
  go_loop [2, 3, 4, 10] (fun n t e i => ∃ k acc : Nat, k ≤ s.size ∧ k ≤ 8 ∧ t = .int .i64 0 ∧ e = .int .i64 10 ∧ n = .int .u64 acc ∧ i = .int .i64 k ∧ acc < 128 ^ k ∧ takeF 0 0 L = takeF k acc (L.drop k)) (fun _ _ _ i => s.size - (intOf i).toNat)
  case atStart => exact ⟨0, 0, by omega, by omega, rfl, rfl, rfl, rfl, by decide, by simp⟩
  case round =>
    obtain ⟨k, acc, hk, hk8, rfl, rfl, rfl, rfl, hacc, htk⟩ := hrel
    have hacc2 : acc < 72057594037927936 := by
      have h1 : 128 ^ k ≤ 128 ^ 8 := Nat.pow_le_pow_right (by omega) hk8
      have e : (128:Nat) ^ 8 = 72057594037927936 := by decide
      omega
    by_cases hlt1 : k < s.size
    · have hc : (w.alloc (.cells A 5 (A.size, A.size + 1))).cell? ⟨w.heap.size, k, none⟩ = some (.int .u8 ((L.getD k 0 : Nat) : Int)) := by rw [World.cell?_alloc_mark]; exact hrow k hlt1
      have hlk := hlt k
      rw [takeF_drop _ _ _ _ (by rw [HLEN.out]; exact hlt1)] at htk
      generalize L.getD k 0 = c at *
      have HTK := Lib.hid htk
      have HACC := Lib.hid hacc
      clear htk hrow hlt hacc
      by_cases h8 : k = 8
      · have h8' : ((k : Int) == 8) = true := by simp; omega
        have ho := or8 acc c hlk hacc2
        have hr : takeF 0 0 L = some (acc * 256 + c, 9) := by rw [HTK.out, if_pos h8]
        clear h8
        generalize hN : acc * 256 + c = N at *
        have hN2 : (acc : Int) * 256 + c = (N : Int) := by omega
        have hN3 : N < 18446744073709551616 := by omega
        by_cases hz : sz N = 9
        · have HT := Lib.hid (takeS_ok hr hz)
          have hz2 : ((sz N : Int) != 9) = false := by simp; omega
          clear hr hN hz
          go_wp2_with (go_at_call 48; refine (size_any _ _ hN3).mono ?_; rintro e w' ⟨rfl, rfl⟩)
          try rw [Exit.noGoto_ret]
          go_ret3
          exact took_mk HT.out (((Below.refl _ _).alloc (Nat.le_refl _) _).drew)
        · have HT := Lib.hid (takeS_bad hr hz)
          have hz2 : ((sz N : Int) != 9) = true := by simp; omega
          clear hr hN hz
          go_wp2_with (go_at_call 48; refine (size_any _ _ hN3).mono ?_; rintro e w' ⟨rfl, rfl⟩)
          try rw [Exit.noGoto_ret]
          go_ret3
          exact took_mk HT.out (((Below.refl _ _).alloc (Nat.le_refl _) _).drew)
      · have h8' : ((k : Int) == 8) = false := by simp; omega
        have ha : bits .and .u8 (c : Int) 127 = (c : Int) % 128 := by
          have := u8_and_nat c 127 hlk (by omega)
          rw [show ((127 : Nat) : Int) = 127 from rfl] at this
          rw [this, show (127 : Nat) = 2 ^ 7 - 1 from rfl, Nat.and_two_pow_sub_one_eq_mod]; simp
        by_cases hc7 : c < 128
        · have ho := or7 acc c hc7 hacc2
          have hr : takeF 0 0 L = some (acc * 128 + c, k + 1) := by rw [HTK.out, if_neg h8, if_pos hc7]
          clear h8
          generalize hN : acc * 128 + c = N at *
          have hN2 : (acc : Int) * 128 + c = (N : Int) := by omega
          have hN3 : N < 18446744073709551616 := by omega
          by_cases hz : sz N = k + 1
          · have HT := Lib.hid (takeS_ok hr hz)
            have hz2 : ((sz N : Int) != (k : Int) + 1) = false := by simp; omega
            clear hr hN hz
            go_wp2_with (go_at_call 48; refine (size_any _ _ hN3).mono ?_; rintro e w' ⟨rfl, rfl⟩)
            try rw [Exit.noGoto_ret]
            go_ret3
            exact took_mk HT.out (((Below.refl _ _).alloc (Nat.le_refl _) _).drew)
          · have HT := Lib.hid (takeS_bad hr hz)
            have hz2 : ((sz N : Int) != (k : Int) + 1) = true := by simp; omega
            clear hr hN hz
            go_wp2_with (go_at_call 48; refine (size_any _ _ hN3).mono ?_; rintro e w' ⟨rfl, rfl⟩)
            try rw [Exit.noGoto_ret]
            go_ret3
            exact took_mk HT.out (((Below.refl _ _).alloc (Nat.le_refl _) _).drew)
        · have ho : bits .or .u64 ((acc : Int) * 128) ((c : Int) % 128) = (acc : Int) * 128 + (c : Int) % 128 := by
            have := or7 acc (c % 128) (by omega) hacc2
            simpa using this
          have hr : takeF 0 0 L = takeF (k + 1) (acc * 128 + c % 128) (L.drop (k + 1)) := by rw [HTK.out, if_neg h8, if_neg hc7]
          have HR := Lib.hid hr
          clear hr
          go_wp2
          go_round
          case rel => exact ⟨k + 1, acc * 128 + c % 128, by omega, by omega, rfl, rfl, by simp, by go_num, by rw [Nat.pow_succ]; have := HACC.out; omega, HR.out⟩
          case measure => simp [intOf]; omega
    · have hT := takeS_none (L := L) (by rw [htk]; exact takeF_end _ _ _ _ (by rw [HLEN.out]; omega))
      have HT := Lib.hid hT
      clear htk hT hrow hlt hacc
      go_wp2
      try rw [Exit.noGoto_ret]
      go_ret3
      exact took_mk HT.out (((Below.refl _ _).alloc (Nat.le_refl _) _).drew)
end Go.Proofs.Ytocbdehcjcggeaa
