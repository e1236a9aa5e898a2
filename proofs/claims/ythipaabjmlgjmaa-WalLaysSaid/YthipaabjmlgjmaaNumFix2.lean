/- What number.Four and number.TakeEight answer (in a translation that holds only these of package number). Conditions: the numbers fit their kinds, a text is no longer than a machine has addresses. -/
import Derived.Test.YthipaabjmlgjmaaProg
import Derived.Test.YthipaabjmlgjmaaNumMath
import Derived.WalkKit
import Derived.WalkSpells
import Derived.WalkLawsBesides
import Derived.Lib.Hide
namespace Go.Proofs.Ythipaabjmlgjmaa
open Go.RowKit
theorem or_low (a c i : Nat) (h : c < 2 ^ i) : a * 2 ^ i ||| c = a * 2 ^ i + c := by
  rw [Nat.mul_comm, ← Nat.two_pow_add_eq_or_of_lt h]
theorem or7 (a c : Nat) (h : c < 128) (ha : a < 72057594037927936) : bits .or .u64 ((a : Int) * 128) (c : Int) = (a : Int) * 128 + c := by
  have := bits_or_u64_nat (a * 128) c (by omega) (by omega)
  rw [or_low a c 7 h] at this
  simpa using this
theorem or8 (a c : Nat) (h : c < 256) (ha : a < 72057594037927936) : bits .or .u64 ((a : Int) * 256) (c : Int) = (a : Int) * 256 + c := by
  have := bits_or_u64_nat (a * 256) c (by omega) (by omega)
  rw [or_low a c 8 h] at this
  simpa using this
set_option maxRecDepth 100000 in
set_option maxHeartbeats 1000000 in
theorem four_nat (n : Nat) (w : World) (h : n < 4294967296) :
    Calls Try.prog 70 #[.int .u32 n] w fun e w' => e = .returned (.string (bstr (fourL n))) ∧ Below w.heap.size w w' := by
  have hcv := run_convert_bytes_arg (P := Try.prog) (w.alloc (.cells #[Value.int IntKind.u8 (↑n / 16777216), Value.int IntKind.u8 (↑n / 65536 % 256), Value.int IntKind.u8 (↑n / 256 % 256), Value.int IntKind.u8 (↑n % 256)] 5)) 43 5 Try.underlying43 Try.underlying5 w.heap.size 0 4 4 ((fourL n).map Int.ofNat) rfl (fun i hi => by
    rw [World.cell?_alloc_mark]
    have e1 : n / 16777216 % 256 = n / 16777216 := by omega
    obtain rfl | rfl | rfl | rfl : i = 0 ∨ i = 1 ∨ i = 2 ∨ i = 3 := by omega
    all_goals simp [fourL, e1]) 9 Try.underlying9
  rw [bstr_nums] at hcv
  go_enter Try.func70, Try.ntmps70
  go_wp2
  go_ret
  exact ⟨rfl, (Below.refl _ _).alloc (Nat.le_refl _) _⟩
theorem four_any (z : Int) (w : World) (h0 : 0 ≤ z) (h : z < 4294967296) :
    Calls Try.prog 70 #[.int .u32 z] w fun e w' => e = .returned (.string (bstr (fourL z.toNat))) ∧ Below w.heap.size w w' := by
  obtain ⟨n, rfl⟩ := Int.eq_ofNat_of_zero_le h0
  exact four_nat n w (by omega)
set_option maxRecDepth 100000 in
set_option maxHeartbeats 1000000 in
theorem eight_any (n : Nat) (w : World) (h : n < 18446744073709551616) :
    Calls Try.prog 69 #[.int .u64 n] w fun e w' => e = .returned (.string (bstr (eightL n))) ∧ Below w.heap.size w w' := by
  go_enter Try.func69, Try.ntmps69
  go_wp2_with fail
  refine (four_any _ _ (by omega) (by omega)).mono ?_
  rintro e w1 ⟨rfl, hb1⟩
  go_wp2_with fail
  refine (four_any _ _ (by omega) (by omega)).mono ?_
  rintro e w2 ⟨rfl, hb2⟩
  go_wp2
  go_ret
  refine ⟨?_, hb1.trans (hb2.mono hb1.size)⟩
  rw [bstr_append]
  rfl
def Fixd (s : ByteArray) (k : Nat) (w : World) (e : Ending) (w' : World) : Prop := e = .returned (.tuple #[.int .u64 (fixedS (bts s) k).1, .int .i64 (fixedS (bts s) k).2]) ∧ w = w'
theorem fixd_mk {s : ByteArray} {k : Nat} {w : World} {n e : Nat} (h : fixedS (bts s) k = (n, e)) : Fixd s k w (.returned (.tuple #[.int .u64 n, .int .i64 e])) w := by
  unfold Fixd; rw [h]; exact ⟨rfl, rfl⟩
set_option maxRecDepth 100000 in
set_option maxHeartbeats 1000000 in
theorem fixed_any (s : ByteArray) (k : Nat) (w : World) (_hs : s.size ≤ maxLen) (h : k ≤ 8) :
    Calls Try.prog 92 #[.string s, .int .i64 k] w (Fixd s k w) := by
  by_cases hk : s.size < k
  · have H := Lib.hid (show fixedS (bts s) k = (0, 10) by unfold fixedS; rw [if_pos (by rw [bts_length]; exact hk)])
    go_enter Try.func92, Try.ntmps92
    go_wp2
    go_ret2
    exact fixd_mk H.out
  · have H := Lib.hid (show fixedS (bts s) k = (val 0 ((bts s).take k), 0) by unfold fixedS; rw [if_neg (by rw [bts_length]; exact hk)])
    go_enter Try.func92, Try.ntmps92
    go_wp2
    have hlt := bts_getD_lt s
    have hlen := bts_length s
    have hcell : ∀ i, (hi : i < s.size) → s[i].toNat = (bts s).getD i 0 := fun i hi => byte_at s i hi
    generalize hL : bts s = L at *
    have HL := Lib.hid hL
    have HLEN := Lib.hid hlen
    clear hlen hL
    go_loop [4, 12] (fun n i => ∃ j acc : Nat, j ≤ k ∧ n = .int .u64 acc ∧ i = .int .i64 j ∧ acc < 256 ^ j ∧ acc = val 0 (L.take j)) (fun _ i => k - (intOf i).toNat)
    case atStart => exact ⟨0, 0, by omega, rfl, rfl, by decide, by simp [val]⟩
    case round =>
      obtain ⟨j, acc, hj, rfl, rfl, hacc, hv⟩ := hrel
      by_cases hjk : j < k
      · have hacc2 : acc < 72057594037927936 := by
          have h1 : 256 ^ j ≤ 256 ^ 7 := Nat.pow_le_pow_right (by omega) (by omega)
          have e : (256:Nat) ^ 7 = 72057594037927936 := by decide
          omega
        have hn := val_take_succ L j (by rw [HLEN.out]; omega)
        have hl := hlt j
        have hc := hcell j (by omega)
        generalize L.getD j 0 = c at *
        have hcb := s[j].toNat_lt
        have HN := Lib.hid hn
        have HV := Lib.hid hv
        have HA := Lib.hid hacc
        have ho := or8 acc _ hl hacc2
        clear hn hv hlt hacc hcell
        go_wp2
        go_round
        case rel => exact ⟨j + 1, acc * 256 + c, by omega, by simp, by go_num, by rw [Nat.pow_succ]; have := HA.out; omega, by rw [HN.out, HV.out]⟩
        case measure => simp [intOf]; omega
      · obtain rfl : j = k := by omega
        have HV := Lib.hid hv
        clear hv
        go_wp2
        go_ret2
        have h2 := H.out
        rw [HV.out]
        rw [← HL.out] at h2 ⊢
        exact fixd_mk h2
theorem vtup {k1 k2 : IntKind} {a b c d : Int} (h1 : a = b) (h2 : c = d) : Ending.returned (.tuple #[.int k1 a, .int k2 c]) = .returned (.tuple #[.int k1 b, .int k2 d]) := by rw [h1, h2]
theorem val_lt (acc : Nat) (l : List Nat) (h : ∀ x ∈ l, x < 256) : val acc l < (acc + 1) * 256 ^ l.length := by
  induction l generalizing acc with
  | nil => simp [val]
  | cons c l ih =>
    rw [val_cons]
    have h1 := ih (acc * 256 + c) (fun x hx => h x (by simp [hx]))
    have h2 := h c (by simp)
    have h3 : (acc * 256 + c + 1) * 256 ^ l.length ≤ (acc + 1) * 256 ^ (l.length + 1) := by
      rw [Nat.pow_succ, Nat.mul_comm (256 ^ l.length) 256, ← Nat.mul_assoc]
      exact Nat.mul_le_mul_right _ (by omega)
    simp only [List.length_cons]; omega
theorem fixedS_lt (s : ByteArray) (k : Nat) : (fixedS (bts s) k).1 < 256 ^ k := by
  unfold fixedS
  split
  · exact Nat.pow_pos (by omega)
  · have := val_lt 0 ((bts s).take k) (fun x hx => bts_lt s x (List.mem_of_mem_take hx))
    rw [List.length_take, Nat.min_eq_left (by omega)] at this
    simpa using this
set_option maxRecDepth 100000 in
set_option maxHeartbeats 1000000 in
theorem takeFour_any (s : ByteArray) (w : World) (hs : s.size ≤ maxLen) :
    Calls Try.prog 81 #[.string s] w fun e w' => e = .returned (.tuple #[.int .u32 (fixedS (bts s) 4).1, .int .i64 (fixedS (bts s) 4).2]) ∧ w = w' := by
  have hlt := fixedS_lt s 4
  go_enter Try.func81, Try.ntmps81
  go_wp2_with fail
  refine (fixed_any s 4 _ hs (by omega)).mono ?_
  rintro e w1 ⟨rfl, rfl⟩
  generalize hp : fixedS (bts s) 4 = p at *
  have HP := Lib.hid hp
  clear hp
  obtain ⟨a, b⟩ := p
  have hlt2 : a < 4294967296 := hlt
  clear hlt
  go_wp2
  go_ret2
  exact ⟨by rw [HP.out]; rfl, rfl⟩
set_option maxRecDepth 100000 in
set_option maxHeartbeats 1000000 in
theorem takeEight_any (s : ByteArray) (w : World) (hs : s.size ≤ maxLen) :
    Calls Try.prog 80 #[.string s] w (Fixd s 8 w) := by
  go_enter Try.func80, Try.ntmps80
  go_wp2_with fail
  refine (fixed_any s 8 _ hs (by omega)).mono ?_
  rintro e w1 ⟨rfl, rfl⟩
  go_wp2
  go_ret2
  exact ⟨rfl, rfl⟩
theorem eight_int (z : Int) (w : World) (h0 : 0 ≤ z) (h : z < 18446744073709551616) :
    Calls Try.prog 69 #[.int .u64 z] w fun e w' => e = .returned (.string (bstr (eightL z.toNat))) ∧ Below w.heap.size w w' := by
  obtain ⟨n, rfl⟩ := Int.eq_ofNat_of_zero_le h0
  exact eight_any n w (by omega)
end Go.Proofs.Ythipaabjmlgjmaa
