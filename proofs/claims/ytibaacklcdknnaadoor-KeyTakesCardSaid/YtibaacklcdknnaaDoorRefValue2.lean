/- What counterfoilref01.Value answers of at most eight bytes. -/
import Derived.Test.YtibaacklcdknnaaDoorProg
import Derived.Test.YtibaacklcdknnaaDoorNumFix2
namespace Go.Proofs.YtibaacklcdknnaaDoor
open Go.RowKit
set_option maxRecDepth 100000 in
set_option maxHeartbeats 1000000 in
theorem refValue_any (s : ByteArray) (w : World) (h : s.size ≤ 8) :
    Calls Tryd.prog 14 #[.string s] w fun e w' => e = .returned (.int .u64 (val 0 (bts s) : Nat)) ∧ w = w' := by
  go_enter Tryd.func14, Tryd.ntmps14
  go_wp2
  have hlt := bts_getD_lt s
  have hlen := bts_length s
  have hcell : ∀ i, (hi : i < s.size) → s[i].toNat = (bts s).getD i 0 := fun i hi => byte_at s i hi
  generalize hL : bts s = L at *
  have HL := Lib.hid hL
  have HLEN := Lib.hid hlen
  clear hlen hL
  go_loop [3, 4] (fun n i => ∃ j acc : Nat, j ≤ s.size ∧ n = .int .u64 acc ∧ i = .int .i64 j ∧ acc < 256 ^ j ∧ acc = val 0 (L.take j)) (fun _ i => s.size - (intOf i).toNat)
  case atStart => exact ⟨0, 0, by omega, rfl, rfl, by decide, by simp [val]⟩
  case round =>
    obtain ⟨j, acc, hj, rfl, rfl, hacc, hv⟩ := hrel
    by_cases hjk : j < s.size
    · have hacc2 : acc < 72057594037927936 := by
        have h1 : 256 ^ j ≤ 256 ^ 7 := Nat.pow_le_pow_right (by omega) (by omega)
        have e : (256:Nat) ^ 7 = 72057594037927936 := by decide
        omega
      have hn := val_take_succ L j (by rw [HLEN.out]; omega)
      have hl := hlt j
      have hc := hcell j (by omega)
      generalize L.getD j 0 = c at *
      have hcb := s[j].toNat_lt
      have HN := Lib.hid hn
      have HV := Lib.hid hv
      have HA := Lib.hid hacc
      clear hn hv hlt hacc hcell
      go_wp2
      go_round
      case rel => exact ⟨j + 1, acc * 256 + c, by omega, by simp; omega, by go_num, by rw [Nat.pow_succ]; have := HA.out; omega, by rw [HN.out, HV.out]⟩
      case measure => simp [intOf]; omega
    · obtain rfl : j = s.size := by omega
      have HV := Lib.hid hv
      clear hv
      go_wp2
      go_ret
      exact ⟨rint (by rw [HV.out, ← HL.out, ← bts_length, List.take_length]), rfl⟩
end Go.Proofs.YtibaacklcdknnaaDoor
