/- The walk of NumberPuts. Condition: the number fits its kind. -/
import Derived.Test.YtgpghghoagocjaaProg
import Derived.Test.YtgpghghoagocjaaRefPut
import Derived.Test.YtgpghghoagocjaaNumPut
import Derived.OpenShut
namespace Go.Proofs.Ytgpghghoagocjaa
open Go.RowKit
set_option maxRecDepth 100000 in
set_option maxHeartbeats 1000000 in
theorem numberPuts_nat (n : Nat) (w : World) (hn : n < 18446744073709551616) :
    Calls Try.prog 4 #[.int .u64 n] w fun e w' => e = .returned (.bool true) ∧ Below w.heap.size w w' := by
  have hl : (bstr (putL n)).size = sz n := by rw [bstr_size, putL_length]
  have HL := Lib.hid hl
  clear hl
  obtain ⟨h1, h9⟩ := sz_le n
  go_enter Try.func4, Try.ntmps4
  go_wp2_with fail
  refine (refPut_any _ _ hn).mono ?_
  rintro e w1 ⟨rfl, hb1⟩
  go_wp2_with fail
  refine (put_any _ _ hn).mono ?_
  rintro e w2 ⟨rfl, hb2⟩
  go_wp2_with fail
  refine (size_any _ _ hn).mono ?_
  rintro e w3 ⟨rfl, rfl⟩
  go_wp2
  go_ret
  exact ⟨rbool (by rw [HL.out]; simp), hb1.trans (hb2.mono hb1.size)⟩
theorem numberPuts_walk (a0 : Int) (w0 : (Lit.int .u64 a0).wf = true) (w : World) :
    Calls Try.prog 4 #[.int .u64 a0] w fun e w' => e = .returned (.bool true) ∧ Below w.heap.size w w' := by
  have h0 := bounds_u64 w0
  obtain ⟨n0, rfl⟩ := Int.eq_ofNat_of_zero_le h0.1
  exact numberPuts_nat n0 w (by omega)
end Go.Proofs.Ytgpghghoagocjaa
