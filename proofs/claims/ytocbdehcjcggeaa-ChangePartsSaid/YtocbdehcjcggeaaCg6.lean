/- Layer 22: rowMayBe. Conditions: those of each lemma. -/
import Derived.Test.YtocbdehcjcggeaaCg5
import Derived.Test.YtocbdehcjcggeaaRec3
namespace Go.Proofs.Ytocbdehcjcggeaa
open Go.RowKit Go
set_option linter.unusedVariables false
set_option linter.unusedSimpArgs false
/-- a row that may be -/
def rowMay (l : List Val) : Bool := decide (0 < sizeZ l) && decide (sizeZ l ≤ 4000)
set_option maxRecDepth 100000 in
set_option maxHeartbeats 4000000 in
theorem rowMay_any (A : Option Addr) (l : List Val) (n c : Nat) (w : World) (hV : Vals w w.heap.size A l) (hn : n = l.length) (hf : ∀ x ∈ l, Fits x) :
    Calls Try.prog 64 #[.slice A n c] w fun e w' => e = .returned (.bool (rowMay l)) ∧ Below w.heap.size w w' := by
  have HZ := Lib.hid (size_row A l n c w hV hn hf)
  clear hV hn hf
  unfold rowMay
  generalize sizeZ l = z at *
  by_cases h0 : 0 < z
  · by_cases h1 : z ≤ 4000
    all_goals
      go_enter Try.func64, Try.ntmps64
      go_wp2_with fail
      refine (HZ.out).mono ?_
      rintro e w1 ⟨rfl, hb1⟩
      go_wp2
      go_ret
      exact ⟨by simp [h0, h1], hb1⟩
  · go_enter Try.func64, Try.ntmps64
    go_wp2_with fail
    refine (HZ.out).mono ?_
    rintro e w1 ⟨rfl, hb1⟩
    go_wp2
    go_ret
    exact ⟨by simp; omega, hb1⟩
end Go.Proofs.Ytocbdehcjcggeaa
