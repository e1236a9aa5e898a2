/- The walk of ValueBack. Conditions: the numbers fit their kinds; the laid variables hold what they should. -/
import Derived.Test.YthacdfdnbhfooaaDoorLawValChecks
namespace Go.Proofs.YthacdfdnbhfooaaDoor
open Go.RowKit
set_option linter.unusedVariables false
theorem v1_alloc {w W : World} {x : Val} (h : V1 w x W) (o : Obj) : V1 w x (W.alloc o) := v1_below h ((Below.refl _ _).alloc (Nat.le_refl _) _)
theorem read_back (s : ByteArray) (W : World) (hG : Gl W) (hl : s.size ≤ 100000) {v : Val} {e : Int} (h : readZ (bts s) = (v, e)) : Calls Tryd.prog 4 #[.string s] W fun en w' => en = .returned (.tuple #[.agg #[.int .u8 v.1, .int .i64 v.2.1, .string v.2.2], .int .i64 e]) ∧ Below W.heap.size W w' := by
  have hr := read_any s W hG hl
  rw [h] at hr
  exact hr
theorem litL_len {x : Val} (h : chk x = 0) (hf : Fits x) : (bstr (litL x)).size ≤ 100000 := by
  obtain ⟨k1, k2, k3, k4⟩ := chk_of h
  rw [bstr_size]
  unfold litL
  rw [if_neg (by rw [h]; simp)]
  split
  · simp [nulL]
  · split
    · have := Lib.itoa_length_le x.2.1 hf.2.2.1 hf.2.2.2
      unfold itoL
      rw [List.length_map]; omega
    · have hl := bts_length x.2.2
      split
      · have := (dqL_le (bts x.2.2)).2
        simp; omega
      · have := hexL_len (bts x.2.2)
        simp; omega
end Go.Proofs.YthacdfdnbhfooaaDoor
