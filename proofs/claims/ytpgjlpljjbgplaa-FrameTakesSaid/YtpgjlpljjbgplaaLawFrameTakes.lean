/- The walk of FrameTakes. Conditions: the numbers fit their kinds, a text is no longer than a machine has addresses. -/
import Derived.Test.YtpgjlpljjbgplaaLawFrameBack
import Derived.Test.YtpgjlpljjbgplaaFrameRefSpec
namespace Go.Proofs.Ytpgjlpljjbgplaa
open Go.RowKit
set_option maxRecDepth 100000 in
set_option maxHeartbeats 4000000 in
theorem frameTakes_long (p1 p2 salt : Int) (s : ByteArray) (w : World) (hs : 8192 < s.size) :
    Calls Try.prog 6 #[.agg #[.int .u32 p1, .int .u32 p2], .int .u64 salt, .string s] w fun e w' => e = .returned (.bool true) ∧ Below w.heap.size w w' := by
  go_enter Try.func6, Try.ntmps6
  go_wp2_with fail
  refine (works_any _).mono ?_
  rintro e w1 ⟨rfl, hb1⟩
  go_wp2
  go_ret
  exact ⟨rfl, bja _ (Below.refl _ _) hb1⟩
set_option maxRecDepth 100000 in
set_option maxHeartbeats 4000000 in
theorem frameTakes_core (p1 p2 salt a1 a2 q1 q2 x : Int) (s a3 : ByteArray) (w : World) (hs : s.size ≤ 8192)
    (H1 : Hid (∀ w, Calls Try.prog 14 #[.agg #[.int .u32 p1, .int .u32 p2], .int .u64 salt, .string s] w fun e w' => e = .returned (.tuple #[.agg #[.int .i64 a1, .int .i64 a2, .string a3], .agg #[.int .u32 q1, .int .u32 q2], .int .i64 x]) ∧ Below w.heap.size w w'))
    (H2 : Hid (∀ w, Calls Try.prog 23 #[.agg #[.int .u32 p1, .int .u32 p2], .int .u64 salt, .string s] w fun e w' => e = .returned (.tuple #[.agg #[.int .i64 a1, .int .i64 a2, .string a3], .agg #[.int .u32 q1, .int .u32 q2], .int .i64 x]) ∧ Below w.heap.size w w')) :
    Calls Try.prog 6 #[.agg #[.int .u32 p1, .int .u32 p2], .int .u64 salt, .string s] w fun e w' => e = .returned (.bool true) ∧ Below w.heap.size w w' := by
  go_enter Try.func6, Try.ntmps6
  go_wp2_with fail
  refine (works_any _).mono ?_
  rintro e w1 ⟨rfl, hb1⟩
  have k1 := blk_at hb1
  have b1 := bja _ (Below.refl _ _) hb1
  clear hb1
  obtain ⟨c0, c1⟩ := pair_at k1
  go_wp2_with fail
  refine (H1.out _).mono ?_
  rintro e w2 ⟨rfl, hb2⟩
  replace k1 := ((blk_step k1 hb2).alloc (.cells #[.int .i64 a1, .int .i64 a2, .string a3] 37)).alloc (.cells #[.int .u32 q1, .int .u32 q2] 33)
  have k2 := (blk_new w2 w2.heap.size 37 #[.int .i64 a1, .int .i64 a2, .string a3] rfl).alloc (.cells #[.int .u32 q1, .int .u32 q2] 33)
  have k3 := blk_new (w2.alloc (.cells #[.int .i64 a1, .int .i64 a2, .string a3] 37)) (w2.heap.size + 1) 33 #[.int .u32 q1, .int .u32 q2] (by simp)
  replace b1 := bj b1 hb2
  replace b1 := (b1.alloc b1.size (.cells #[.int .i64 a1, .int .i64 a2, .string a3] 37)).alloc (b1.alloc b1.size (.cells #[.int .i64 a1, .int .i64 a2, .string a3] 37)).size (.cells #[.int .u32 q1, .int .u32 q2] 33)
  clear hb2 c0 c1
  obtain ⟨c0, c1⟩ := pair_at k1
  go_wp2_with fail
  refine (H2.out _).mono ?_
  rintro e w3 ⟨rfl, hb3⟩
  replace k2 := ((blk_step k2 hb3).alloc (.cells #[.int .i64 a1, .int .i64 a2, .string a3] 37)).alloc (.cells #[.int .u32 q1, .int .u32 q2] 33)
  replace k3 := ((blk_step k3 hb3).alloc (.cells #[.int .i64 a1, .int .i64 a2, .string a3] 37)).alloc (.cells #[.int .u32 q1, .int .u32 q2] 33)
  replace b1 := bj b1 hb3
  clear hb3 c0 c1 k1
  obtain ⟨d0, d1, d2⟩ := trip_at k2
  obtain ⟨e0, e1⟩ := pair_at k3
  clear k2 k3
  go_wp2
  go_ret
  exact ⟨rfl, (b1.alloc b1.size _).alloc (b1.alloc b1.size _).size _⟩
theorem tf_form (p : Int × Int) (salt : Nat) (s : ByteArray) : ∃ (a1 a2 q1 q2 x : Int) (a3 : ByteArray), tfRet p salt s = .tuple #[.agg #[.int .i64 a1, .int .i64 a2, .string a3], .agg #[.int .u32 q1, .int .u32 q2], .int .i64 x] := by
  unfold tfRet
  split
  · exact ⟨_, _, _, _, _, _, rfl⟩
  · exact ⟨_, _, _, _, _, _, rfl⟩
theorem frameTakes_walk (a0 b0 a1 : Int) (a2 : ByteArray) (w0 : (Lit.int .u32 a0).wf = true) (u0 : (Lit.int .u32 b0).wf = true) (w1 : (Lit.int .u64 a1).wf = true) (w2 : a2.size ≤ 140737488351232) (w : World) :
    Calls Try.prog 6 #[.agg #[.int .u32 a0, .int .u32 b0], .int .u64 a1, .string a2] w fun e w' => e = .returned (.bool true) ∧ Below w.heap.size w w' := by
  have hp := fit_wf w0 u0
  have h1 := bounds_u64 w1
  clear w0 u0 w1
  by_cases hs : 8192 < a2.size
  · exact frameTakes_long a0 b0 a1 a2 w hs
  · obtain ⟨salt, rfl⟩ := Int.eq_ofNat_of_zero_le h1.1
    have t1 := fun w => take_any a0 b0 salt a2 w hp w2
    have t2 := fun w => rtake_any a0 b0 salt a2 w hp (by omega) w2
    obtain ⟨x1, x2, q1, q2, x, x3, e⟩ := tf_form (a0, b0) salt a2
    rw [e] at t1 t2
    exact frameTakes_core a0 b0 salt x1 x2 q1 q2 x a2 x3 w (by omega) (Lib.hid t1) (Lib.hid t2)
end Go.Proofs.Ytpgjlpljjbgplaa
