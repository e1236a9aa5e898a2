/- eval's wide numbers as values; eval.reckon in general. Conditions: those of each lemma. -/
import Derived.Test.YtkgpcodccpckeaaEv15
namespace Go.Proofs.Ytkgpcodccpckeaa
open Go.RowKit
set_option linter.unusedVariables false
set_option linter.unusedSimpArgs false
/-- a whole number's value, or that it is none -/
def resZ (x : Int) : Val × Int := if -9223372036854775808 ≤ x ∧ x ≤ 9223372036854775807 then ((1, x, ⟨#[]⟩), 0) else ((0, 0, ⟨#[]⟩), 152)
theorem wide_in {x : Int} (h : -9223372036854775808 ≤ x ∧ x ≤ 9223372036854775807) : IntKind.i64.wrap (wLo x) = x := by
  rw [IntKind.wrap_i64]; unfold wLo; omega
theorem wide_out {x : Int} (hb : -170141183460469231731687303715884105728 ≤ x ∧ x ≤ 170141183460469231731687303715884105727) (h : ¬ (-9223372036854775808 ≤ x ∧ x ≤ 9223372036854775807)) : -9223372036854775808 ≤ IntKind.i64.wrap (wLo x) ∧ IntKind.i64.wrap (wLo x) ≤ 9223372036854775807 ∧ wHi x ≠ wHi (IntKind.i64.wrap (wLo x)) := by
  rw [IntKind.wrap_i64]; unfold wHi wLo; omega
theorem beq_noI {a b : Int} (h : a ≠ b) : (a == b) = false := by simp [h]
set_option maxRecDepth 100000 in
set_option maxHeartbeats 4000000 in
theorem value_in (n : Int) (hn : -9223372036854775808 ≤ n ∧ n ≤ 9223372036854775807) (w : World) : Calls Try.prog 66 #[wdV (wHi n) (wLo n)] w fun e w' => e = .returned (.tuple #[.agg #[.int .u8 1, .int .i64 n, .string ⟨#[]⟩], .int .i64 0]) ∧ Below w.heap.size w w' := by
  have hw := wide_in hn
  have HW := Lib.hid (widened_any n hn.1 hn.2)
  clear hn
  obtain ⟨H, hH⟩ : ∃ H, wHi n = H := ⟨_, rfl⟩
  obtain ⟨L, hL⟩ : ∃ L, wLo n = L := ⟨_, rfl⟩
  rw [hL] at hw
  rw [hH, hL] at HW
  rw [hH, hL]
  clear hH hL
  have HZ0 := blk_new (w.alloc (.cells #[.int .u64 H, .int .u64 L] 87)) (w.heap.size + 1) 23 #[.int .u8 0, .int .i64 0, .string ⟨#[]⟩] (by simp)
  have HB0 : Below w.heap.size w ((w.alloc (.cells #[.int .u64 H, .int .u64 L] 87)).alloc (.cells #[.int .u8 0, .int .i64 0, .string ⟨#[]⟩] 23)) := bj one_alloc one_alloc
  have HP0 := ((Blk.new w 87 #[.int .u64 H, .int .u64 L]).alloc (.cells #[.int .u8 0, .int .i64 0, .string ⟨#[]⟩] 23)).drew
  obtain ⟨p0, p1⟩ := pair_at HP0
  go_enter Try.func66, Try.ntmps66
  go_wp2_with fail
  go_region_with (go_at_call 64; (refine (HW.out _).mono ?_); rintro e w3 ⟨rfl, hb3⟩; obtain ⟨p0, p1⟩ := pair_at (blk_step HP0 hb3))
  all_goals
    have hz := blk_step HZ0.drew hb3
    obtain ⟨z0, z1, z2, f0, f1, f2⟩ := cell3 hz
    have hB := bj HB0.drew hb3
    go_wp2_with fail
    refine (integer_any _ _).mono ?_
    rintro e w4 ⟨rfl, hb4⟩
    have hz4 := blk_step hz hb4
    have hB4 := bj hB hb4
    obtain ⟨z0, z1, z2, f0, f1, f2⟩ := cell3 hz4
    clear hb3 hb4 hz hB
    go_wp2
    obtain ⟨e0, e1, e2, _, _, _⟩ := cell3 (blk3_set hz4 (.int .u8 1) (.int .i64 n) (.string ⟨#[]⟩))
    exact bodyPost_ret (v := .tuple #[.agg #[.int .u8 1, .int .i64 n, .string ⟨#[]⟩], .int .i64 0]) (by simp [results, Try.results66, go_sem, e0, e1, e2]) rfl ⟨rfl, ((hB4.setCell (Nat.le_succ _) _).setCell (Nat.le_succ _) _).setCell (Nat.le_succ _) _⟩
set_option maxRecDepth 100000 in
set_option maxHeartbeats 4000000 in
theorem value_out (x : Int) (hb : -170141183460469231731687303715884105728 ≤ x ∧ x ≤ 170141183460469231731687303715884105727) (hn : ¬ (-9223372036854775808 ≤ x ∧ x ≤ 9223372036854775807)) (w : World) : Calls Try.prog 66 #[wdV (wHi x) (wLo x)] w fun e w' => e = .returned (.tuple #[.agg #[.int .u8 0, .int .i64 0, .string ⟨#[]⟩], .int .i64 152]) ∧ Below w.heap.size w w' := by
  obtain ⟨b0, b1, b2⟩ := wide_out hb hn
  have HW := Lib.hid (widened_any _ b0 b1)
  obtain ⟨n, hw⟩ : ∃ n, IntKind.i64.wrap (wLo x) = n := ⟨_, rfl⟩
  rw [hw] at HW b2
  clear hn hb b0 b1
  obtain ⟨H, hH⟩ : ∃ H, wHi x = H := ⟨_, rfl⟩
  obtain ⟨L, hL⟩ : ∃ L, wLo x = L := ⟨_, rfl⟩
  obtain ⟨H2, hH2⟩ : ∃ H2, wHi n = H2 := ⟨_, rfl⟩
  obtain ⟨L2, hL2⟩ : ∃ L2, wLo n = L2 := ⟨_, rfl⟩
  rw [hL] at hw
  rw [hH, hH2] at b2
  rw [hH2, hL2] at HW
  rw [hH, hL]
  have hne := beq_noI b2
  clear hH hL hH2 hL2 b2
  have HZ0 := blk_new (w.alloc (.cells #[.int .u64 H, .int .u64 L] 87)) (w.heap.size + 1) 23 #[.int .u8 0, .int .i64 0, .string ⟨#[]⟩] (by simp)
  have HB0 : Below w.heap.size w ((w.alloc (.cells #[.int .u64 H, .int .u64 L] 87)).alloc (.cells #[.int .u8 0, .int .i64 0, .string ⟨#[]⟩] 23)) := bj one_alloc one_alloc
  have HP0 := ((Blk.new w 87 #[.int .u64 H, .int .u64 L]).alloc (.cells #[.int .u8 0, .int .i64 0, .string ⟨#[]⟩] 23)).drew
  obtain ⟨p0, p1⟩ := pair_at HP0
  go_enter Try.func66, Try.ntmps66
  go_wp2_with fail
  go_region_with (go_at_call 64; (refine (HW.out _).mono ?_); rintro e w3 ⟨rfl, hb3⟩; obtain ⟨p0, p1⟩ := pair_at (blk_step HP0 hb3))
  all_goals
    have hz := blk_step HZ0.drew hb3
    obtain ⟨z0, z1, z2, f0, f1, f2⟩ := cell3 hz
    have hB := bj HB0.drew hb3
    go_wp2
    obtain ⟨e0, e1, e2, _, _, _⟩ := cell3 (blk3_set hz (.int .u8 0) (.int .i64 0) (.string ⟨#[]⟩))
    exact bodyPost_ret (v := .tuple #[.agg #[.int .u8 0, .int .i64 0, .string ⟨#[]⟩], .int .i64 152]) (by simp [results, Try.results66, go_sem, e0, e1, e2]) rfl ⟨rfl, ((hB.setCell (Nat.le_succ _) _).setCell (Nat.le_succ _) _).setCell (Nat.le_succ _) _⟩
theorem value_any (x : Int) (hb : -170141183460469231731687303715884105728 ≤ x ∧ x ≤ 170141183460469231731687303715884105727) (w : World) : Calls Try.prog 66 #[wdV (wHi x) (wLo x)] w fun e w' => e = .returned (.tuple #[valV (resZ x).1, .int .i64 (resZ x).2]) ∧ Below w.heap.size w w' := by
  unfold resZ
  by_cases h : -9223372036854775808 ≤ x ∧ x ≤ 9223372036854775807
  · rw [if_pos h]; exact value_in x h w
  · rw [if_neg h]; exact value_out x hb h w
end Go.Proofs.Ytkgpcodccpckeaa
