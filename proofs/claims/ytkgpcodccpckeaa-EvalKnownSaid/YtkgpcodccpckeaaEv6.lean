/- Sums of small numbers: what the laws' own examples ask for. No condition. -/
import Derived.Test.YtkgpcodccpckeaaEv1
import Derived.Laws.Externs
import Derived.Deep.QuietTactic
import Derived.BigQuiet
import Derived.Deep.RegionWith
namespace Go.Proofs.Ytkgpcodccpckeaa
open Go.RowKit
set_option linter.unusedVariables false
theorem add64_any (x y c : Int) (hx : 0 ≤ x) (hy : 0 ≤ y) (hc0 : 0 ≤ c) (hc : c ≤ 1) (w : World) : (callFunc 80 #[.int .u64 x, .int .u64 y, .int .u64 c]).run Try.prog w = .ok (.value (.tuple #[.int .u64 ((x + y + c) % 18446744073709551616), .int .u64 ((x + y + c) / 18446744073709551616)])) w := by
  rw [run_callFunc_extern (show Try.prog.funcs[80]? = some Try.f80 by kernel_rfl) (by kernel_rfl) (by kernel_rfl) (by kernel_rfl) (e := add64Entry) (by kernel_rfl), run_add64 x y c hx hy hc0 hc]
  rfl
set_option maxRecDepth 100000 in
set_option maxHeartbeats 4000000 in
theorem widened_2 (w : World) : Calls Try.prog 64 #[.int .i64 2] w fun e w' => e = .returned (.agg #[.int .u64 0, .int .u64 2]) ∧ Below w.heap.size w w' := by
  go_enter Try.func64, Try.ntmps64
  go_wp2
  first
    | exact bodyPost_ret (v := .agg #[.int .u64 0, .int .u64 2]) (by simp [results, Try.results64, go_sem]) rfl ⟨rfl, one_alloc⟩
    | (obtain ⟨e0, e1⟩ := pair_at (blk2 (Blk.new w 87 #[.int .u64 0, .int .u64 0]) (x := .int .u64 0) (y := .int .u64 2))
       exact bodyPost_ret (v := .agg #[.int .u64 0, .int .u64 2]) (by simp [results, Try.results64, go_sem, e0, e1]) rfl ⟨rfl, (one_alloc.setCell (Nat.le_refl _) _).setCell (Nat.le_refl _) _⟩)
set_option maxRecDepth 100000 in
set_option maxHeartbeats 4000000 in
theorem widened_3 (w : World) : Calls Try.prog 64 #[.int .i64 3] w fun e w' => e = .returned (.agg #[.int .u64 0, .int .u64 3]) ∧ Below w.heap.size w w' := by
  go_enter Try.func64, Try.ntmps64
  go_wp2
  first
    | exact bodyPost_ret (v := .agg #[.int .u64 0, .int .u64 3]) (by simp [results, Try.results64, go_sem]) rfl ⟨rfl, one_alloc⟩
    | (obtain ⟨e0, e1⟩ := pair_at (blk2 (Blk.new w 87 #[.int .u64 0, .int .u64 0]) (x := .int .u64 0) (y := .int .u64 3))
       exact bodyPost_ret (v := .agg #[.int .u64 0, .int .u64 3]) (by simp [results, Try.results64, go_sem, e0, e1]) rfl ⟨rfl, (one_alloc.setCell (Nat.le_refl _) _).setCell (Nat.le_refl _) _⟩)
set_option maxRecDepth 100000 in
set_option maxHeartbeats 4000000 in
theorem widened_4 (w : World) : Calls Try.prog 64 #[.int .i64 4] w fun e w' => e = .returned (.agg #[.int .u64 0, .int .u64 4]) ∧ Below w.heap.size w w' := by
  go_enter Try.func64, Try.ntmps64
  go_wp2
  first
    | exact bodyPost_ret (v := .agg #[.int .u64 0, .int .u64 4]) (by simp [results, Try.results64, go_sem]) rfl ⟨rfl, one_alloc⟩
    | (obtain ⟨e0, e1⟩ := pair_at (blk2 (Blk.new w 87 #[.int .u64 0, .int .u64 0]) (x := .int .u64 0) (y := .int .u64 4))
       exact bodyPost_ret (v := .agg #[.int .u64 0, .int .u64 4]) (by simp [results, Try.results64, go_sem, e0, e1]) rfl ⟨rfl, (one_alloc.setCell (Nat.le_refl _) _).setCell (Nat.le_refl _) _⟩)
set_option maxRecDepth 100000 in
set_option maxHeartbeats 4000000 in
theorem widened_5 (w : World) : Calls Try.prog 64 #[.int .i64 5] w fun e w' => e = .returned (.agg #[.int .u64 0, .int .u64 5]) ∧ Below w.heap.size w w' := by
  go_enter Try.func64, Try.ntmps64
  go_wp2
  first
    | exact bodyPost_ret (v := .agg #[.int .u64 0, .int .u64 5]) (by simp [results, Try.results64, go_sem]) rfl ⟨rfl, one_alloc⟩
    | (obtain ⟨e0, e1⟩ := pair_at (blk2 (Blk.new w 87 #[.int .u64 0, .int .u64 0]) (x := .int .u64 0) (y := .int .u64 5))
       exact bodyPost_ret (v := .agg #[.int .u64 0, .int .u64 5]) (by simp [results, Try.results64, go_sem, e0, e1]) rfl ⟨rfl, (one_alloc.setCell (Nat.le_refl _) _).setCell (Nat.le_refl _) _⟩)
set_option maxRecDepth 100000 in
set_option maxHeartbeats 4000000 in
theorem widened_7 (w : World) : Calls Try.prog 64 #[.int .i64 7] w fun e w' => e = .returned (.agg #[.int .u64 0, .int .u64 7]) ∧ Below w.heap.size w w' := by
  go_enter Try.func64, Try.ntmps64
  go_wp2
  first
    | exact bodyPost_ret (v := .agg #[.int .u64 0, .int .u64 7]) (by simp [results, Try.results64, go_sem]) rfl ⟨rfl, one_alloc⟩
    | (obtain ⟨e0, e1⟩ := pair_at (blk2 (Blk.new w 87 #[.int .u64 0, .int .u64 0]) (x := .int .u64 0) (y := .int .u64 7))
       exact bodyPost_ret (v := .agg #[.int .u64 0, .int .u64 7]) (by simp [results, Try.results64, go_sem, e0, e1]) rfl ⟨rfl, (one_alloc.setCell (Nat.le_refl _) _).setCell (Nat.le_refl _) _⟩)
set_option maxRecDepth 100000 in
set_option maxHeartbeats 4000000 in
theorem plus_2_3 (w : World) : Calls Try.prog 67 #[.agg #[.int .u64 0, .int .u64 2], .agg #[.int .u64 0, .int .u64 3]] w fun e w' => e = .returned (.agg #[.int .u64 0, .int .u64 5]) ∧ Below w.heap.size w w' := by
  have A1 : ∀ W, (callFunc 80 #[.int .u64 2, .int .u64 3, .int .u64 0]).run Try.prog W = .ok (.value (.tuple #[.int .u64 5, .int .u64 0])) W := fun W => add64_any 2 3 0 (by omega) (by omega) (by omega) (by omega) W
  have A2 : ∀ W, (callFunc 80 #[.int .u64 0, .int .u64 0, .int .u64 0]).run Try.prog W = .ok (.value (.tuple #[.int .u64 0, .int .u64 0])) W := fun W => add64_any 0 0 0 (by omega) (by omega) (by omega) (by omega) W
  go_enter Try.func67, Try.ntmps67
  go_wp2
  have HB := blk_new ((w.alloc (.cells #[.int .u64 0, .int .u64 2] 87)).alloc (.cells #[.int .u64 0, .int .u64 3] 87)) (w.heap.size + 1 + 1) 87 #[.int .u64 0, .int .u64 0] (by simp)
  first
    | exact bodyPost_ret (v := .agg #[.int .u64 0, .int .u64 5]) (by simp [results, Try.results67, go_sem]) rfl ⟨rfl, bj (bj one_alloc one_alloc) one_alloc⟩
    | (obtain ⟨e0, e1⟩ := pair_at (blk2 HB (x := .int .u64 0) (y := .int .u64 5))
       exact bodyPost_ret (v := .agg #[.int .u64 0, .int .u64 5]) (by simp [results, Try.results67, go_sem, e0, e1]) rfl ⟨rfl, ((bj (bj one_alloc one_alloc) one_alloc).setCell (by omega) _).setCell (by omega) _⟩)
set_option maxRecDepth 100000 in
set_option maxHeartbeats 4000000 in
theorem plus_0_3 (w : World) : Calls Try.prog 67 #[.agg #[.int .u64 0, .int .u64 0], .agg #[.int .u64 0, .int .u64 3]] w fun e w' => e = .returned (.agg #[.int .u64 0, .int .u64 3]) ∧ Below w.heap.size w w' := by
  have A1 : ∀ W, (callFunc 80 #[.int .u64 0, .int .u64 3, .int .u64 0]).run Try.prog W = .ok (.value (.tuple #[.int .u64 3, .int .u64 0])) W := fun W => add64_any 0 3 0 (by omega) (by omega) (by omega) (by omega) W
  have A2 : ∀ W, (callFunc 80 #[.int .u64 0, .int .u64 0, .int .u64 0]).run Try.prog W = .ok (.value (.tuple #[.int .u64 0, .int .u64 0])) W := fun W => add64_any 0 0 0 (by omega) (by omega) (by omega) (by omega) W
  go_enter Try.func67, Try.ntmps67
  go_wp2
  have HB := blk_new ((w.alloc (.cells #[.int .u64 0, .int .u64 0] 87)).alloc (.cells #[.int .u64 0, .int .u64 3] 87)) (w.heap.size + 1 + 1) 87 #[.int .u64 0, .int .u64 0] (by simp)
  first
    | exact bodyPost_ret (v := .agg #[.int .u64 0, .int .u64 3]) (by simp [results, Try.results67, go_sem]) rfl ⟨rfl, bj (bj one_alloc one_alloc) one_alloc⟩
    | (obtain ⟨e0, e1⟩ := pair_at (blk2 HB (x := .int .u64 0) (y := .int .u64 3))
       exact bodyPost_ret (v := .agg #[.int .u64 0, .int .u64 3]) (by simp [results, Try.results67, go_sem, e0, e1]) rfl ⟨rfl, ((bj (bj one_alloc one_alloc) one_alloc).setCell (by omega) _).setCell (by omega) _⟩)
set_option maxRecDepth 100000 in
set_option maxHeartbeats 4000000 in
theorem plus_3_4 (w : World) : Calls Try.prog 67 #[.agg #[.int .u64 0, .int .u64 3], .agg #[.int .u64 0, .int .u64 4]] w fun e w' => e = .returned (.agg #[.int .u64 0, .int .u64 7]) ∧ Below w.heap.size w w' := by
  have A1 : ∀ W, (callFunc 80 #[.int .u64 3, .int .u64 4, .int .u64 0]).run Try.prog W = .ok (.value (.tuple #[.int .u64 7, .int .u64 0])) W := fun W => add64_any 3 4 0 (by omega) (by omega) (by omega) (by omega) W
  have A2 : ∀ W, (callFunc 80 #[.int .u64 0, .int .u64 0, .int .u64 0]).run Try.prog W = .ok (.value (.tuple #[.int .u64 0, .int .u64 0])) W := fun W => add64_any 0 0 0 (by omega) (by omega) (by omega) (by omega) W
  go_enter Try.func67, Try.ntmps67
  go_wp2
  have HB := blk_new ((w.alloc (.cells #[.int .u64 0, .int .u64 3] 87)).alloc (.cells #[.int .u64 0, .int .u64 4] 87)) (w.heap.size + 1 + 1) 87 #[.int .u64 0, .int .u64 0] (by simp)
  first
    | exact bodyPost_ret (v := .agg #[.int .u64 0, .int .u64 7]) (by simp [results, Try.results67, go_sem]) rfl ⟨rfl, bj (bj one_alloc one_alloc) one_alloc⟩
    | (obtain ⟨e0, e1⟩ := pair_at (blk2 HB (x := .int .u64 0) (y := .int .u64 7))
       exact bodyPost_ret (v := .agg #[.int .u64 0, .int .u64 7]) (by simp [results, Try.results67, go_sem, e0, e1]) rfl ⟨rfl, ((bj (bj one_alloc one_alloc) one_alloc).setCell (by omega) _).setCell (by omega) _⟩)
set_option maxRecDepth 100000 in
set_option maxHeartbeats 4000000 in
theorem value_5 (w : World) : Calls Try.prog 66 #[.agg #[.int .u64 0, .int .u64 5]] w fun e w' => e = .returned (.tuple #[.agg #[.int .u8 1, .int .i64 5, .string ⟨#[]⟩], .int .i64 0]) ∧ Below w.heap.size w w' := by
  have HZ0 := blk_new (w.alloc (.cells #[.int .u64 0, .int .u64 5] 87)) (w.heap.size + 1) 23 #[.int .u8 0, .int .i64 0, .string ⟨#[]⟩] (by simp)
  have HB0 : Below w.heap.size w ((w.alloc (.cells #[.int .u64 0, .int .u64 5] 87)).alloc (.cells #[.int .u8 0, .int .i64 0, .string ⟨#[]⟩] 23)) := bj one_alloc one_alloc
  have HP0 := ((Blk.new w 87 #[.int .u64 0, .int .u64 5]).alloc (.cells #[.int .u8 0, .int .i64 0, .string ⟨#[]⟩] 23)).drew
  obtain ⟨p0, p1⟩ := pair_at HP0
  go_enter Try.func66, Try.ntmps66
  go_wp2_with fail
  go_region_with (go_at_call 64; (refine (widened_5 _).mono ?_); rintro e w3 ⟨rfl, hb3⟩; obtain ⟨p0, p1⟩ := pair_at (blk_step HP0 hb3))
  all_goals
    have hz := blk_step HZ0.drew hb3
    obtain ⟨z0, z1, z2, f0, f1, f2⟩ := cell3 hz
    have hB := bj HB0.drew hb3
    go_wp2_with fail
    refine (integer_any _ _).mono ?_
    rintro e w4 ⟨rfl, hb4⟩
    have hz4 := blk_step hz hb4
    have hB4 := bj hB hb4
    obtain ⟨z0, z1, z2, f0, f1, f2⟩ := cell3 hz4
    clear hb3 hb4 hz hB
    go_wp2
    obtain ⟨e0, e1, e2, _, _, _⟩ := cell3 (blk3_set hz4 (.int .u8 1) (.int .i64 5) (.string ⟨#[]⟩))
    exact bodyPost_ret (v := .tuple #[.agg #[.int .u8 1, .int .i64 5, .string ⟨#[]⟩], .int .i64 0]) (by simp [results, Try.results66, go_sem, e0, e1, e2]) rfl ⟨rfl, ((hB4.setCell (Nat.le_succ _) _).setCell (Nat.le_succ _) _).setCell (Nat.le_succ _) _⟩
set_option maxRecDepth 100000 in
set_option maxHeartbeats 4000000 in
theorem value_7 (w : World) : Calls Try.prog 66 #[.agg #[.int .u64 0, .int .u64 7]] w fun e w' => e = .returned (.tuple #[.agg #[.int .u8 1, .int .i64 7, .string ⟨#[]⟩], .int .i64 0]) ∧ Below w.heap.size w w' := by
  have HZ0 := blk_new (w.alloc (.cells #[.int .u64 0, .int .u64 7] 87)) (w.heap.size + 1) 23 #[.int .u8 0, .int .i64 0, .string ⟨#[]⟩] (by simp)
  have HB0 : Below w.heap.size w ((w.alloc (.cells #[.int .u64 0, .int .u64 7] 87)).alloc (.cells #[.int .u8 0, .int .i64 0, .string ⟨#[]⟩] 23)) := bj one_alloc one_alloc
  have HP0 := ((Blk.new w 87 #[.int .u64 0, .int .u64 7]).alloc (.cells #[.int .u8 0, .int .i64 0, .string ⟨#[]⟩] 23)).drew
  obtain ⟨p0, p1⟩ := pair_at HP0
  go_enter Try.func66, Try.ntmps66
  go_wp2_with fail
  go_region_with (go_at_call 64; (refine (widened_7 _).mono ?_); rintro e w3 ⟨rfl, hb3⟩; obtain ⟨p0, p1⟩ := pair_at (blk_step HP0 hb3))
  all_goals
    have hz := blk_step HZ0.drew hb3
    obtain ⟨z0, z1, z2, f0, f1, f2⟩ := cell3 hz
    have hB := bj HB0.drew hb3
    go_wp2_with fail
    refine (integer_any _ _).mono ?_
    rintro e w4 ⟨rfl, hb4⟩
    have hz4 := blk_step hz hb4
    have hB4 := bj hB hb4
    obtain ⟨z0, z1, z2, f0, f1, f2⟩ := cell3 hz4
    clear hb3 hb4 hz hB
    go_wp2
    obtain ⟨e0, e1, e2, _, _, _⟩ := cell3 (blk3_set hz4 (.int .u8 1) (.int .i64 7) (.string ⟨#[]⟩))
    exact bodyPost_ret (v := .tuple #[.agg #[.int .u8 1, .int .i64 7, .string ⟨#[]⟩], .int .i64 0]) (by simp [results, Try.results66, go_sem, e0, e1, e2]) rfl ⟨rfl, ((hB4.setCell (Nat.le_succ _) _).setCell (Nat.le_succ _) _).setCell (Nat.le_succ _) _⟩
set_option maxRecDepth 100000 in
set_option maxHeartbeats 4000000 in
theorem reckon_works (w : World) : Calls Try.prog 52 #[.int .u8 6, .int .i64 2, .int .i64 3] w fun e w' => e = .returned (.tuple #[.agg #[.int .u8 1, .int .i64 5, .string ⟨#[]⟩], .int .i64 0]) ∧ Below w.heap.size w w' := by
  go_enter Try.func52, Try.ntmps52
  go_wp2_with fail
  refine (widened_2 _).mono ?_
  rintro e w2 ⟨rfl, hb2⟩
  go_wp2_with fail
  refine (widened_3 _).mono ?_
  rintro e w3 ⟨rfl, hb3⟩
  go_wp2_with fail
  refine (plus_2_3 _).mono ?_
  rintro e w4 ⟨rfl, hb4⟩
  go_wp2_with fail
  refine (value_5 _).mono ?_
  rintro e w5 ⟨rfl, hb5⟩
  have hB := bj (bj (bj hb2 hb3) hb4) hb5
  have hz := blk_step (Blk.new w 23 #[.int .u8 0, .int .i64 0, .string ⟨#[]⟩]) hB
  have hB0 := bj one_alloc hB
  obtain ⟨z0, z1, z2, f0, f1, f2⟩ := cell3 hz
  clear hb2 hb3 hb4 hb5 hB
  go_wp2
  obtain ⟨e0, e1, e2, _, _, _⟩ := cell3 (blk3_set hz (.int .u8 1) (.int .i64 5) (.string ⟨#[]⟩))
  exact bodyPost_ret (v := .tuple #[.agg #[.int .u8 1, .int .i64 5, .string ⟨#[]⟩], .int .i64 0]) (by simp [results, Try.results52, go_sem, e0, e1, e2]) rfl ⟨rfl, below3_set hB0 _ _ _⟩
end Go.Proofs.Ytkgpcodccpckeaa
