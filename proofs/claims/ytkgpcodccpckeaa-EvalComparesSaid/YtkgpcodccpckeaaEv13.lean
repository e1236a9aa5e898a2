/- What comparing two values comes to, by classes; the law's own closure. Conditions: those of each lemma. -/
import Derived.Test.YtkgpcodccpckeaaEv12
import Derived.Test.YtkgpcodccpckeaaValMath
namespace Go.Proofs.Ytkgpcodccpckeaa
open Go.RowKit
set_option linter.unusedVariables false
set_option linter.unusedSimpArgs false
theorem cmp_tog (op : Int) (h1 : 12 ≤ op) (h2 : op ≤ 17) (x y : Int) : togB op [x, y] = ((y == x || y == 0) || x == 0) := by
  have hc : comparesB op = true := by unfold comparesB; rw [decide_eq_true h1, decide_eq_true h2]; rfl
  unfold togB
  rw [if_neg (by omega), if_neg (by omega), if_pos hc]
  simp [onlyB]
theorem cmp_types (op : Int) (h1 : 12 ≤ op) (h2 : op ≤ 17) (a b : Val) (rz : Val × Int) (h3 : a.1 ≠ b.1) (h4 : a.1 ≠ 0) (h5 : b.1 ≠ 0) : doZ op 2 a b rz = ((0, 0, ⟨#[]⟩), 150) := by
  unfold doZ
  rw [if_pos]
  rw [cmp_tog op h1 h2, beq_no (fun e => h3 e.symm), beq_no h5, beq_no h4]
  rfl
theorem cmp_null (op : Int) (h1 : 12 ≤ op) (h2 : op ≤ 17) (a b : Val) (rz : Val × Int) (h3 : a.1 = 0 ∨ b.1 = 0) : doZ op 2 a b rz = ((0, 0, ⟨#[]⟩), 0) := by
  have ht : togB op [a.1, b.1] = true := by
    rw [cmp_tog op h1 h2]
    rcases h3 with h | h <;> simp [h]
  have hn : ([a, b].take 2).any nullV = true := by
    rcases h3 with h | h <;> simp [nullV, h]
  unfold doZ
  rw [if_neg (by rw [ht]; simp), if_neg (by omega), if_neg (by omega), if_pos hn]
theorem cmp_same (op : Int) (h1 : 12 ≤ op) (h2 : op ≤ 17) (a b : Val) (rz : Val × Int) (h3 : a.1 = b.1) (h4 : a.1 ≠ 0) : doZ op 2 a b rz = (truthV (holdsB op (valCmp a b)), 0) := by
  have ht : togB op [a.1, b.1] = true := by rw [cmp_tog op h1 h2, h3]; simp
  have hn : ([a, b].take 2).any nullV = false := by
    have h5 : b.1 ≠ 0 := by rw [← h3]; exact h4
    simp [nullV, h4, h5]
  have hc : comparesB op = true := by unfold comparesB; rw [decide_eq_true h1, decide_eq_true h2]; rfl
  unfold doZ
  rw [if_neg (by rw [ht]; simp), if_neg (by omega), if_neg (by omega), if_neg (by rw [hn]; simp), if_pos hc]
theorem cmp_range (a b : Val) : valCmp a b = -1 ∨ valCmp a b = 0 ∨ valCmp a b = 1 := good_val.range a b
set_option maxRecDepth 100000 in
set_option maxHeartbeats 4000000 in
theorem notf_0 (w : World) : Calls Try.prog 28 #[.agg #[.int .u8 1, .int .i64 0, .string ⟨#[]⟩]] w fun e w' => e = .returned (.agg #[.int .u8 1, .int .i64 1, .string ⟨#[]⟩]) ∧ Below w.heap.size w w' := by
  have HZ := Lib.hid (blk_new (w.alloc (.cells #[.int .u8 1, .int .i64 0, .string ⟨#[]⟩] 23)) (w.heap.size + 1) 23 #[.int .u8 0, .int .i64 0, .string ⟨#[]⟩] (by simp))
  go_enter Try.func28, Try.ntmps28
  go_wp2_with fail
  refine (mkNumber15 1 _).mono ?_
  rintro e w4 ⟨rfl, hb4⟩
  have hz := blk_step HZ.out hb4
  have hB := bj (bj one_alloc one_alloc) hb4
  obtain ⟨y0, y1, y2, f0, f1, f2⟩ := cell3 hz
  clear hb4
  go_wp2
  obtain ⟨e0, e1, e2, _, _, _⟩ := cell3 (blk3_set hz (.int .u8 1) (.int .i64 1) (.string ⟨#[]⟩))
  exact bodyPost_ret (v := .agg #[.int .u8 1, .int .i64 1, .string ⟨#[]⟩]) (by simp [results, Try.results28, go_sem, e0, e1, e2]) rfl ⟨rfl, below3_at hB (by omega) _ _ _⟩
set_option maxRecDepth 100000 in
set_option maxHeartbeats 4000000 in
theorem notf_1 (w : World) : Calls Try.prog 28 #[.agg #[.int .u8 1, .int .i64 1, .string ⟨#[]⟩]] w fun e w' => e = .returned (.agg #[.int .u8 1, .int .i64 0, .string ⟨#[]⟩]) ∧ Below w.heap.size w w' := by
  have HZ := Lib.hid (blk_new (w.alloc (.cells #[.int .u8 1, .int .i64 1, .string ⟨#[]⟩] 23)) (w.heap.size + 1) 23 #[.int .u8 0, .int .i64 0, .string ⟨#[]⟩] (by simp))
  go_enter Try.func28, Try.ntmps28
  go_wp2_with fail
  refine (mkNumber15 0 _).mono ?_
  rintro e w4 ⟨rfl, hb4⟩
  have hz := blk_step HZ.out hb4
  have hB := bj (bj one_alloc one_alloc) hb4
  obtain ⟨y0, y1, y2, f0, f1, f2⟩ := cell3 hz
  clear hb4
  go_wp2
  obtain ⟨e0, e1, e2, _, _, _⟩ := cell3 (blk3_set hz (.int .u8 1) (.int .i64 0) (.string ⟨#[]⟩))
  exact bodyPost_ret (v := .agg #[.int .u8 1, .int .i64 0, .string ⟨#[]⟩]) (by simp [results, Try.results28, go_sem, e0, e1, e2]) rfl ⟨rfl, below3_at hB (by omega) _ _ _⟩
end Go.Proofs.Ytkgpcodccpckeaa
