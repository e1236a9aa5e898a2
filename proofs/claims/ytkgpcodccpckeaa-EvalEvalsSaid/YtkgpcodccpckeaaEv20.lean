/- ref15.times and ref15.number in general. Conditions: the numbers are such of 64 bits; the op is one of 6 to 10. -/
import Derived.Test.YtkgpcodccpckeaaEv19
namespace Go.Proofs.Ytkgpcodccpckeaa
open Go.RowKit
set_option linter.unusedVariables false
set_option linter.unusedSimpArgs false
theorem res_over {x : Int} (h : ¬ (-9223372036854775808 ≤ x ∧ x ≤ 9223372036854775807)) : resZ x = ((0, 0, ⟨#[]⟩), 152) := by unfold resZ; rw [if_neg h]
theorem res_in {x : Int} (h : I64 x) : resZ x = ((1, x, ⟨#[]⟩), 0) := by unfold resZ; rw [if_pos ⟨h.1, h.2⟩]
set_option maxRecDepth 100000 in
set_option maxHeartbeats 8000000 in
theorem times_low1 (b : Int) (hb : b < 0) (w : World) : Calls Try.prog 85 #[.int .i64 (-9223372036854775808), .int .i64 b] w fun e w' => e = .returned (.tuple #[.agg #[.int .u8 0, .int .i64 0, .string ⟨#[]⟩], .int .i64 152]) ∧ Below w.heap.size w w' := by
  have hb0 := beq_noI (show b ≠ 0 by omega)
  go_enter Try.func85, Try.ntmps85
  go_wp2
  first
    | exact bodyPost_ret (v := .tuple #[.agg #[.int .u8 0, .int .i64 0, .string ⟨#[]⟩], .int .i64 152]) (by simp [results, Try.results85, go_sem]) rfl ⟨rfl, one_alloc⟩
    | (trace_state; fail)
set_option maxRecDepth 100000 in
set_option maxHeartbeats 8000000 in
theorem times_low2 (a : Int) (h0 : a ≠ 0) (h1 : a ≠ 1) (h2 : a ≠ -9223372036854775808) (w : World) : Calls Try.prog 85 #[.int .i64 a, .int .i64 (-9223372036854775808)] w fun e w' => e = .returned (.tuple #[.agg #[.int .u8 0, .int .i64 0, .string ⟨#[]⟩], .int .i64 152]) ∧ Below w.heap.size w w' := by
  have b0 := beq_noI h0
  have b1 := beq_noI h1
  have b2 := beq_noI h2
  go_enter Try.func85, Try.ntmps85
  go_wp2
  first
    | exact bodyPost_ret (v := .tuple #[.agg #[.int .u8 0, .int .i64 0, .string ⟨#[]⟩], .int .i64 152]) (by simp [results, Try.results85, go_sem]) rfl ⟨rfl, one_alloc⟩
    | (trace_state; fail)
set_option maxRecDepth 100000 in
set_option maxHeartbeats 8000000 in
theorem times_low0 (w : World) : Calls Try.prog 85 #[.int .i64 0, .int .i64 (-9223372036854775808)] w fun e w' => e = .returned (.tuple #[.agg #[.int .u8 1, .int .i64 0, .string ⟨#[]⟩], .int .i64 0]) ∧ Below w.heap.size w w' := by
  go_enter Try.func85, Try.ntmps85
  go_wp2_with fail
  refine (whole_any _ _).mono ?_
  rintro e w4 ⟨rfl, hb4⟩
  have hB := hb4
  clear hb4
  have hz := blk_step (Blk.new w 23 #[.int .u8 0, .int .i64 0, .string ⟨#[]⟩]) hB
  have hB0 := bj one_alloc hB
  obtain ⟨y0, y1, y2, f0, f1, f2⟩ := cell3 hz
  clear hB
  go_wp2
  obtain ⟨e0, e1, e2, _, _, _⟩ := cell3 (blk3_set hz (.int .u8 1) (.int .i64 0) (.string ⟨#[]⟩))
  exact bodyPost_ret (v := .tuple #[.agg #[.int .u8 1, .int .i64 0, .string ⟨#[]⟩], .int .i64 0]) (by simp [results, Try.results85, go_sem, e0, e1, e2]) rfl ⟨rfl, below3_set hB0 _ _ _⟩
set_option maxRecDepth 100000 in
set_option maxHeartbeats 8000000 in
theorem times_lowone (w : World) : Calls Try.prog 85 #[.int .i64 1, .int .i64 (-9223372036854775808)] w fun e w' => e = .returned (.tuple #[.agg #[.int .u8 1, .int .i64 (-9223372036854775808), .string ⟨#[]⟩], .int .i64 0]) ∧ Below w.heap.size w w' := by
  go_enter Try.func85, Try.ntmps85
  go_wp2_with fail
  refine (whole_any _ _).mono ?_
  rintro e w4 ⟨rfl, hb4⟩
  have hB := hb4
  clear hb4
  have hz := blk_step (Blk.new w 23 #[.int .u8 0, .int .i64 0, .string ⟨#[]⟩]) hB
  have hB0 := bj one_alloc hB
  obtain ⟨y0, y1, y2, f0, f1, f2⟩ := cell3 hz
  clear hB
  go_wp2
  obtain ⟨e0, e1, e2, _, _, _⟩ := cell3 (blk3_set hz (.int .u8 1) (.int .i64 (-9223372036854775808)) (.string ⟨#[]⟩))
  exact bodyPost_ret (v := .tuple #[.agg #[.int .u8 1, .int .i64 (-9223372036854775808), .string ⟨#[]⟩], .int .i64 0]) (by simp [results, Try.results85, go_sem, e0, e1, e2]) rfl ⟨rfl, below3_set hB0 _ _ _⟩
set_option maxRecDepth 100000 in
set_option maxHeartbeats 8000000 in
theorem times_neg (a b z1 z2 ze : Int) (z3 : ByteArray) (ha : I64 a) (hb : I64 b) (hb0 : b < 0) (h1 : a ≠ -9223372036854775808) (h2 : b ≠ -9223372036854775808) (hr : resZ (a * b) = ((z1, z2, z3), ze)) (w : World) : Calls Try.prog 85 #[.int .i64 a, .int .i64 b] w fun e w' => e = .returned (.tuple #[.agg #[.int .u8 z1, .int .i64 z2, .string z3], .int .i64 ze]) ∧ Below w.heap.size w w' := by
  have HT := Lib.hid (times_pos (-a) (-b) z1 z2 ze z3 (by unfold I64 at *; omega) (by unfold I64 at *; omega) (by omega) (by rw [Int.neg_mul_neg]; exact hr))
  have b1 := beq_noI h1
  have b2 := beq_noI h2
  have w1 : IntKind.i64.wrap (-a) = -a := by unfold I64 at ha; rw [IntKind.wrap_i64]; omega
  have w2 : IntKind.i64.wrap (-b) = -b := by unfold I64 at hb; rw [IntKind.wrap_i64]; omega
  clear ha hb h1 h2 hr
  obtain ⟨A, hA⟩ : ∃ A, -a = A := ⟨_, rfl⟩
  obtain ⟨B, hB'⟩ : ∃ B, -b = B := ⟨_, rfl⟩
  rw [hA] at HT w1
  rw [hB'] at HT w2
  go_enter Try.func85, Try.ntmps85
  go_wp2_with fail
  refine (HT.out _).mono ?_
  rintro e w4 ⟨rfl, hb4⟩
  have hB := hb4
  clear hb4 hA hB'
  have hz := blk_step (Blk.new w 23 #[.int .u8 0, .int .i64 0, .string ⟨#[]⟩]) hB
  have hB0 := bj one_alloc hB
  obtain ⟨y0, y1, y2, f0, f1, f2⟩ := cell3 hz
  clear hB
  go_wp2
  obtain ⟨e0, e1, e2, _, _, _⟩ := cell3 (blk3_set hz (.int .u8 z1) (.int .i64 z2) (.string z3))
  exact bodyPost_ret (v := .tuple #[.agg #[.int .u8 z1, .int .i64 z2, .string z3], .int .i64 ze]) (by simp [results, Try.results85, go_sem, e0, e1, e2]) rfl ⟨rfl, below3_set hB0 _ _ _⟩
theorem times_any (a b : Int) (ha : I64 a) (hb : I64 b) (w : World) : Calls Try.prog 85 #[.int .i64 a, .int .i64 b] w fun e w' => e = .returned (.tuple #[valV (resZ (a * b)).1, .int .i64 (resZ (a * b)).2]) ∧ Below w.heap.size w w' := by
  by_cases hb0 : 0 ≤ b
  · exact times_pos a b _ _ _ _ ha hb hb0 rfl w
  have hbn : b < 0 := by omega
  by_cases h1 : a = -9223372036854775808
  · subst h1
    have e : resZ (-9223372036854775808 * b) = ((0, 0, ⟨#[]⟩), 152) := res_over (by omega)
    rw [e]
    exact times_low1 b hbn w
  by_cases h2 : b = -9223372036854775808
  · subst h2
    by_cases a0 : a = 0
    · subst a0
      have e : resZ (0 * -9223372036854775808) = ((1, 0, ⟨#[]⟩), 0) := by rw [Int.zero_mul]; exact res_in zero_wide
      rw [e]
      exact times_low0 w
    by_cases a1 : a = 1
    · subst a1
      have e : resZ (1 * -9223372036854775808) = ((1, -9223372036854775808, ⟨#[]⟩), 0) := by rw [Int.one_mul]; exact res_in (by unfold I64; omega)
      rw [e]
      exact times_lowone w
    have e : resZ (a * -9223372036854775808) = ((0, 0, ⟨#[]⟩), 152) := res_over (by omega)
    rw [e]
    exact times_low2 a a0 a1 h1 w
  exact times_neg a b _ _ _ _ ha hb hbn h1 h2 rfl w
set_option maxRecDepth 100000 in
set_option maxHeartbeats 8000000 in
theorem num_add (a b z1 z2 ze : Int) (z3 : ByteArray) (ha : I64 a) (hb : I64 b) (hr : resZ (a + b) = ((z1, z2, z3), ze)) (w : World) : Calls Try.prog 75 #[.int .u8 6, .int .i64 a, .int .i64 b] w fun e w' => e = .returned (.tuple #[.agg #[.int .u8 z1, .int .i64 z2, .string z3], .int .i64 ze]) ∧ Below w.heap.size w w' := by
  have H1 := Lib.hid (long_any a ha)
  have H2 := Lib.hid (long_any b hb)
  have H3 := Lib.hid (lplus_any a b (i120_of ha) (i120_of hb))
  have H4 := answer_any (a + b)
  rw [hr] at H4
  have H5 := Lib.hid H4
  clear H4 hr ha hb
  go_enter Try.func75, Try.ntmps75
  go_wp2_with fail
  refine (H1.out _).mono ?_
  rintro e w2 ⟨rfl, hb2⟩
  go_wp2_with fail
  refine (H2.out _).mono ?_
  rintro e w3 ⟨rfl, hb3⟩
  go_wp2_with fail
  refine (H3.out _).mono ?_
  rintro e w4 ⟨rfl, hb4⟩
  go_wp2_with fail
  refine (H5.out _).mono ?_
  rintro e w5 ⟨rfl, hb5⟩
  have hB := bj (bj (bj hb2 hb3) hb4) hb5
  clear hb2 hb3 hb4 hb5 H1 H2 H3 H5
  have hz := blk_step (Blk.new w 23 #[.int .u8 0, .int .i64 0, .string ⟨#[]⟩]) hB
  have hB0 := bj one_alloc hB
  obtain ⟨y0, y1, y2, f0, f1, f2⟩ := cell3 hz
  clear hB
  go_wp2
  obtain ⟨e0, e1, e2, _, _, _⟩ := cell3 (blk3_set hz (.int .u8 z1) (.int .i64 z2) (.string z3))
  exact bodyPost_ret (v := .tuple #[.agg #[.int .u8 z1, .int .i64 z2, .string z3], .int .i64 ze]) (by simp [results, Try.results75, go_sem, e0, e1, e2]) rfl ⟨rfl, below3_set hB0 _ _ _⟩
set_option maxRecDepth 100000 in
set_option maxHeartbeats 8000000 in
theorem num_sub (a b z1 z2 ze : Int) (z3 : ByteArray) (ha : I64 a) (hb : I64 b) (hr : resZ (a - b) = ((z1, z2, z3), ze)) (w : World) : Calls Try.prog 75 #[.int .u8 7, .int .i64 a, .int .i64 b] w fun e w' => e = .returned (.tuple #[.agg #[.int .u8 z1, .int .i64 z2, .string z3], .int .i64 ze]) ∧ Below w.heap.size w w' := by
  have H1 := Lib.hid (long_any a ha)
  have H2 := Lib.hid (long_any b hb)
  have H2n := Lib.hid (lneg_any b (i120_of hb))
  have H3 := Lib.hid (lplus_any a (-b) (i120_of ha) (by have := i120_of hb; unfold I120 at *; omega))
  have H4 := answer_any (a + -b)
  rw [show a + -b = a - b by omega] at H4
  rw [hr] at H4
  obtain ⟨v, hv⟩ : ∃ v, a - b = v := ⟨_, rfl⟩
  obtain ⟨c, hc⟩ : ∃ c, -b = c := ⟨_, rfl⟩
  rw [show a + -b = a - b by omega] at H3
  rw [hv] at H3 H4
  rw [hc] at H3 H2n
  have H5 := Lib.hid H4
  clear H4 hr ha hb hv hc
  go_enter Try.func75, Try.ntmps75
  go_wp2_with fail
  refine (H1.out _).mono ?_
  rintro e w2 ⟨rfl, hb2⟩
  go_wp2_with fail
  refine (H2.out _).mono ?_
  rintro e w3 ⟨rfl, hb3⟩
  go_wp2_with fail
  refine (H2n.out _).mono ?_
  rintro e w6 ⟨rfl, hb6⟩
  go_wp2_with fail
  refine (H3.out _).mono ?_
  rintro e w4 ⟨rfl, hb4⟩
  go_wp2_with fail
  refine (H5.out _).mono ?_
  rintro e w5 ⟨rfl, hb5⟩
  have hB := bj (bj (bj (bj hb2 hb3) hb6) hb4) hb5
  clear hb2 hb3 hb4 hb5 hb6 H1 H2 H2n H3 H5
  have hz := blk_step (Blk.new w 23 #[.int .u8 0, .int .i64 0, .string ⟨#[]⟩]) hB
  have hB0 := bj one_alloc hB
  obtain ⟨y0, y1, y2, f0, f1, f2⟩ := cell3 hz
  clear hB
  go_wp2
  obtain ⟨e0, e1, e2, _, _, _⟩ := cell3 (blk3_set hz (.int .u8 z1) (.int .i64 z2) (.string z3))
  exact bodyPost_ret (v := .tuple #[.agg #[.int .u8 z1, .int .i64 z2, .string z3], .int .i64 ze]) (by simp [results, Try.results75, go_sem, e0, e1, e2]) rfl ⟨rfl, below3_set hB0 _ _ _⟩
set_option maxRecDepth 100000 in
set_option maxHeartbeats 8000000 in
theorem num_mul (a b z1 z2 ze : Int) (z3 : ByteArray) (ha : I64 a) (hb : I64 b) (hr : resZ (a * b) = ((z1, z2, z3), ze)) (w : World) : Calls Try.prog 75 #[.int .u8 8, .int .i64 a, .int .i64 b] w fun e w' => e = .returned (.tuple #[.agg #[.int .u8 z1, .int .i64 z2, .string z3], .int .i64 ze]) ∧ Below w.heap.size w w' := by
  have H4 := times_any a b ha hb
  rw [hr] at H4
  have H5 := Lib.hid H4
  clear H4 hr ha hb
  go_enter Try.func75, Try.ntmps75
  go_wp2_with fail
  refine (H5.out _).mono ?_
  rintro e w5 ⟨rfl, hb5⟩
  have hB := hb5
  clear hb5 H5
  have hz := blk_step (Blk.new w 23 #[.int .u8 0, .int .i64 0, .string ⟨#[]⟩]) hB
  have hB0 := bj one_alloc hB
  obtain ⟨y0, y1, y2, f0, f1, f2⟩ := cell3 hz
  clear hB
  go_wp2
  obtain ⟨e0, e1, e2, _, _, _⟩ := cell3 (blk3_set hz (.int .u8 z1) (.int .i64 z2) (.string z3))
  exact bodyPost_ret (v := .tuple #[.agg #[.int .u8 z1, .int .i64 z2, .string z3], .int .i64 ze]) (by simp [results, Try.results75, go_sem, e0, e1, e2]) rfl ⟨rfl, below3_set hB0 _ _ _⟩
set_option maxRecDepth 100000 in
set_option maxHeartbeats 8000000 in
theorem num_nought9 (a : Int) (w : World) : Calls Try.prog 75 #[.int .u8 9, .int .i64 a, .int .i64 0] w fun e w' => e = .returned (.tuple #[.agg #[.int .u8 0, .int .i64 0, .string ⟨#[]⟩], .int .i64 0]) ∧ Below w.heap.size w w' := by
  go_enter Try.func75, Try.ntmps75
  go_wp2
  first
    | exact bodyPost_ret (v := .tuple #[.agg #[.int .u8 0, .int .i64 0, .string ⟨#[]⟩], .int .i64 0]) (by simp [results, Try.results75, go_sem]) rfl ⟨rfl, one_alloc⟩
    | (trace_state; fail)
set_option maxRecDepth 100000 in
set_option maxHeartbeats 8000000 in
theorem num_nought10 (a : Int) (w : World) : Calls Try.prog 75 #[.int .u8 10, .int .i64 a, .int .i64 0] w fun e w' => e = .returned (.tuple #[.agg #[.int .u8 0, .int .i64 0, .string ⟨#[]⟩], .int .i64 0]) ∧ Below w.heap.size w w' := by
  go_enter Try.func75, Try.ntmps75
  go_wp2
  first
    | exact bodyPost_ret (v := .tuple #[.agg #[.int .u8 0, .int .i64 0, .string ⟨#[]⟩], .int .i64 0]) (by simp [results, Try.results75, go_sem]) rfl ⟨rfl, one_alloc⟩
    | (trace_state; fail)
set_option maxRecDepth 100000 in
set_option maxHeartbeats 8000000 in
theorem num_mod1 (a : Int) (w : World) : Calls Try.prog 75 #[.int .u8 10, .int .i64 a, .int .i64 (-1)] w fun e w' => e = .returned (.tuple #[.agg #[.int .u8 1, .int .i64 0, .string ⟨#[]⟩], .int .i64 0]) ∧ Below w.heap.size w w' := by
  go_enter Try.func75, Try.ntmps75
  go_wp2_with fail
  refine (whole_any _ _).mono ?_
  rintro e w4 ⟨rfl, hb4⟩
  have hB := hb4
  clear hb4
  have hz := blk_step (Blk.new w 23 #[.int .u8 0, .int .i64 0, .string ⟨#[]⟩]) hB
  have hB0 := bj one_alloc hB
  obtain ⟨y0, y1, y2, f0, f1, f2⟩ := cell3 hz
  clear hB
  go_wp2
  obtain ⟨e0, e1, e2, _, _, _⟩ := cell3 (blk3_set hz (.int .u8 1) (.int .i64 0) (.string ⟨#[]⟩))
  exact bodyPost_ret (v := .tuple #[.agg #[.int .u8 1, .int .i64 0, .string ⟨#[]⟩], .int .i64 0]) (by simp [results, Try.results75, go_sem, e0, e1, e2]) rfl ⟨rfl, below3_set hB0 _ _ _⟩
set_option maxRecDepth 100000 in
set_option maxHeartbeats 8000000 in
theorem num_div1 (a z1 z2 ze : Int) (z3 : ByteArray) (ha : I64 a) (hr : resZ (-a) = ((z1, z2, z3), ze)) (w : World) : Calls Try.prog 75 #[.int .u8 9, .int .i64 a, .int .i64 (-1)] w fun e w' => e = .returned (.tuple #[.agg #[.int .u8 z1, .int .i64 z2, .string z3], .int .i64 ze]) ∧ Below w.heap.size w w' := by
  have H1 := Lib.hid (long_any a ha)
  have H2 := Lib.hid (lneg_any a (i120_of ha))
  have H4 := answer_any (-a)
  rw [hr] at H4
  obtain ⟨v, hv⟩ : ∃ v, -a = v := ⟨_, rfl⟩
  rw [hv] at H2 H4
  have H5 := Lib.hid H4
  clear H4 hr ha hv
  go_enter Try.func75, Try.ntmps75
  go_wp2_with fail
  refine (H1.out _).mono ?_
  rintro e w2 ⟨rfl, hb2⟩
  go_wp2_with fail
  refine (H2.out _).mono ?_
  rintro e w3 ⟨rfl, hb3⟩
  go_wp2_with fail
  refine (H5.out _).mono ?_
  rintro e w5 ⟨rfl, hb5⟩
  have hB := bj (bj hb2 hb3) hb5
  clear hb2 hb3 hb5 H1 H2 H5
  have hz := blk_step (Blk.new w 23 #[.int .u8 0, .int .i64 0, .string ⟨#[]⟩]) hB
  have hB0 := bj one_alloc hB
  obtain ⟨y0, y1, y2, f0, f1, f2⟩ := cell3 hz
  clear hB
  go_wp2
  obtain ⟨e0, e1, e2, _, _, _⟩ := cell3 (blk3_set hz (.int .u8 z1) (.int .i64 z2) (.string z3))
  exact bodyPost_ret (v := .tuple #[.agg #[.int .u8 z1, .int .i64 z2, .string z3], .int .i64 ze]) (by simp [results, Try.results75, go_sem, e0, e1, e2]) rfl ⟨rfl, below3_set hB0 _ _ _⟩
set_option maxRecDepth 100000 in
set_option maxHeartbeats 8000000 in
theorem num_div (a b : Int) (ha : I64 a) (hb : I64 b) (h0 : b ≠ 0) (h1 : b ≠ -1) (w : World) : Calls Try.prog 75 #[.int .u8 9, .int .i64 a, .int .i64 b] w fun e w' => e = .returned (.tuple #[.agg #[.int .u8 1, .int .i64 (a.tdiv b), .string ⟨#[]⟩], .int .i64 0]) ∧ Below w.heap.size w w' := by
  have hw : IntKind.i64.wrap (a.tdiv b) = a.tdiv b := by have := tdiv_i64 ha h0 (fun h => h1 h.2); rw [IntKind.wrap_i64]; omega
  have b0 := beq_noI h0
  have b1 := beq_noI h1
  obtain ⟨V, hV⟩ : ∃ V, a.tdiv b = V := ⟨_, rfl⟩
  rw [hV] at hw ⊢
  clear ha hb h1
  go_enter Try.func75, Try.ntmps75
  go_wp2_with fail
  refine (whole_any _ _).mono ?_
  rintro e w4 ⟨rfl, hb4⟩
  have hB := hb4
  clear hb4
  have hz := blk_step (Blk.new w 23 #[.int .u8 0, .int .i64 0, .string ⟨#[]⟩]) hB
  have hB0 := bj one_alloc hB
  obtain ⟨y0, y1, y2, f0, f1, f2⟩ := cell3 hz
  clear hB
  go_wp2
  obtain ⟨e0, e1, e2, _, _, _⟩ := cell3 (blk3_set hz (.int .u8 1) (.int .i64 V) (.string ⟨#[]⟩))
  exact bodyPost_ret (v := .tuple #[.agg #[.int .u8 1, .int .i64 V, .string ⟨#[]⟩], .int .i64 0]) (by simp [results, Try.results75, go_sem, e0, e1, e2]) rfl ⟨rfl, below3_set hB0 _ _ _⟩
set_option maxRecDepth 100000 in
set_option maxHeartbeats 8000000 in
theorem num_mod (a b : Int) (ha : I64 a) (hb : I64 b) (h0 : b ≠ 0) (h1 : b ≠ -1) (w : World) : Calls Try.prog 75 #[.int .u8 10, .int .i64 a, .int .i64 b] w fun e w' => e = .returned (.tuple #[.agg #[.int .u8 1, .int .i64 (a.tmod b), .string ⟨#[]⟩], .int .i64 0]) ∧ Below w.heap.size w w' := by
  have hw : IntKind.i64.wrap (a.tdiv b) = a.tdiv b := by have := tdiv_i64 ha h0 (fun h => h1 h.2); rw [IntKind.wrap_i64]; omega
  have b0 := beq_noI h0
  have b1 := beq_noI h1
  have hm := Int.mul_tdiv_add_tmod a b
  have hm1 := tmod_i64 ha h0
  have hq : IntKind.i64.wrap (a.tdiv b * b) = a.tdiv b * b := by
    have h2 : (a.tdiv b * b).natAbs ≤ a.natAbs := by
      have h' : (a.tdiv b).natAbs = a.natAbs / b.natAbs := Int.natAbs_tdiv a b
      rw [Int.natAbs_mul, h']
      exact Nat.div_mul_le_self _ _
    have h3 : (a.tdiv b * b) + a.tmod b = a := by rw [Int.mul_comm]; exact hm
    have h4 : I64 (a.tmod b) := by rw [IntKind.wrap_i64] at hm1; unfold I64; omega
    unfold I64 at ha h4
    rw [IntKind.wrap_i64]
    by_cases h5 : a.tdiv b * b = 9223372036854775808
    · exfalso
      have h6 : a = -9223372036854775808 := by omega
      have h7 := Int.tmod_nonneg (a := -a) b (by omega)
      rw [Int.neg_tmod] at h7
      omega
    · omega
  have hs : IntKind.i64.wrap (a - a.tdiv b * b) = a.tmod b := by
    rw [show a - a.tdiv b * b = a.tmod b by rw [Int.mul_comm]; omega]
    exact hm1
  clear hm hm1
  obtain ⟨V, hV⟩ : ∃ V, a.tmod b = V := ⟨_, rfl⟩
  rw [hV] at hs ⊢
  obtain ⟨Q, hQ⟩ : ∃ Q, a.tdiv b = Q := ⟨_, rfl⟩
  rw [hQ] at hs hq hw
  obtain ⟨R, hR⟩ : ∃ R, Q * b = R := ⟨_, rfl⟩
  rw [hR] at hs hq
  have hq2 : IntKind.i64.wrap (Q * b) = R := by rw [hR]; exact hq
  clear ha hb h1 hV hR
  go_enter Try.func75, Try.ntmps75
  go_wp2_with fail
  refine (whole_any _ _).mono ?_
  rintro e w4 ⟨rfl, hb4⟩
  have hB := hb4
  clear hb4
  have hz := blk_step (Blk.new w 23 #[.int .u8 0, .int .i64 0, .string ⟨#[]⟩]) hB
  have hB0 := bj one_alloc hB
  obtain ⟨y0, y1, y2, f0, f1, f2⟩ := cell3 hz
  clear hB
  go_wp2
  obtain ⟨e0, e1, e2, _, _, _⟩ := cell3 (blk3_set hz (.int .u8 1) (.int .i64 V) (.string ⟨#[]⟩))
  exact bodyPost_ret (v := .tuple #[.agg #[.int .u8 1, .int .i64 V, .string ⟨#[]⟩], .int .i64 0]) (by simp [results, Try.results75, go_sem, e0, e1, e2]) rfl ⟨rfl, below3_set hB0 _ _ _⟩
theorem num15_any (op a b : Int) (ho : op = 6 ∨ op = 7 ∨ op = 8 ∨ op = 9 ∨ op = 10) (ha : I64 a) (hb : I64 b) (w : World) :
    Calls Try.prog 75 #[.int .u8 op, .int .i64 a, .int .i64 b] w fun e w' => e = .returned (.tuple #[valV (numZ op a b).1, .int .i64 (numZ op a b).2]) ∧ Below w.heap.size w w' := by
  rcases ho with rfl | rfl | rfl | rfl | rfl
  · exact num_add a b _ _ _ _ ha hb rfl w
  · exact num_sub a b _ _ _ _ ha hb rfl w
  · exact num_mul a b _ _ _ _ ha hb rfl w
  · by_cases h0 : b = 0
    · subst h0
      exact num_nought9 a w
    have e : numZ 9 a b = resZ (a.tdiv b) := by
      unfold numZ
      rw [if_neg (by decide), if_neg (by decide), if_neg (by decide), if_neg (by decide), if_neg h0, if_neg (by decide)]
    rw [e]
    by_cases h1 : b = -1
    · subst h1
      rw [show a.tdiv (-1) = -a by rw [Int.tdiv_neg, Int.tdiv_one]]
      exact num_div1 a _ _ _ _ ha rfl w
    · rw [res_in (tdiv_i64 ha h0 (fun h => h1 h.2))]
      exact num_div a b ha hb h0 h1 w
  · by_cases h0 : b = 0
    · subst h0
      exact num_nought10 a w
    have e : numZ 10 a b = ((1, a.tmod b, ⟨#[]⟩), 0) := by
      unfold numZ
      rw [if_neg (by decide), if_neg (by decide), if_neg (by decide), if_neg (by decide), if_neg h0, if_pos rfl]
    rw [e]
    by_cases h1 : b = -1
    · subst h1
      rw [show a.tmod (-1) = 0 by rw [Int.tmod_neg, Int.tmod_one]]
      exact num_mod1 a w
    · exact num_mod a b ha hb h0 h1 w
end Go.Proofs.Ytkgpcodccpckeaa
