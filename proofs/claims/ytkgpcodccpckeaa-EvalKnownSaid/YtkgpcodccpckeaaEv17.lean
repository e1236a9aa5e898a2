/- eval.reckon in general. Conditions: the numbers are such of 64 bits; the op is one of 3, 6 to 10. -/
import Derived.Test.YtkgpcodccpckeaaEv16
namespace Go.Proofs.Ytkgpcodccpckeaa
open Go.RowKit
set_option linter.unusedVariables false
set_option linter.unusedSimpArgs false
/-- what numbers come to -/
def numZ (op a b : Int) : Val × Int :=
  if op = 3 then resZ (-a) else if op = 6 then resZ (a + b) else if op = 7 then resZ (a - b) else if op = 8 then resZ (a * b)
  else if b = 0 then ((0, 0, ⟨#[]⟩), 0) else if op = 10 then ((1, a.tmod b, ⟨#[]⟩), 0) else resZ (a.tdiv b)
def I64 (x : Int) : Prop := -9223372036854775808 ≤ x ∧ x ≤ 9223372036854775807
theorem mul_bound {a b : Int} (ha : I64 a) (hb : I64 b) : -170141183460469231731687303715884105728 ≤ a * b ∧ a * b ≤ 170141183460469231731687303715884105727 := by
  have h : (a * b).natAbs ≤ 9223372036854775808 * 9223372036854775808 := by
    rw [Int.natAbs_mul]
    exact Nat.mul_le_mul (by have := ha.1; have := ha.2; omega) (by have := hb.1; have := hb.2; omega)
  omega
theorem zero_wide : I64 0 := by unfold I64; omega
set_option maxRecDepth 100000 in
set_option maxHeartbeats 4000000 in
theorem reckon_neg (a b z1 z2 ze : Int) (z3 : ByteArray) (ha : I64 a) (hb : I64 b) (hr : resZ (0 - a) = ((z1, z2, z3), ze)) (w : World) : Calls Try.prog 52 #[.int .u8 3, .int .i64 a, .int .i64 b] w fun e w' => e = .returned (.tuple #[.agg #[.int .u8 z1, .int .i64 z2, .string z3], .int .i64 ze]) ∧ Below w.heap.size w w' := by
  have H1 := Lib.hid (widened_any (0) zero_wide.1 zero_wide.2)
  have H2 := Lib.hid (widened_any (a) ha.1 ha.2)
  have H3 := Lib.hid (minus_any (0) (a))
  have H4 := value_any (0 - a) (by have := ha.1; have := ha.2; have := hb.1; have := hb.2; omega)
  rw [show wHi 0 = 0 by decide, show wLo 0 = 0 by decide] at H1 H3
  rw [hr] at H4
  obtain ⟨v, hv⟩ : ∃ v, (0 - a) = v := ⟨_, rfl⟩
  rw [hv] at H3 H4
  have H5 := Lib.hid H4
  clear H4 hr ha hb hv
  go_enter Try.func52, Try.ntmps52
  go_wp2_with fail
  refine (H1.out _).mono ?_
  rintro e w2 ⟨rfl, hb2⟩
  go_wp2_with fail
  refine (H2.out _).mono ?_
  rintro e w3 ⟨rfl, hb3⟩
  go_wp2_with fail
  refine (H3.out _).mono ?_
  rintro e w4 ⟨rfl, hb4⟩
  go_wp2_with fail
  refine (H5.out _).mono ?_
  rintro e w5 ⟨rfl, hb5⟩
  have hB := bj (bj (bj hb2 hb3) hb4) hb5
  clear hb2 hb3 hb4 hb5 H1 H2 H3 H5
  have hz := blk_step (Blk.new w 23 #[.int .u8 0, .int .i64 0, .string ⟨#[]⟩]) hB
  have hB0 := bj one_alloc hB
  obtain ⟨y0, y1, y2, f0, f1, f2⟩ := cell3 hz
  clear hB
  go_wp2
  obtain ⟨e0, e1, e2, _, _, _⟩ := cell3 (blk3_set hz (.int .u8 z1) (.int .i64 z2) (.string z3))
  exact bodyPost_ret (v := .tuple #[.agg #[.int .u8 z1, .int .i64 z2, .string z3], .int .i64 ze]) (by simp [results, Try.results52, go_sem, e0, e1, e2]) rfl ⟨rfl, below3_set hB0 _ _ _⟩
set_option maxRecDepth 100000 in
set_option maxHeartbeats 4000000 in
theorem reckon_add (a b z1 z2 ze : Int) (z3 : ByteArray) (ha : I64 a) (hb : I64 b) (hr : resZ (a + b) = ((z1, z2, z3), ze)) (w : World) : Calls Try.prog 52 #[.int .u8 6, .int .i64 a, .int .i64 b] w fun e w' => e = .returned (.tuple #[.agg #[.int .u8 z1, .int .i64 z2, .string z3], .int .i64 ze]) ∧ Below w.heap.size w w' := by
  have H1 := Lib.hid (widened_any (a) ha.1 ha.2)
  have H2 := Lib.hid (widened_any (b) hb.1 hb.2)
  have H3 := Lib.hid (plus_any (a) (b))
  have H4 := value_any (a + b) (by have := ha.1; have := ha.2; have := hb.1; have := hb.2; omega)
  rw [hr] at H4
  obtain ⟨v, hv⟩ : ∃ v, (a + b) = v := ⟨_, rfl⟩
  rw [hv] at H3 H4
  have H5 := Lib.hid H4
  clear H4 hr ha hb hv
  go_enter Try.func52, Try.ntmps52
  go_wp2_with fail
  refine (H1.out _).mono ?_
  rintro e w2 ⟨rfl, hb2⟩
  go_wp2_with fail
  refine (H2.out _).mono ?_
  rintro e w3 ⟨rfl, hb3⟩
  go_wp2_with fail
  refine (H3.out _).mono ?_
  rintro e w4 ⟨rfl, hb4⟩
  go_wp2_with fail
  refine (H5.out _).mono ?_
  rintro e w5 ⟨rfl, hb5⟩
  have hB := bj (bj (bj hb2 hb3) hb4) hb5
  clear hb2 hb3 hb4 hb5 H1 H2 H3 H5
  have hz := blk_step (Blk.new w 23 #[.int .u8 0, .int .i64 0, .string ⟨#[]⟩]) hB
  have hB0 := bj one_alloc hB
  obtain ⟨y0, y1, y2, f0, f1, f2⟩ := cell3 hz
  clear hB
  go_wp2
  obtain ⟨e0, e1, e2, _, _, _⟩ := cell3 (blk3_set hz (.int .u8 z1) (.int .i64 z2) (.string z3))
  exact bodyPost_ret (v := .tuple #[.agg #[.int .u8 z1, .int .i64 z2, .string z3], .int .i64 ze]) (by simp [results, Try.results52, go_sem, e0, e1, e2]) rfl ⟨rfl, below3_set hB0 _ _ _⟩
set_option maxRecDepth 100000 in
set_option maxHeartbeats 4000000 in
theorem reckon_sub (a b z1 z2 ze : Int) (z3 : ByteArray) (ha : I64 a) (hb : I64 b) (hr : resZ (a - b) = ((z1, z2, z3), ze)) (w : World) : Calls Try.prog 52 #[.int .u8 7, .int .i64 a, .int .i64 b] w fun e w' => e = .returned (.tuple #[.agg #[.int .u8 z1, .int .i64 z2, .string z3], .int .i64 ze]) ∧ Below w.heap.size w w' := by
  have H1 := Lib.hid (widened_any (a) ha.1 ha.2)
  have H2 := Lib.hid (widened_any (b) hb.1 hb.2)
  have H3 := Lib.hid (minus_any (a) (b))
  have H4 := value_any (a - b) (by have := ha.1; have := ha.2; have := hb.1; have := hb.2; omega)
  rw [hr] at H4
  obtain ⟨v, hv⟩ : ∃ v, (a - b) = v := ⟨_, rfl⟩
  rw [hv] at H3 H4
  have H5 := Lib.hid H4
  clear H4 hr ha hb hv
  go_enter Try.func52, Try.ntmps52
  go_wp2_with fail
  refine (H1.out _).mono ?_
  rintro e w2 ⟨rfl, hb2⟩
  go_wp2_with fail
  refine (H2.out _).mono ?_
  rintro e w3 ⟨rfl, hb3⟩
  go_wp2_with fail
  refine (H3.out _).mono ?_
  rintro e w4 ⟨rfl, hb4⟩
  go_wp2_with fail
  refine (H5.out _).mono ?_
  rintro e w5 ⟨rfl, hb5⟩
  have hB := bj (bj (bj hb2 hb3) hb4) hb5
  clear hb2 hb3 hb4 hb5 H1 H2 H3 H5
  have hz := blk_step (Blk.new w 23 #[.int .u8 0, .int .i64 0, .string ⟨#[]⟩]) hB
  have hB0 := bj one_alloc hB
  obtain ⟨y0, y1, y2, f0, f1, f2⟩ := cell3 hz
  clear hB
  go_wp2
  obtain ⟨e0, e1, e2, _, _, _⟩ := cell3 (blk3_set hz (.int .u8 z1) (.int .i64 z2) (.string z3))
  exact bodyPost_ret (v := .tuple #[.agg #[.int .u8 z1, .int .i64 z2, .string z3], .int .i64 ze]) (by simp [results, Try.results52, go_sem, e0, e1, e2]) rfl ⟨rfl, below3_set hB0 _ _ _⟩
set_option maxRecDepth 100000 in
set_option maxHeartbeats 4000000 in
theorem reckon_mul (a b z1 z2 ze : Int) (z3 : ByteArray) (ha : I64 a) (hb : I64 b) (hr : resZ (a * b) = ((z1, z2, z3), ze)) (w : World) : Calls Try.prog 52 #[.int .u8 8, .int .i64 a, .int .i64 b] w fun e w' => e = .returned (.tuple #[.agg #[.int .u8 z1, .int .i64 z2, .string z3], .int .i64 ze]) ∧ Below w.heap.size w w' := by
  have H3 := Lib.hid (product_any a b ha.1 ha.2 hb.1 hb.2)
  have H4 := value_any (a * b) (mul_bound ha hb)
  rw [hr] at H4
  have H5 := Lib.hid H4
  clear H4 hr ha hb
  go_enter Try.func52, Try.ntmps52
  go_wp2_with fail
  refine (H3.out _).mono ?_
  rintro e w4 ⟨rfl, hb4⟩
  go_wp2_with fail
  refine (H5.out _).mono ?_
  rintro e w5 ⟨rfl, hb5⟩
  have hB := bj hb4 hb5
  clear hb4 hb5 H3 H5
  have hz := blk_step (Blk.new w 23 #[.int .u8 0, .int .i64 0, .string ⟨#[]⟩]) hB
  have hB0 := bj one_alloc hB
  obtain ⟨y0, y1, y2, f0, f1, f2⟩ := cell3 hz
  clear hB
  go_wp2
  obtain ⟨e0, e1, e2, _, _, _⟩ := cell3 (blk3_set hz (.int .u8 z1) (.int .i64 z2) (.string z3))
  exact bodyPost_ret (v := .tuple #[.agg #[.int .u8 z1, .int .i64 z2, .string z3], .int .i64 ze]) (by simp [results, Try.results52, go_sem, e0, e1, e2]) rfl ⟨rfl, below3_set hB0 _ _ _⟩
set_option maxRecDepth 100000 in
set_option maxHeartbeats 4000000 in
theorem reckon_nought9 (a : Int) (w : World) : Calls Try.prog 52 #[.int .u8 9, .int .i64 a, .int .i64 0] w fun e w' => e = .returned (.tuple #[.agg #[.int .u8 0, .int .i64 0, .string ⟨#[]⟩], .int .i64 0]) ∧ Below w.heap.size w w' := by
  go_enter Try.func52, Try.ntmps52
  go_wp2
  first
    | exact bodyPost_ret (v := .tuple #[.agg #[.int .u8 0, .int .i64 0, .string ⟨#[]⟩], .int .i64 0]) (by simp [results, Try.results52, go_sem]) rfl ⟨rfl, one_alloc⟩
    | (trace_state; fail)
set_option maxRecDepth 100000 in
set_option maxHeartbeats 4000000 in
theorem reckon_nought10 (a : Int) (w : World) : Calls Try.prog 52 #[.int .u8 10, .int .i64 a, .int .i64 0] w fun e w' => e = .returned (.tuple #[.agg #[.int .u8 0, .int .i64 0, .string ⟨#[]⟩], .int .i64 0]) ∧ Below w.heap.size w w' := by
  go_enter Try.func52, Try.ntmps52
  go_wp2
  first
    | exact bodyPost_ret (v := .tuple #[.agg #[.int .u8 0, .int .i64 0, .string ⟨#[]⟩], .int .i64 0]) (by simp [results, Try.results52, go_sem]) rfl ⟨rfl, one_alloc⟩
    | (trace_state; fail)
set_option maxRecDepth 100000 in
set_option maxHeartbeats 4000000 in
theorem reckon_over (w : World) : Calls Try.prog 52 #[.int .u8 9, .int .i64 (-9223372036854775808), .int .i64 (-1)] w fun e w' => e = .returned (.tuple #[.agg #[.int .u8 0, .int .i64 0, .string ⟨#[]⟩], .int .i64 152]) ∧ Below w.heap.size w w' := by
  go_enter Try.func52, Try.ntmps52
  go_wp2
  first
    | exact bodyPost_ret (v := .tuple #[.agg #[.int .u8 0, .int .i64 0, .string ⟨#[]⟩], .int .i64 152]) (by simp [results, Try.results52, go_sem]) rfl ⟨rfl, one_alloc⟩
    | (trace_state; fail)
theorem tmod_i64 {a b : Int} (ha : I64 a) (hb : b ≠ 0) : IntKind.i64.wrap (a.tmod b) = a.tmod b := by
  have h := Int.natAbs_tmod a b
  have h2 : (a.tmod b).natAbs ≤ a.natAbs := by rw [h]; exact Nat.mod_le _ _
  have h3 := ha.1
  have h4 := ha.2
  have h5 : -9223372036854775808 ≤ a.tmod b ∧ a.tmod b ≤ 9223372036854775808 := by omega
  have h6 : a.tmod b ≠ 9223372036854775808 := by
    intro h7
    have h8 := Int.tmod_nonneg (a := -a) b
    by_cases h9 : a < 0
    · have h10 := h8 (by omega)
      rw [Int.neg_tmod] at h10
      omega
    · have : a.natAbs ≤ 9223372036854775807 := by omega
      omega
  rw [IntKind.wrap_i64]
  omega
theorem tdiv_i64 {a b : Int} (ha : I64 a) (hb : b ≠ 0) (hn : ¬ (a = -9223372036854775808 ∧ b = -1)) : -9223372036854775808 ≤ a.tdiv b ∧ a.tdiv b ≤ 9223372036854775807 := by
  have h := Int.natAbs_tdiv a b
  have h3 := ha.1
  have h4 := ha.2
  have h2 : (a.tdiv b).natAbs ≤ a.natAbs := by rw [h]; exact Nat.div_le_self _ _
  refine ⟨by omega, ?_⟩
  by_cases h5 : a.tdiv b < 9223372036854775808
  · omega
  · exfalso
    have ea : a = -9223372036854775808 := by omega
    have en : a.natAbs / b.natAbs = 9223372036854775808 := by
      have h' : (a.tdiv b).natAbs = a.natAbs / b.natAbs := h
      rw [← h']
      omega
    rw [show a.natAbs = 9223372036854775808 by omega] at en
    have hb2 : b.natAbs = 1 := by
      rcases Nat.lt_or_ge b.natAbs 2 with h6 | h6
      · omega
      · have h7 : 9223372036854775808 / b.natAbs ≤ 9223372036854775808 / 2 := Nat.div_le_div_left h6 (by omega)
        omega
    have hb3 : b = 1 ∨ b = -1 := by omega
    rcases hb3 with rfl | rfl
    · rw [Int.tdiv_one] at h5; omega
    · exact hn ⟨ea, rfl⟩
set_option maxRecDepth 100000 in
set_option maxHeartbeats 4000000 in
theorem reckon_mod (a b : Int) (ha : I64 a) (hb : I64 b) (h0 : b ≠ 0) (w : World) : Calls Try.prog 52 #[.int .u8 10, .int .i64 a, .int .i64 b] w fun e w' => e = .returned (.tuple #[.agg #[.int .u8 1, .int .i64 (a.tmod b), .string ⟨#[]⟩], .int .i64 0]) ∧ Below w.heap.size w w' := by
  have hw := tmod_i64 ha h0
  have hb0 := beq_noI h0
  clear ha hb
  obtain ⟨V, hV⟩ : ∃ V, a.tmod b = V := ⟨_, rfl⟩
  rw [hV] at hw ⊢
  go_enter Try.func52, Try.ntmps52
  go_wp2_with fail
  refine (integer_any _ _).mono ?_
  rintro e w4 ⟨rfl, hb4⟩
  have hB := hb4
  clear hb4
  have hz := blk_step (Blk.new w 23 #[.int .u8 0, .int .i64 0, .string ⟨#[]⟩]) hB
  have hB0 := bj one_alloc hB
  obtain ⟨y0, y1, y2, f0, f1, f2⟩ := cell3 hz
  clear hB
  go_wp2
  obtain ⟨e0, e1, e2, _, _, _⟩ := cell3 (blk3_set hz (.int .u8 1) (.int .i64 V) (.string ⟨#[]⟩))
  exact bodyPost_ret (v := .tuple #[.agg #[.int .u8 1, .int .i64 V, .string ⟨#[]⟩], .int .i64 0]) (by simp [results, Try.results52, go_sem, e0, e1, e2]) rfl ⟨rfl, below3_set hB0 _ _ _⟩
set_option maxRecDepth 100000 in
set_option maxHeartbeats 4000000 in
theorem reckon_div (a b : Int) (ha : I64 a) (hb : I64 b) (h0 : b ≠ 0) (hn : ¬ (a = -9223372036854775808 ∧ b = -1)) (w : World) : Calls Try.prog 52 #[.int .u8 9, .int .i64 a, .int .i64 b] w fun e w' => e = .returned (.tuple #[.agg #[.int .u8 1, .int .i64 (a.tdiv b), .string ⟨#[]⟩], .int .i64 0]) ∧ Below w.heap.size w w' := by
  have hw : IntKind.i64.wrap (a.tdiv b) = a.tdiv b := by have := tdiv_i64 ha h0 hn; rw [IntKind.wrap_i64]; omega
  have hb0 := beq_noI h0
  obtain ⟨V, hV⟩ : ∃ V, a.tdiv b = V := ⟨_, rfl⟩
  rw [hV] at hw ⊢
  clear ha hb
  have key : (a == -9223372036854775808) = false ∨ (a == -9223372036854775808) = true ∧ (b == -1) = false := by
    by_cases h : a = -9223372036854775808
    · refine .inr ⟨by simp [h], beq_noI (fun h2 => hn ⟨h, h2⟩)⟩
    · exact .inl (beq_noI h)
  clear hn
  rcases key with k1 | ⟨k1, k2⟩
  · go_enter Try.func52, Try.ntmps52
    go_wp2_with fail
    refine (integer_any _ _).mono ?_
    rintro e w4 ⟨rfl, hb4⟩
    have hB := hb4
    clear hb4
    have hz := blk_step (Blk.new w 23 #[.int .u8 0, .int .i64 0, .string ⟨#[]⟩]) hB
    have hB0 := bj one_alloc hB
    obtain ⟨y0, y1, y2, f0, f1, f2⟩ := cell3 hz
    clear hB
    go_wp2
    obtain ⟨e0, e1, e2, _, _, _⟩ := cell3 (blk3_set hz (.int .u8 1) (.int .i64 V) (.string ⟨#[]⟩))
    exact bodyPost_ret (v := .tuple #[.agg #[.int .u8 1, .int .i64 V, .string ⟨#[]⟩], .int .i64 0]) (by simp [results, Try.results52, go_sem, e0, e1, e2]) rfl ⟨rfl, below3_set hB0 _ _ _⟩
    
  · go_enter Try.func52, Try.ntmps52
    go_wp2_with fail
    refine (integer_any _ _).mono ?_
    rintro e w4 ⟨rfl, hb4⟩
    have hB := hb4
    clear hb4
    have hz := blk_step (Blk.new w 23 #[.int .u8 0, .int .i64 0, .string ⟨#[]⟩]) hB
    have hB0 := bj one_alloc hB
    obtain ⟨y0, y1, y2, f0, f1, f2⟩ := cell3 hz
    clear hB
    go_wp2
    obtain ⟨e0, e1, e2, _, _, _⟩ := cell3 (blk3_set hz (.int .u8 1) (.int .i64 V) (.string ⟨#[]⟩))
    exact bodyPost_ret (v := .tuple #[.agg #[.int .u8 1, .int .i64 V, .string ⟨#[]⟩], .int .i64 0]) (by simp [results, Try.results52, go_sem, e0, e1, e2]) rfl ⟨rfl, below3_set hB0 _ _ _⟩
theorem reckon_any (op a b : Int) (ho : op = 3 ∨ op = 6 ∨ op = 7 ∨ op = 8 ∨ op = 9 ∨ op = 10) (ha : I64 a) (hb : I64 b) (w : World) :
    Calls Try.prog 52 #[.int .u8 op, .int .i64 a, .int .i64 b] w fun e w' => e = .returned (.tuple #[valV (numZ op a b).1, .int .i64 (numZ op a b).2]) ∧ Below w.heap.size w w' := by
  rcases ho with rfl | rfl | rfl | rfl | rfl | rfl
  · have e : numZ 3 a b = resZ (0 - a) := by unfold numZ; rw [if_pos rfl, Int.zero_sub]
    rw [e]
    exact reckon_neg a b _ _ _ _ ha hb rfl w
  · exact reckon_add a b _ _ _ _ ha hb rfl w
  · exact reckon_sub a b _ _ _ _ ha hb rfl w
  · exact reckon_mul a b _ _ _ _ ha hb rfl w
  · by_cases h0 : b = 0
    · subst h0
      exact reckon_nought9 a w
    · by_cases hn : a = -9223372036854775808 ∧ b = -1
      · obtain ⟨rfl, rfl⟩ := hn
        exact reckon_over w
      · have e : numZ 9 a b = ((1, a.tdiv b, ⟨#[]⟩), 0) := by
          unfold numZ resZ
          rw [if_neg (by decide), if_neg (by decide), if_neg (by decide), if_neg (by decide), if_neg h0, if_neg (by decide), if_pos (tdiv_i64 ha h0 hn)]
        rw [e]
        exact reckon_div a b ha hb h0 hn w
  · by_cases h0 : b = 0
    · subst h0
      exact reckon_nought10 a w
    · have e : numZ 10 a b = ((1, a.tmod b, ⟨#[]⟩), 0) := by
        unfold numZ
        rw [if_neg (by decide), if_neg (by decide), if_neg (by decide), if_neg (by decide), if_neg h0, if_pos rfl]
      rw [e]
      exact reckon_mod a b ha hb h0 w
end Go.Proofs.Ytkgpcodccpckeaa
