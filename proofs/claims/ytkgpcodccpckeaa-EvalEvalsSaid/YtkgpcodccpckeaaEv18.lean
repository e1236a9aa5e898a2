/- ref15's long numbers. Conditions: those of each lemma. -/
import Derived.Test.YtkgpcodccpckeaaEv17
namespace Go.Proofs.Ytkgpcodccpckeaa
open Go.RowKit
set_option linter.unusedVariables false
set_option linter.unusedSimpArgs false
abbrev lH (x : Int) : Int := x / 4611686018427387904
abbrev lL (x : Int) : Int := x % 4611686018427387904
abbrev lgV (h l : Int) : Value := .agg #[.int .i64 h, .int .i64 l]
/-- numbers whose parts are far from any end -/
def I120 (x : Int) : Prop := -1329227995784915872903807060280344576 ≤ x ∧ x ≤ 1329227995784915872903807060280344576
theorem i120_of {x : Int} (h : I64 x) : I120 x := by unfold I64 at h; unfold I120; omega
theorem tdiv_pos (n c : Int) : n.tdiv c = if n < 0 then -((-n) / c) else n / c := by
  by_cases h : n < 0
  · rw [if_pos h]
    have e : n = -(-n) := by omega
    rw [e, Int.neg_tdiv, Int.tdiv_eq_ediv_of_nonneg (by omega)]
    simp
  · rw [if_neg h, Int.tdiv_eq_ediv_of_nonneg (by omega)]
set_option maxRecDepth 100000 in
set_option maxHeartbeats 4000000 in
theorem whole_any (n : Int) (w : World) : Calls Try.prog 69 #[.int .i64 n] w fun e w' => e = .returned (.agg #[.int .u8 1, .int .i64 n, .string ⟨#[]⟩]) ∧ Below w.heap.size w w' := by
  go_enter Try.func69, Try.ntmps69
  go_wp2
  first
    | exact bodyPost_ret (v := .agg #[.int .u8 1, .int .i64 n, .string ⟨#[]⟩]) (by simp [results, Try.results69, go_sem]) rfl ⟨rfl, one_alloc⟩
    | (trace_state; fail)
set_option maxRecDepth 100000 in
set_option maxHeartbeats 4000000 in
theorem long_any (n : Int) (hn : I64 n) (w : World) : Calls Try.prog 71 #[.int .i64 n] w fun e w' => e = .returned (lgV (lH n) (lL n)) ∧ Below w.heap.size w w' := by
  have hq := tdiv_pos n 4611686018427387904
  have hr := Int.tmod_def n 4611686018427387904
  obtain ⟨Q, hQ⟩ : ∃ Q, n.tdiv 4611686018427387904 = Q := ⟨_, rfl⟩
  obtain ⟨R, hR⟩ : ∃ R, n.tmod 4611686018427387904 = R := ⟨_, rfl⟩
  rw [hQ] at hq hr
  rw [hR] at hr
  unfold I64 at hn
  have hwQ : IntKind.i64.wrap Q = Q := by rw [IntKind.wrap_i64]; split at hq <;> omega
  have hwR : IntKind.i64.wrap R = R := by rw [IntKind.wrap_i64]; split at hq <;> omega
  have key : (R < 0 ∧ IntKind.i64.wrap (Q - 1) = lH n ∧ IntKind.i64.wrap (R + 4611686018427387904) = lL n) ∨ (decide (R < 0) = false ∧ Q = lH n ∧ R = lL n) := by
    by_cases h : R < 0
    · refine .inl ⟨h, ?_, ?_⟩
      · rw [IntKind.wrap_i64]; unfold lH; split at hq <;> omega
      · rw [IntKind.wrap_i64]; unfold lL; split at hq <;> omega
    · refine .inr ⟨decide_eq_false h, ?_, ?_⟩
      · unfold lH; split at hq <;> omega
      · unfold lL; split at hq <;> omega
  clear hq hr hn
  obtain ⟨H, hH⟩ : ∃ H, lH n = H := ⟨_, rfl⟩
  obtain ⟨L, hL⟩ : ∃ L, lL n = L := ⟨_, rfl⟩
  rw [hH, hL] at key
  rw [hH, hL]
  clear hH hL
  rcases key with ⟨k1, k2, k3⟩ | ⟨k1, rfl, rfl⟩
  · go_enter Try.func71, Try.ntmps71
    go_wp2
    first
      | exact bodyPost_ret (v := lgV H L) (by simp [results, Try.results71, go_sem]) rfl ⟨rfl, one_alloc⟩
      | (trace_state; fail)
  · go_enter Try.func71, Try.ntmps71
    go_wp2
    first
      | exact bodyPost_ret (v := lgV Q R) (by simp [results, Try.results71, go_sem]) rfl ⟨rfl, one_alloc⟩
      | (trace_state; fail)
set_option maxRecDepth 100000 in
set_option maxHeartbeats 4000000 in
theorem lplus_any (x y : Int) (hx : I120 x) (hy : I120 y) (w : World) : Calls Try.prog 70 #[lgV (lH x) (lL x), lgV (lH y) (lL y)] w fun e w' => e = .returned (lgV (lH (x + y)) (lL (x + y))) ∧ Below w.heap.size w w' := by
  unfold I120 at hx hy
  obtain ⟨D, hD⟩ : ∃ D, lL y - 4611686018427387904 = D := ⟨_, rfl⟩
  obtain ⟨S, hS⟩ : ∃ S, lL x + D = S := ⟨_, rfl⟩
  obtain ⟨G, hG⟩ : ∃ G, lH x + lH y = G := ⟨_, rfl⟩
  have w1 : IntKind.i64.wrap (lL y - 4611686018427387904) = D := by rw [IntKind.wrap_i64, ← hD]; unfold lL; omega
  have w2 : IntKind.i64.wrap (lL x + D) = S := by rw [IntKind.wrap_i64, ← hS, ← hD]; unfold lL; omega
  have w3 : IntKind.i64.wrap (lH x + lH y) = G := by rw [IntKind.wrap_i64, ← hG]; unfold lH; omega
  have key : (0 ≤ S ∧ IntKind.i64.wrap (G + 1) = lH (x + y) ∧ S = lL (x + y)) ∨ (decide (0 ≤ S) = false ∧ G = lH (x + y) ∧ IntKind.i64.wrap (S + 4611686018427387904) = lL (x + y)) := by
    by_cases h : 0 ≤ S
    · refine .inl ⟨h, ?_, ?_⟩
      · rw [IntKind.wrap_i64]; unfold lH lL at *; omega
      · unfold lH lL at *; omega
    · refine .inr ⟨decide_eq_false h, ?_, ?_⟩
      · unfold lH lL at *; omega
      · rw [IntKind.wrap_i64]; unfold lH lL at *; omega
  clear hD hS hG hx hy
  obtain ⟨xh, hxh⟩ : ∃ xh, lH x = xh := ⟨_, rfl⟩
  obtain ⟨xl, hxl⟩ : ∃ xl, lL x = xl := ⟨_, rfl⟩
  obtain ⟨yh, hyh⟩ : ∃ yh, lH y = yh := ⟨_, rfl⟩
  obtain ⟨yl, hyl⟩ : ∃ yl, lL y = yl := ⟨_, rfl⟩
  obtain ⟨H, hH⟩ : ∃ H, lH (x + y) = H := ⟨_, rfl⟩
  obtain ⟨L, hL⟩ : ∃ L, lL (x + y) = L := ⟨_, rfl⟩
  rw [hyl] at w1
  rw [hxl] at w2
  rw [hxh, hyh] at w3
  rw [hH, hL] at key
  rw [hxh, hyh, hxl, hyl, hH, hL]
  clear hxh hxl hyh hyl hH hL
  rcases key with ⟨k1, k2, rfl⟩ | ⟨k1, rfl, k3⟩
  · go_enter Try.func70, Try.ntmps70
    go_wp2
    first
      | exact bodyPost_ret (v := lgV H S) (by simp [results, Try.results70, go_sem]) rfl ⟨rfl, bj (bj one_alloc one_alloc) one_alloc⟩
      | (trace_state; fail)
  · go_enter Try.func70, Try.ntmps70
    go_wp2
    first
      | exact bodyPost_ret (v := lgV G L) (by simp [results, Try.results70, go_sem]) rfl ⟨rfl, bj (bj one_alloc one_alloc) one_alloc⟩
      | (trace_state; fail)
set_option maxRecDepth 100000 in
set_option maxHeartbeats 4000000 in
theorem lneg_any (x : Int) (hx : I120 x) (w : World) : Calls Try.prog 84 #[lgV (lH x) (lL x)] w fun e w' => e = .returned (lgV (lH (-x)) (lL (-x))) ∧ Below w.heap.size w w' := by
  unfold I120 at hx
  obtain ⟨G, hG⟩ : ∃ G, -lH x = G := ⟨_, rfl⟩
  have w3 : IntKind.i64.wrap (-lH x) = G := by rw [IntKind.wrap_i64, ← hG]; unfold lH; omega
  have key : (lL x = 0 ∧ G = lH (-x) ∧ 0 = lL (-x)) ∨ ((lL x == 0) = false ∧ IntKind.i64.wrap (G - 1) = lH (-x) ∧ IntKind.i64.wrap (4611686018427387904 - lL x) = lL (-x)) := by
    by_cases h : lL x = 0
    · refine .inl ⟨h, ?_, ?_⟩
      · unfold lH lL at *; omega
      · unfold lH lL at *; omega
    · refine .inr ⟨beq_noI h, ?_, ?_⟩
      · rw [IntKind.wrap_i64]; unfold lH lL at *; omega
      · rw [IntKind.wrap_i64]; unfold lH lL at *; omega
  clear hG hx
  obtain ⟨xh, hxh⟩ : ∃ xh, lH x = xh := ⟨_, rfl⟩
  obtain ⟨xl, hxl⟩ : ∃ xl, lL x = xl := ⟨_, rfl⟩
  obtain ⟨H, hH⟩ : ∃ H, lH (-x) = H := ⟨_, rfl⟩
  obtain ⟨L, hL⟩ : ∃ L, lL (-x) = L := ⟨_, rfl⟩
  rw [hxh] at w3
  rw [hxl, hH, hL] at key
  rw [hxh, hxl, hH, hL]
  clear hxh hxl hH hL
  rcases key with ⟨rfl, rfl, rfl⟩ | ⟨k1, k2, k3⟩
  · go_enter Try.func84, Try.ntmps84
    go_wp2
    first
      | exact bodyPost_ret (v := lgV G 0) (by simp [results, Try.results84, go_sem]) rfl ⟨rfl, bj one_alloc one_alloc⟩
      | (trace_state; fail)
  · go_enter Try.func84, Try.ntmps84
    go_wp2
    first
      | exact bodyPost_ret (v := lgV H L) (by simp [results, Try.results84, go_sem]) rfl ⟨rfl, bj one_alloc one_alloc⟩
      | (trace_state; fail)
theorem answer_out {x : Int} (h : ¬ (-9223372036854775808 ≤ x ∧ x ≤ 9223372036854775807)) : lH x < -2 ∨ (decide (lH x < -2) = false ∧ 1 < lH x) := by
  by_cases h2 : lH x < -2
  · exact .inl h2
  · refine .inr ⟨decide_eq_false h2, ?_⟩
    unfold lH at *
    omega
set_option maxRecDepth 100000 in
set_option maxHeartbeats 4000000 in
theorem answer_over (H L : Int) (hk : H < -2 ∨ (decide (H < -2) = false ∧ 1 < H)) (w : World) : Calls Try.prog 72 #[lgV H L] w fun e w' => e = .returned (.tuple #[.agg #[.int .u8 0, .int .i64 0, .string ⟨#[]⟩], .int .i64 152]) ∧ Below w.heap.size w w' := by
  rcases hk with k1 | ⟨k1, k2⟩
  · go_enter Try.func72, Try.ntmps72
    go_wp2
    first
      | exact bodyPost_ret (v := .tuple #[.agg #[.int .u8 0, .int .i64 0, .string ⟨#[]⟩], .int .i64 152]) (by simp [results, Try.results72, go_sem]) rfl ⟨rfl, bj one_alloc one_alloc⟩
      | (trace_state; fail)
  · go_enter Try.func72, Try.ntmps72
    go_wp2
    first
      | exact bodyPost_ret (v := .tuple #[.agg #[.int .u8 0, .int .i64 0, .string ⟨#[]⟩], .int .i64 152]) (by simp [results, Try.results72, go_sem]) rfl ⟨rfl, bj one_alloc one_alloc⟩
      | (trace_state; fail)
set_option maxRecDepth 100000 in
set_option maxHeartbeats 4000000 in
theorem answer_ok (x : Int) (hx : I64 x) (w : World) : Calls Try.prog 72 #[lgV (lH x) (lL x)] w fun e w' => e = .returned (.tuple #[.agg #[.int .u8 1, .int .i64 x, .string ⟨#[]⟩], .int .i64 0]) ∧ Below w.heap.size w w' := by
  unfold I64 at hx
  have k1 : decide (lH x < -2) = false := decide_eq_false (by unfold lH; omega)
  have k2 : decide (1 < lH x) = false := decide_eq_false (by unfold lH; omega)
  obtain ⟨M, hM⟩ : ∃ M, lH x * 4611686018427387904 = M := ⟨_, rfl⟩
  have w1 : IntKind.i64.wrap (lH x * 4611686018427387904) = M := by rw [IntKind.wrap_i64, ← hM]; unfold lH; omega
  have w2 : IntKind.i64.wrap (M + lL x) = x := by rw [IntKind.wrap_i64, ← hM]; unfold lH lL; omega
  clear hM hx
  obtain ⟨H, hH⟩ : ∃ H, lH x = H := ⟨_, rfl⟩
  obtain ⟨L, hL⟩ : ∃ L, lL x = L := ⟨_, rfl⟩
  rw [hH] at k1 k2 w1
  rw [hL] at w2
  rw [hH, hL]
  clear hH hL
  have hb2 := bj (one_alloc (w := w) (o := .cells #[.int .i64 H, .int .i64 L] 93)) (one_alloc (o := .cells #[.int .u8 0, .int .i64 0, .string ⟨#[]⟩] 23))
  have hz := blk_new (w.alloc (.cells #[.int .i64 H, .int .i64 L] 93)) (w.heap.size + 1) 23 #[.int .u8 0, .int .i64 0, .string ⟨#[]⟩] (by simp)
  go_enter Try.func72, Try.ntmps72
  go_wp2_with fail
  refine (whole_any _ _).mono ?_
  rintro e w4 ⟨rfl, hb4⟩
  have hz4 := blk_step hz hb4
  have hB4 := bj hb2 hb4
  obtain ⟨z0, z1, z2, f0, f1, f2⟩ := cell3 hz4
  clear hb4 hz hb2
  go_wp2
  obtain ⟨e0, e1, e2, _, _, _⟩ := cell3 (blk3_set hz4 (.int .u8 1) (.int .i64 x) (.string ⟨#[]⟩))
  exact bodyPost_ret (v := .tuple #[.agg #[.int .u8 1, .int .i64 x, .string ⟨#[]⟩], .int .i64 0]) (by simp [results, Try.results72, go_sem, e0, e1, e2]) rfl ⟨rfl, ((hB4.setCell (Nat.le_succ _) _).setCell (Nat.le_succ _) _).setCell (Nat.le_succ _) _⟩
theorem answer_any (x : Int) (w : World) : Calls Try.prog 72 #[lgV (lH x) (lL x)] w fun e w' => e = .returned (.tuple #[valV (resZ x).1, .int .i64 (resZ x).2]) ∧ Below w.heap.size w w' := by
  unfold resZ
  by_cases h : -9223372036854775808 ≤ x ∧ x ≤ 9223372036854775807
  · rw [if_pos h]; exact answer_ok x h w
  · rw [if_neg h]; exact answer_over _ _ (answer_out h) w
end Go.Proofs.Ytkgpcodccpckeaa
