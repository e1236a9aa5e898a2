/- ref15.times. Conditions: the numbers are such of 64 bits. -/
import Derived.Test.YtkgpcodccpckeaaEv18
namespace Go.Proofs.Ytkgpcodccpckeaa
open Go.RowKit
set_option linter.unusedVariables false
set_option linter.unusedSimpArgs false
/-- the answer's box, the sum's, the step's -/
def Tms (w : World) (gs : Nat) (X Y : Int) (W : World) : Prop := Blk W w.heap.size 23 #[.int .u8 0, .int .i64 0, .string ⟨#[]⟩] ∧ Blk W (w.heap.size + 1) 93 #[.int .i64 (lH X), .int .i64 (lL X)] ∧ Blk W gs 93 #[.int .i64 (lH Y), .int .i64 (lL Y)] ∧ w.heap.size + 1 < gs ∧ Below w.heap.size w W
theorem tms_step {w W W' : World} {gs : Nat} {X Y : Int} (h : Tms w gs X Y W) (hb : Below W.heap.size W W') : Tms w gs X Y W' := ⟨blk_step h.1 hb, blk_step h.2.1 hb, blk_step h.2.2.1 hb, h.2.2.2.1, bj h.2.2.2.2 hb⟩
theorem tms_setX {w W : World} {gs : Nat} {X Y : Int} (h : Tms w gs X Y W) (X2 : Int) : Tms w gs X2 Y ((W.setCell ⟨w.heap.size + 1, 0, none⟩ (.int .i64 (lH X2))).setCell ⟨w.heap.size + 1, 1, none⟩ (.int .i64 (lL X2))) := by
  obtain ⟨h1, h2, h3, h4, h5⟩ := h
  exact ⟨(h1.far (show w.heap.size ≠ w.heap.size + 1 by omega) _).far (show w.heap.size ≠ w.heap.size + 1 by omega) _, blk2 h2, (h3.far (show gs ≠ w.heap.size + 1 by omega) _).far (show gs ≠ w.heap.size + 1 by omega) _, h4, (h5.setCell (Nat.le_succ _) _).setCell (Nat.le_succ _) _⟩
theorem tms_setY {w W : World} {gs : Nat} {X Y : Int} (h : Tms w gs X Y W) (Y2 : Int) : Tms w gs X Y2 ((W.setCell ⟨gs, 0, none⟩ (.int .i64 (lH Y2))).setCell ⟨gs, 1, none⟩ (.int .i64 (lL Y2))) := by
  obtain ⟨h1, h2, h3, h4, h5⟩ := h
  exact ⟨(h1.far (show w.heap.size ≠ gs by omega) _).far (show w.heap.size ≠ gs by omega) _, (h2.far (show w.heap.size + 1 ≠ gs by omega) _).far (show w.heap.size + 1 ≠ gs by omega) _, blk2 h3, h4, (h5.setCell (show w.heap.size ≤ gs by omega) _).setCell (show w.heap.size ≤ gs by omega) _⟩
theorem tms_new {w W : World} {a : Int} (hb : Below ((w.alloc (.cells #[.int .u8 0, .int .i64 0, .string ⟨#[]⟩] 23)).alloc (.cells #[.int .i64 0, .int .i64 0] 93)).heap.size ((w.alloc (.cells #[.int .u8 0, .int .i64 0, .string ⟨#[]⟩] 23)).alloc (.cells #[.int .i64 0, .int .i64 0] 93)) W) : Tms w W.heap.size 0 a (W.alloc (.cells #[.int .i64 (lH a), .int .i64 (lL a)] 93)) := by
  have e2 : ((w.alloc (.cells #[.int .u8 0, .int .i64 0, .string ⟨#[]⟩] 23)).alloc (.cells #[.int .i64 0, .int .i64 0] 93)).heap.size = w.heap.size + 2 := by simp
  have hs := hb.size
  rw [e2] at hs
  have h1 := blk_step (blk_step (Blk.new w 23 #[.int .u8 0, .int .i64 0, .string ⟨#[]⟩]) (one_alloc (o := .cells #[.int .i64 0, .int .i64 0] 93))) hb
  have h2 := blk_step (blk_new (w.alloc (.cells #[.int .u8 0, .int .i64 0, .string ⟨#[]⟩] 23)) (w.heap.size + 1) 93 #[.int .i64 0, .int .i64 0] (by simp)) hb
  exact ⟨blk_step h1 one_alloc, blk_step h2 one_alloc, Blk.new _ _ _, by omega, bj (bj (bj one_alloc one_alloc) hb) one_alloc⟩
theorem tms_cells {w W : World} {gs : Nat} {X Y : Int} (h : Tms w gs X Y W) : W.cell? ⟨w.heap.size + 1, 0, none⟩ = some (.int .i64 (lH X)) ∧ W.cell? ⟨w.heap.size + 1, 1, none⟩ = some (.int .i64 (lL X)) ∧ W.cell? ⟨gs, 0, none⟩ = some (.int .i64 (lH Y)) ∧ W.cell? ⟨gs, 1, none⟩ = some (.int .i64 (lL Y)) := ⟨h.2.1.cell 0, h.2.1.cell 1, h.2.2.1.cell 0, h.2.2.1.cell 1⟩
theorem tms_froz {w W : World} {gs : Nat} {X Y : Int} (h : Tms w gs X Y W) : W.frozen? ⟨w.heap.size + 1, 0, none⟩ = false ∧ W.frozen? ⟨w.heap.size + 1, 1, none⟩ = false ∧ W.frozen? ⟨gs, 0, none⟩ = false ∧ W.frozen? ⟨gs, 1, none⟩ = false := ⟨h.2.1.frozen 0, h.2.1.frozen 1, h.2.2.1.frozen 0, h.2.2.1.frozen 1⟩
/-- what stands while there is something left: n times the step, and the sum, are T -/
def Tmi (T n X Y : Int) : Prop := X + Y * n = T ∧ 0 ≤ n ∧ n ≤ 9223372036854775807 ∧ (-1099511627776 ≤ lH Y ∧ lH Y ≤ 1099511627776) ∧ ((0 ≤ X ∧ 0 ≤ Y ∧ (0 < n → X ≤ Y) ∧ X ≤ 2 * Y) ∨ (X ≤ 0 ∧ Y ≤ 0 ∧ (0 < n → Y ≤ X) ∧ 2 * Y ≤ X))
theorem tmi_start {a b : Int} (ha : I64 a) (hb : 0 ≤ b) (hb1 : I64 b) : Tmi (a * b) b 0 a := by
  unfold I64 at ha hb1
  refine ⟨by omega, hb, hb1.2, by unfold lH; omega, ?_⟩
  by_cases h : 0 ≤ a
  · exact .inl ⟨by omega, h, fun _ => h, by omega⟩
  · exact .inr ⟨by omega, by omega, fun _ => by omega, by omega⟩
theorem tmi_b {T n X Y : Int} (h : Tmi T n X Y) : I120 X ∧ I120 Y ∧ I120 (Y + Y) := by
  obtain ⟨_, _, _, h4, h5⟩ := h
  unfold lH at h4
  unfold I120
  omega
/-- an odd one, behind which nothing is left -/
theorem tmi_last {T n X Y : Int} (h : Tmi T n X Y) (hn : n = 1) : Tmi T 0 (X + Y) Y := by
  obtain ⟨h1, h2, h3, h4, h5⟩ := h
  subst hn
  refine ⟨by omega, by omega, by omega, h4, ?_⟩
  rcases h5 with ⟨a, b, c, d⟩ | ⟨a, b, c, d⟩
  · have := c (by omega); exact .inl ⟨by omega, b, fun h => by omega, by omega⟩
  · have := c (by omega); exact .inr ⟨by omega, b, fun h => by omega, by omega⟩
theorem twice_mul (Y m : Int) : Y * (2 * m) = (Y + Y) * m := by rw [Int.add_mul, Int.mul_left_comm]; omega
/-- the sum behind a round, whose step is taken twice -/
theorem tmi_more {T n X Y m X' : Int} (h : Tmi T n X Y) (hm : 0 < m) (hX : (n = 2 * m + 1 ∧ X' = X + Y) ∨ (n = 2 * m ∧ X' = X)) : X' + (Y + Y) * m = T ∧ ((0 ≤ X' ∧ 0 ≤ Y ∧ X' ≤ Y + Y) ∨ (X' ≤ 0 ∧ Y ≤ 0 ∧ Y + Y ≤ X')) := by
  obtain ⟨h1, h2, h3, h4, h5⟩ := h
  have e := twice_mul Y m
  constructor
  · rcases hX with ⟨g1, g2⟩ | ⟨g1, g2⟩
    · rw [g1, Int.mul_add] at h1
      omega
    · rw [g1] at h1
      omega
  · rcases h5 with ⟨a, b, c, d⟩ | ⟨a, b, c, d⟩
    · have := c (by omega); exact .inl (by omega)
    · have := c (by omega); exact .inr (by omega)
theorem tmi_next {T n X Y m X' : Int} (h : Tmi T n X Y) (hm : 0 < m) (hX : (n = 2 * m + 1 ∧ X' = X + Y) ∨ (n = 2 * m ∧ X' = X)) (hl : -1099511627776 ≤ lH (Y + Y) ∧ lH (Y + Y) ≤ 1099511627776) : Tmi T m X' (Y + Y) := by
  obtain ⟨g1, g2⟩ := tmi_more h hm hX
  have h2 := h.2.1
  have h3 := h.2.2.1
  refine ⟨g1, by omega, by omega, hl, ?_⟩
  rcases g2 with ⟨a, b, c⟩ | ⟨a, b, c⟩
  · exact .inl ⟨a, by omega, fun _ => c, by omega⟩
  · exact .inr ⟨a, by omega, fun _ => c, by omega⟩
theorem tmi_over {T n X Y m X' : Int} (h : Tmi T n X Y) (hm : 0 < m) (hX : (n = 2 * m + 1 ∧ X' = X + Y) ∨ (n = 2 * m ∧ X' = X)) (hl : ¬ (-1099511627776 ≤ lH (Y + Y) ∧ lH (Y + Y) ≤ 1099511627776)) : resZ T = ((0, 0, ⟨#[]⟩), 152) := by
  obtain ⟨g1, g2⟩ := tmi_more h hm hX
  unfold resZ
  rw [if_neg ?_]
  unfold lH at hl
  rcases g2 with ⟨a, b, c⟩ | ⟨a, b, c⟩
  · have := Int.mul_le_mul_of_nonneg_left (show (1 : Int) ≤ m by omega) (show 0 ≤ Y + Y by omega)
    omega
  · have := Int.mul_le_mul_of_nonneg_left (show (1 : Int) ≤ m by omega) (show 0 ≤ -(Y + Y) by omega)
    rw [Int.neg_mul, Int.neg_mul] at this
    omega
theorem tmi_half {n : Int} (h : 0 < n) (h2 : n ≤ 9223372036854775807) : n.tdiv 2 = n / 2 ∧ n.tmod 2 = n % 2 ∧ IntKind.i64.wrap (n / 2) = n / 2 := by
  refine ⟨Int.tdiv_eq_ediv_of_nonneg (by omega), Int.tmod_eq_emod_of_nonneg (by omega), ?_⟩
  rw [IntKind.wrap_i64]
  omega
set_option maxRecDepth 100000 in
set_option maxHeartbeats 8000000 in
theorem times_pos (a b z1 z2 ze : Int) (z3 : ByteArray) (ha : I64 a) (hb : I64 b) (hb0 : 0 ≤ b) (hr : resZ (a * b) = ((z1, z2, z3), ze)) (w : World) : Calls Try.prog 85 #[.int .i64 a, .int .i64 b] w fun e w' => e = .returned (.tuple #[.agg #[.int .u8 z1, .int .i64 z2, .string z3], .int .i64 ze]) ∧ Below w.heap.size w w' := by
  have HI0 := Lib.hid (tmi_start ha hb0 hb)
  have HLG := Lib.hid (long_any a ha)
  obtain ⟨T, hT⟩ : ∃ T, a * b = T := ⟨_, rfl⟩
  rw [hT] at hr HI0
  have HR := Lib.hid hr
  have hbn : decide (b < 0) = false := decide_eq_false (by omega)
  clear ha hb hb0 hr hT
  go_enter Try.func85, Try.ntmps85
  go_wp2_with fail
  refine (HLG.out _).mono ?_
  rintro e wl ⟨rfl, hbl⟩
  have HST := Lib.hid (tms_new (a := a) hbl)
  clear hbl
  obtain ⟨gs, hgs⟩ : ∃ gs, wl.heap.size = gs := ⟨_, rfl⟩
  go_wp2
  rw [hgs] at HST
  clear hgs
  go_loopw [1] (fun bb wr => ∃ (n X Y : Int), bb = .int .i64 n ∧ Tmi T n X Y ∧ Tms w gs X Y wr) (fun bb _ => (intOf bb).toNat)
  case atStart => exact ⟨b, 0, a, rfl, HI0.out, HST.out⟩
  case round =>
    clear HST HI0
    obtain ⟨n, X, Y, rfl, hi, hst⟩ := hrel
    have HST := Lib.hid hst
    have HI := Lib.hid hi
    obtain ⟨bX, bY, _⟩ := tmi_b hi
    have HPX := Lib.hid (lplus_any X Y bX bY)
    have HPY := Lib.hid (lplus_any Y Y bY bY)
    clear bX bY hst
    obtain ⟨p0_a, p1_a, p2_a, p3_a⟩ := tms_cells HST.out
    obtain ⟨q0_a, q1_a, q2_a, q3_a⟩ := tms_froz HST.out
    obtain ⟨z0_a, z1_a, z2_a, f0_a, f1_a, f2_a⟩ := cell3 HST.out.1
    by_cases hn : 0 < n
    · obtain ⟨hd1, hd2, hd3⟩ := tmi_half hn hi.2.2.1
      obtain ⟨m, hm0⟩ : ∃ m, n / 2 = m := ⟨_, rfl⟩
      rw [hm0] at hd1 hd3
      by_cases hm : 0 < m
      · have HM := Lib.hid hm
        rcases (show n % 2 = 1 ∨ n % 2 = 0 by omega) with hd | hd
        · have HN : Hid (n = 2 * m + 1) := Lib.hid (by omega)
          rw [hd] at hd2
          clear hi
          go_wp2_with fail
          refine (HPX.out _).mono ?_
          rintro e w5 ⟨rfl, hb5⟩
          have HST5 := Lib.hid (tms_step HST.out hb5)
          have HST6 := Lib.hid (tms_setX HST5.out (X + Y))
          clear HST hb5
          clear p0_a p1_a p2_a p3_a q0_a q1_a q2_a q3_a z0_a z1_a z2_a f0_a f1_a f2_a
          obtain ⟨p0_b, p1_b, p2_b, p3_b⟩ := tms_cells HST5.out
          obtain ⟨q0_b, q1_b, q2_b, q3_b⟩ := tms_froz HST5.out
          obtain ⟨z0_b, z1_b, z2_b, f0_b, f1_b, f2_b⟩ := cell3 HST5.out.1
          obtain ⟨p0_c, p1_c, p2_c, p3_c⟩ := tms_cells HST6.out
          obtain ⟨q0_c, q1_c, q2_c, q3_c⟩ := tms_froz HST6.out
          obtain ⟨z0_c, z1_c, z2_c, f0_c, f1_c, f2_c⟩ := cell3 HST6.out.1
          go_wp2_with fail
          refine (HPY.out _).mono ?_
          rintro e w7 ⟨rfl, hb7⟩
          have HST7 := Lib.hid (tms_step HST6.out hb7)
          have HST8 := Lib.hid (tms_setY HST7.out (Y + Y))
          clear HST6 hb7
          clear p0_b p1_b p2_b p3_b q0_b q1_b q2_b q3_b z0_b z1_b z2_b f0_b f1_b f2_b
          clear p0_c p1_c p2_c p3_c q0_c q1_c q2_c q3_c z0_c z1_c z2_c f0_c f1_c f2_c
          obtain ⟨p0_d, p1_d, p2_d, p3_d⟩ := tms_cells HST7.out
          obtain ⟨q0_d, q1_d, q2_d, q3_d⟩ := tms_froz HST7.out
          obtain ⟨z0_d, z1_d, z2_d, f0_d, f1_d, f2_d⟩ := cell3 HST7.out.1
          obtain ⟨p0_e, p1_e, p2_e, p3_e⟩ := tms_cells HST8.out
          obtain ⟨q0_e, q1_e, q2_e, q3_e⟩ := tms_froz HST8.out
          obtain ⟨z0_e, z1_e, z2_e, f0_e, f1_e, f2_e⟩ := cell3 HST8.out.1
          by_cases hl : -1099511627776 ≤ lH (Y + Y) ∧ lH (Y + Y) ≤ 1099511627776
          · have HL := Lib.hid hl
            obtain ⟨k1, k2⟩ : decide (lH (Y + Y) < -1099511627776) = false ∧ decide (1099511627776 < lH (Y + Y)) = false := ⟨decide_eq_false (by omega), decide_eq_false (by omega)⟩
            clear hl
            go_wp2
            go_roundw
            case rel => exact ⟨m, (X + Y), Y + Y, rfl, tmi_next HI.out hm (.inl ⟨HN.out, rfl⟩) HL.out, HST8.out⟩
            case measure => simp only [intOf]; have := HN.out; omega
          · have HL := Lib.hid hl
            have hk : lH (Y + Y) < -1099511627776 ∨ (decide (lH (Y + Y) < -1099511627776) = false ∧ 1099511627776 < lH (Y + Y)) := by
              by_cases h2 : lH (Y + Y) < -1099511627776
              · exact .inl h2
              · exact .inr ⟨decide_eq_false h2, by omega⟩
            clear hl
            rcases hk with k1 | ⟨k1, k2⟩
            · have hov := HR.out
              rw [tmi_over HI.out HM.out (.inl ⟨HN.out, rfl⟩) HL.out] at hov
              obtain ⟨⟨rfl, rfl, rfl⟩, rfl⟩ : ((0 : Int) = z1 ∧ (0 : Int) = z2 ∧ (⟨#[]⟩ : ByteArray) = z3) ∧ (152 : Int) = ze := by simpa using hov
              clear hov
              go_wp2
              obtain ⟨e0, e1, e2, _, _, _⟩ := cell3 (blk3_set HST8.out.1 (.int .u8 0) (.int .i64 0) (.string ⟨#[]⟩))
              exact bodyPost_ret (v := .tuple #[.agg #[.int .u8 0, .int .i64 0, .string ⟨#[]⟩], .int .i64 152]) (by simp [results, Try.results85, go_sem, e0, e1, e2]) rfl ⟨rfl, below3_set HST8.out.2.2.2.2 _ _ _⟩
            · have hov := HR.out
              rw [tmi_over HI.out HM.out (.inl ⟨HN.out, rfl⟩) HL.out] at hov
              obtain ⟨⟨rfl, rfl, rfl⟩, rfl⟩ : ((0 : Int) = z1 ∧ (0 : Int) = z2 ∧ (⟨#[]⟩ : ByteArray) = z3) ∧ (152 : Int) = ze := by simpa using hov
              clear hov
              go_wp2
              obtain ⟨e0, e1, e2, _, _, _⟩ := cell3 (blk3_set HST8.out.1 (.int .u8 0) (.int .i64 0) (.string ⟨#[]⟩))
              exact bodyPost_ret (v := .tuple #[.agg #[.int .u8 0, .int .i64 0, .string ⟨#[]⟩], .int .i64 152]) (by simp [results, Try.results85, go_sem, e0, e1, e2]) rfl ⟨rfl, below3_set HST8.out.2.2.2.2 _ _ _⟩
        · have HN : Hid (n = 2 * m) := Lib.hid (by omega)
          rw [hd] at hd2
          clear hi
          go_wp2_with fail
          refine (HPY.out _).mono ?_
          rintro e w7 ⟨rfl, hb7⟩
          have HST7 := Lib.hid (tms_step HST.out hb7)
          have HST8 := Lib.hid (tms_setY HST7.out (Y + Y))
          clear HST hb7
          clear p0_a p1_a p2_a p3_a q0_a q1_a q2_a q3_a z0_a z1_a z2_a f0_a f1_a f2_a
          obtain ⟨p0_d, p1_d, p2_d, p3_d⟩ := tms_cells HST7.out
          obtain ⟨q0_d, q1_d, q2_d, q3_d⟩ := tms_froz HST7.out
          obtain ⟨z0_d, z1_d, z2_d, f0_d, f1_d, f2_d⟩ := cell3 HST7.out.1
          obtain ⟨p0_e, p1_e, p2_e, p3_e⟩ := tms_cells HST8.out
          obtain ⟨q0_e, q1_e, q2_e, q3_e⟩ := tms_froz HST8.out
          obtain ⟨z0_e, z1_e, z2_e, f0_e, f1_e, f2_e⟩ := cell3 HST8.out.1
          by_cases hl : -1099511627776 ≤ lH (Y + Y) ∧ lH (Y + Y) ≤ 1099511627776
          · have HL := Lib.hid hl
            obtain ⟨k1, k2⟩ : decide (lH (Y + Y) < -1099511627776) = false ∧ decide (1099511627776 < lH (Y + Y)) = false := ⟨decide_eq_false (by omega), decide_eq_false (by omega)⟩
            clear hl
            go_wp2
            go_roundw
            case rel => exact ⟨m, X, Y + Y, rfl, tmi_next HI.out hm (.inr ⟨HN.out, rfl⟩) HL.out, HST8.out⟩
            case measure => simp only [intOf]; have := HN.out; omega
          · have HL := Lib.hid hl
            have hk : lH (Y + Y) < -1099511627776 ∨ (decide (lH (Y + Y) < -1099511627776) = false ∧ 1099511627776 < lH (Y + Y)) := by
              by_cases h2 : lH (Y + Y) < -1099511627776
              · exact .inl h2
              · exact .inr ⟨decide_eq_false h2, by omega⟩
            clear hl
            rcases hk with k1 | ⟨k1, k2⟩
            · have hov := HR.out
              rw [tmi_over HI.out HM.out (.inr ⟨HN.out, rfl⟩) HL.out] at hov
              obtain ⟨⟨rfl, rfl, rfl⟩, rfl⟩ : ((0 : Int) = z1 ∧ (0 : Int) = z2 ∧ (⟨#[]⟩ : ByteArray) = z3) ∧ (152 : Int) = ze := by simpa using hov
              clear hov
              go_wp2
              obtain ⟨e0, e1, e2, _, _, _⟩ := cell3 (blk3_set HST8.out.1 (.int .u8 0) (.int .i64 0) (.string ⟨#[]⟩))
              exact bodyPost_ret (v := .tuple #[.agg #[.int .u8 0, .int .i64 0, .string ⟨#[]⟩], .int .i64 152]) (by simp [results, Try.results85, go_sem, e0, e1, e2]) rfl ⟨rfl, below3_set HST8.out.2.2.2.2 _ _ _⟩
            · have hov := HR.out
              rw [tmi_over HI.out HM.out (.inr ⟨HN.out, rfl⟩) HL.out] at hov
              obtain ⟨⟨rfl, rfl, rfl⟩, rfl⟩ : ((0 : Int) = z1 ∧ (0 : Int) = z2 ∧ (⟨#[]⟩ : ByteArray) = z3) ∧ (152 : Int) = ze := by simpa using hov
              clear hov
              go_wp2
              obtain ⟨e0, e1, e2, _, _, _⟩ := cell3 (blk3_set HST8.out.1 (.int .u8 0) (.int .i64 0) (.string ⟨#[]⟩))
              exact bodyPost_ret (v := .tuple #[.agg #[.int .u8 0, .int .i64 0, .string ⟨#[]⟩], .int .i64 152]) (by simp [results, Try.results85, go_sem, e0, e1, e2]) rfl ⟨rfl, below3_set HST8.out.2.2.2.2 _ _ _⟩
      · have HN : Hid (n = 1) := Lib.hid (by omega)
        obtain rfl : n = 1 := HN.out
        obtain rfl : m = 0 := by omega
        obtain ⟨k1, k2⟩ : decide (lH Y < -1099511627776) = false ∧ decide (1099511627776 < lH Y) = false := by
          have := hi.2.2.2.1
          exact ⟨decide_eq_false (by omega), decide_eq_false (by omega)⟩
        clear hi hd1 hd2 hd3 hm0 hm
        go_wp2_with fail
        refine (HPX.out _).mono ?_
        rintro e w5 ⟨rfl, hb5⟩
        have HST5 := Lib.hid (tms_step HST.out hb5)
        have HST6 := Lib.hid (tms_setX HST5.out (X + Y))
        clear HST hb5
        clear p0_a p1_a p2_a p3_a q0_a q1_a q2_a q3_a z0_a z1_a z2_a f0_a f1_a f2_a
        obtain ⟨p0_b, p1_b, p2_b, p3_b⟩ := tms_cells HST5.out
        obtain ⟨q0_b, q1_b, q2_b, q3_b⟩ := tms_froz HST5.out
        obtain ⟨z0_b, z1_b, z2_b, f0_b, f1_b, f2_b⟩ := cell3 HST5.out.1
        obtain ⟨p0_c, p1_c, p2_c, p3_c⟩ := tms_cells HST6.out
        obtain ⟨q0_c, q1_c, q2_c, q3_c⟩ := tms_froz HST6.out
        obtain ⟨z0_c, z1_c, z2_c, f0_c, f1_c, f2_c⟩ := cell3 HST6.out.1
        go_wp2
        go_roundw
        case rel => exact ⟨0, X + Y, Y, rfl, tmi_last HI.out rfl, HST6.out⟩
        case measure => simp only [intOf]; omega
    · obtain rfl : n = 0 := by have := hi.2.1; omega
      have hT : X = T := by have := hi.1; omega
      subst hT
      clear hi hn
      have HA := answer_any X
      rw [HR.out] at HA
      have HAN := Lib.hid HA
      clear HA
      go_wp2_with fail
      refine (HAN.out _).mono ?_
      rintro e w9 ⟨rfl, hb9⟩
      have HST9 := Lib.hid (tms_step HST.out hb9)
      clear HST hb9
      clear p0_a p1_a p2_a p3_a q0_a q1_a q2_a q3_a z0_a z1_a z2_a f0_a f1_a f2_a
      obtain ⟨p0_b, p1_b, p2_b, p3_b⟩ := tms_cells HST9.out
      obtain ⟨q0_b, q1_b, q2_b, q3_b⟩ := tms_froz HST9.out
      obtain ⟨z0_b, z1_b, z2_b, f0_b, f1_b, f2_b⟩ := cell3 HST9.out.1
      go_wp2
      obtain ⟨e0, e1, e2, _, _, _⟩ := cell3 (blk3_set HST9.out.1 (.int .u8 z1) (.int .i64 z2) (.string z3))
      exact bodyPost_ret (v := .tuple #[.agg #[.int .u8 z1, .int .i64 z2, .string z3], .int .i64 ze]) (by simp [results, Try.results85, go_sem, e0, e1, e2]) rfl ⟨rfl, below3_set HST9.out.2.2.2.2 _ _ _⟩
end Go.Proofs.Ytkgpcodccpckeaa
