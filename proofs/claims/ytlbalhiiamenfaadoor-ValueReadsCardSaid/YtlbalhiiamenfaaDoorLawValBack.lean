/- The walk of ValueBack. Conditions: the numbers fit their kinds; the laid variables hold what they should. -/
import Derived.Test.YtlbalhiiamenfaaDoorLawValChecks
namespace Go.Proofs.YtlbalhiiamenfaaDoor
open Go.RowKit
set_option linter.unusedVariables false
theorem v1_alloc {w W : World} {x : Val} (h : V1 w x W) (o : Obj) : V1 w x (W.alloc o) := v1_below h ((Below.refl _ _).alloc (Nat.le_refl _) _)
theorem read_back (s : ByteArray) (W : World) (hG : Gl W) (hl : s.size ≤ 100000) {v : Val} {e : Int} (h : readZ (bts s) = (v, e)) : Calls Tryd.prog 10 #[.string s] W fun en w' => en = .returned (.tuple #[.agg #[.int .u8 v.1, .int .i64 v.2.1, .string v.2.2], .int .i64 e]) ∧ Below W.heap.size W w' := by
  have hr := read_any s W hG hl
  rw [h] at hr
  exact hr
theorem litL_len {x : Val} (h : chk x = 0) (hf : Fits x) : (bstr (litL x)).size ≤ 100000 := by
  obtain ⟨k1, k2, k3, k4⟩ := chk_of h
  rw [bstr_size]
  unfold litL
  rw [if_neg (by rw [h]; simp)]
  split
  · simp [nulL]
  · split
    · have := Lib.itoa_length_le x.2.1 hf.2.2.1 hf.2.2.2
      unfold itoL
      rw [List.length_map]; omega
    · have hl := bts_length x.2.2
      split
      · have := (dqL_le (bts x.2.2)).2
        simp; omega
      · have := hexL_len (bts x.2.2)
        simp; omega
set_option maxRecDepth 100000 in
set_option maxHeartbeats 8000000 in
theorem valueBack_walk (a0 b0 : Int) (c0 : ByteArray) (a1 : ByteArray) (wa0 : (Lit.int .u8 a0).wf = true) (wb0 : (Lit.int .i64 b0).wf = true) (wc0 : c0.size ≤ 140737488351232) (w1 : a1.size ≤ 140737488351232) (w : World) (hG : Gl w) :
    Calls Tryd.prog 9 #[.agg #[.int .u8 a0, .int .i64 b0, .string c0], .string a1] w fun e w' => e = .returned (.bool true) ∧ Below w.heap.size w w' := by
  have hf0 := fits_wf (s := c0) wa0 wb0
  have HW := Lib.hid (fun W (h : V1 w (a0, b0, c0) W) => v1_call h (works7 W (gl_below hG h.2)))
  have H0 := Lib.hid (show V1 w (a0, b0, c0) (w.alloc (.cells (valC (a0, b0, c0)) 24)) from ⟨Blk.new _ _ _, one_alloc⟩)
  have HL := Lib.hid long7
  have HG := Lib.hid hG
  clear hG wa0 wb0 w1 wc0
  by_cases l0 : 16384 < c0.size
  · have d0 : decide (16384 < c0.size) = true := decide_eq_true l0
    clear l0 hf0
    go_enter Tryd.func9, Tryd.ntmps9
    go_wp2_with fail
    refine (HW.out _ H0.out).mono ?_
    rintro e w1 ⟨rfl, h1⟩
    obtain ⟨x0, x1, x2, _⟩ := v1_S h1
    have H1 := Lib.hid h1
    clear h1
    go_wp2_with fail
    refine (HL.out _ _).mono ?_
    rintro e w2 ⟨rfl, rfl⟩
    go_wp2
    go_ret
    exact ⟨rfl, H1.out.2⟩
  · have d0 : decide (16384 < c0.size) = false := decide_eq_false l0
    by_cases l1 : 16384 < a1.size
    · have d1 : decide (16384 < a1.size) = true := decide_eq_true l1
      clear l0 l1 hf0
      go_enter Tryd.func9, Tryd.ntmps9
      go_wp2_with fail
      refine (HW.out _ H0.out).mono ?_
      rintro e w1 ⟨rfl, h1⟩
      obtain ⟨x0, x1, x2, _⟩ := v1_S h1
      have H1 := Lib.hid h1
      clear h1
      go_wp2_with fail
      refine (HL.out _ _).mono ?_
      rintro e w2 ⟨rfl, rfl⟩
      go_wp2_with fail
      refine (HL.out _ _).mono ?_
      rintro e w2 ⟨rfl, rfl⟩
      go_wp2
      go_ret
      exact ⟨rfl, H1.out.2⟩
    · have d1 : decide (16384 < a1.size) = false := decide_eq_false l1
      have hck := fun W (h : V1 w (a0, b0, c0) W) => v1_call h (check_any (a0, b0, c0) W hf0)
      rcases readZ_some (bts_lt a1) with ⟨⟨k, m, t⟩, hz, hfz, hcz, hlz⟩ | hz | hz
      · have HRS := Lib.hid (fun W (hb : Below w.heap.size w W) => read_back a1 W (gl_below HG.out hb) (by omega) hz)
        have HCV := Lib.hid (check0 hfz hcz)
        have hlv := fun W (hb : Below w.heap.size w W) => lit_any (k, m, t) W (gl_below HG.out hb) hfz
        rw [hlz, bstr_bts] at hlv
        have HLV := Lib.hid hlv
        clear hz hfz hcz hlz hlv
        by_cases hc : chk (a0, b0, c0) = 0
        · rw [hc] at hck
          have HC := Lib.hid hck
          have HLI := Lib.hid (fun W (h : V1 w (a0, b0, c0) W) => v1_call h (lit_any (a0, b0, c0) W (gl_below HG.out h.2) hf0))
          have hrb : readZ (bts (bstr (litL (a0, b0, c0)))) = ((a0, b0, c0), 0) := by rw [bts_bstr _ (litL_lt _)]; exact readZ_lit hf0 hc
          have HRL := Lib.hid (fun W (h : V1 w (a0, b0, c0) W) => v1_call h (read_back (bstr (litL (a0, b0, c0))) W (gl_below HG.out h.2) (litL_len hc hf0) hrb))
          generalize bstr (litL (a0, b0, c0)) = X at *
          clear hck hc hf0 l0 l1 hrb
          go_enter Tryd.func9, Tryd.ntmps9
          go_wp2_with fail
          refine (HW.out _ H0.out).mono ?_
          rintro e w1 ⟨rfl, h1⟩
          obtain ⟨x0, x1, x2, _⟩ := v1_S h1
          have H1 := Lib.hid h1
          clear h1
          go_wp2_with fail
          refine (HL.out _ _).mono ?_
          rintro e w2 ⟨rfl, rfl⟩
          go_wp2_with fail
          refine (HL.out _ _).mono ?_
          rintro e w2 ⟨rfl, rfl⟩
          go_wp2_with fail
          refine (HC.out _ H1.out).mono ?_
          rintro e w3 ⟨rfl, h3⟩
          obtain ⟨u0, u1, u2, _⟩ := v1_S h3
          have H3 := Lib.hid h3
          clear h3 x0 x1 x2
          go_wp2_with fail
          refine (HLI.out _ H3.out).mono ?_
          rintro e w4 ⟨rfl, h4⟩
          have H4 := Lib.hid h4
          clear h4 u0 u1 u2
          go_wp2_with fail
          refine (HRL.out _ H4.out).mono ?_
          rintro e w5 ⟨rfl, h5⟩
          have h6 := v1_alloc h5 (.cells #[.int .u8 a0, .int .i64 b0, .string c0] 24)
          obtain ⟨u0, u1, u2, _⟩ := v1_S h6
          obtain ⟨q0, q1, q2, _, _, _⟩ := cell3 (Blk.new w5 24 #[.int .u8 a0, .int .i64 b0, .string c0])
          have HB := Lib.hid h6
          clear h5 h6
          go_wp2_with fail
          refine (HRS.out _ HB.out.2).mono ?_
          rintro e w7 ⟨rfl, hb7⟩
          have hk := (v1_alloc (v1_below HB.out hb7) (.cells #[.int .u8 k, .int .i64 m, .string t] 24))
          have hk2 := Blk.new w7 24 #[.int .u8 k, .int .i64 m, .string t]
          obtain ⟨y0, y1, y2, _, _, _⟩ := cell3 hk2
          have HK := Lib.hid hk
          have HK2 := Lib.hid hk2
          clear hb7 hk hk2
          go_wp2_with fail
          refine (HCV.out _).mono ?_
          rintro e w8 ⟨rfl, hb8⟩
          obtain ⟨z0, z1, z2, _, _, _⟩ := cell3 (blk_step HK2.out hb8)
          have HK8 := Lib.hid (v1_below HK.out hb8)
          clear hb8
          go_wp2_with fail
          refine (HLV.out _ HK8.out.2).mono ?_
          rintro e w9 ⟨rfl, hb9⟩
          have HK9 := Lib.hid (v1_below HK8.out hb9)
          clear hb9
          go_wp2
          go_ret
          exact ⟨rfl, HK9.out.2⟩
        · have hcn := beq_no hc
          generalize chk (a0, b0, c0) = E at *
          have HC := Lib.hid hck
          clear hck hc hf0 l0 l1
          go_enter Tryd.func9, Tryd.ntmps9
          go_wp2_with fail
          refine (HW.out _ H0.out).mono ?_
          rintro e w1 ⟨rfl, h1⟩
          obtain ⟨x0, x1, x2, _⟩ := v1_S h1
          have H1 := Lib.hid h1
          clear h1
          go_wp2_with fail
          refine (HL.out _ _).mono ?_
          rintro e w2 ⟨rfl, rfl⟩
          go_wp2_with fail
          refine (HL.out _ _).mono ?_
          rintro e w2 ⟨rfl, rfl⟩
          go_wp2_with fail
          refine (HC.out _ H1.out).mono ?_
          rintro e w3 ⟨rfl, h3⟩
          obtain ⟨u0, u1, u2, _⟩ := v1_S h3
          have H3 := Lib.hid h3
          clear h3 x0 x1 x2
          have HB := H3
          go_wp2_with fail
          refine (HRS.out _ HB.out.2).mono ?_
          rintro e w7 ⟨rfl, hb7⟩
          have hk := (v1_alloc (v1_below HB.out hb7) (.cells #[.int .u8 k, .int .i64 m, .string t] 24))
          have hk2 := Blk.new w7 24 #[.int .u8 k, .int .i64 m, .string t]
          obtain ⟨y0, y1, y2, _, _, _⟩ := cell3 hk2
          have HK := Lib.hid hk
          have HK2 := Lib.hid hk2
          clear hb7 hk hk2
          go_wp2_with fail
          refine (HCV.out _).mono ?_
          rintro e w8 ⟨rfl, hb8⟩
          obtain ⟨z0, z1, z2, _, _, _⟩ := cell3 (blk_step HK2.out hb8)
          have HK8 := Lib.hid (v1_below HK.out hb8)
          clear hb8
          go_wp2_with fail
          refine (HLV.out _ HK8.out.2).mono ?_
          rintro e w9 ⟨rfl, hb9⟩
          have HK9 := Lib.hid (v1_below HK8.out hb9)
          clear hb9
          go_wp2
          go_ret
          exact ⟨rfl, HK9.out.2⟩
      · have HRS := Lib.hid (fun W (hb : Below w.heap.size w W) => read_back a1 W (gl_below HG.out hb) (by omega) hz)
        simp only [nulV] at HRS
        rw [show (bstr [] : ByteArray) = ⟨#[]⟩ from rfl] at HRS
        clear hz
        by_cases hc : chk (a0, b0, c0) = 0
        · rw [hc] at hck
          have HC := Lib.hid hck
          have HLI := Lib.hid (fun W (h : V1 w (a0, b0, c0) W) => v1_call h (lit_any (a0, b0, c0) W (gl_below HG.out h.2) hf0))
          have hrb : readZ (bts (bstr (litL (a0, b0, c0)))) = ((a0, b0, c0), 0) := by rw [bts_bstr _ (litL_lt _)]; exact readZ_lit hf0 hc
          have HRL := Lib.hid (fun W (h : V1 w (a0, b0, c0) W) => v1_call h (read_back (bstr (litL (a0, b0, c0))) W (gl_below HG.out h.2) (litL_len hc hf0) hrb))
          generalize bstr (litL (a0, b0, c0)) = X at *
          clear hck hc hf0 l0 l1 hrb
          go_enter Tryd.func9, Tryd.ntmps9
          go_wp2_with fail
          refine (HW.out _ H0.out).mono ?_
          rintro e w1 ⟨rfl, h1⟩
          obtain ⟨x0, x1, x2, _⟩ := v1_S h1
          have H1 := Lib.hid h1
          clear h1
          go_wp2_with fail
          refine (HL.out _ _).mono ?_
          rintro e w2 ⟨rfl, rfl⟩
          go_wp2_with fail
          refine (HL.out _ _).mono ?_
          rintro e w2 ⟨rfl, rfl⟩
          go_wp2_with fail
          refine (HC.out _ H1.out).mono ?_
          rintro e w3 ⟨rfl, h3⟩
          obtain ⟨u0, u1, u2, _⟩ := v1_S h3
          have H3 := Lib.hid h3
          clear h3 x0 x1 x2
          go_wp2_with fail
          refine (HLI.out _ H3.out).mono ?_
          rintro e w4 ⟨rfl, h4⟩
          have H4 := Lib.hid h4
          clear h4 u0 u1 u2
          go_wp2_with fail
          refine (HRL.out _ H4.out).mono ?_
          rintro e w5 ⟨rfl, h5⟩
          have h6 := v1_alloc h5 (.cells #[.int .u8 a0, .int .i64 b0, .string c0] 24)
          obtain ⟨u0, u1, u2, _⟩ := v1_S h6
          obtain ⟨q0, q1, q2, _, _, _⟩ := cell3 (Blk.new w5 24 #[.int .u8 a0, .int .i64 b0, .string c0])
          have HB := Lib.hid h6
          clear h5 h6
          go_wp2_with fail
          refine (HRS.out _ HB.out.2).mono ?_
          rintro e w7 ⟨rfl, hb7⟩
          have hk := (v1_alloc (v1_below HB.out hb7) (.cells #[.int .u8 0, .int .i64 0, .string ⟨#[]⟩] 24))
          have hk2 := Blk.new w7 24 #[.int .u8 0, .int .i64 0, .string ⟨#[]⟩]
          obtain ⟨y0, y1, y2, _, _, _⟩ := cell3 hk2
          have HK := Lib.hid hk
          clear hb7 hk hk2
          go_wp2
          go_ret
          exact ⟨rfl, HK.out.2⟩
        · have hcn := beq_no hc
          generalize chk (a0, b0, c0) = E at *
          have HC := Lib.hid hck
          clear hck hc hf0 l0 l1
          go_enter Tryd.func9, Tryd.ntmps9
          go_wp2_with fail
          refine (HW.out _ H0.out).mono ?_
          rintro e w1 ⟨rfl, h1⟩
          obtain ⟨x0, x1, x2, _⟩ := v1_S h1
          have H1 := Lib.hid h1
          clear h1
          go_wp2_with fail
          refine (HL.out _ _).mono ?_
          rintro e w2 ⟨rfl, rfl⟩
          go_wp2_with fail
          refine (HL.out _ _).mono ?_
          rintro e w2 ⟨rfl, rfl⟩
          go_wp2_with fail
          refine (HC.out _ H1.out).mono ?_
          rintro e w3 ⟨rfl, h3⟩
          obtain ⟨u0, u1, u2, _⟩ := v1_S h3
          have H3 := Lib.hid h3
          clear h3 x0 x1 x2
          have HB := H3
          go_wp2_with fail
          refine (HRS.out _ HB.out.2).mono ?_
          rintro e w7 ⟨rfl, hb7⟩
          have hk := (v1_alloc (v1_below HB.out hb7) (.cells #[.int .u8 0, .int .i64 0, .string ⟨#[]⟩] 24))
          have hk2 := Blk.new w7 24 #[.int .u8 0, .int .i64 0, .string ⟨#[]⟩]
          obtain ⟨y0, y1, y2, _, _, _⟩ := cell3 hk2
          have HK := Lib.hid hk
          clear hb7 hk hk2
          go_wp2
          go_ret
          exact ⟨rfl, HK.out.2⟩
      · have HRS := Lib.hid (fun W (hb : Below w.heap.size w W) => read_back a1 W (gl_below HG.out hb) (by omega) hz)
        simp only [nulV] at HRS
        rw [show (bstr [] : ByteArray) = ⟨#[]⟩ from rfl] at HRS
        clear hz
        by_cases hc : chk (a0, b0, c0) = 0
        · rw [hc] at hck
          have HC := Lib.hid hck
          have HLI := Lib.hid (fun W (h : V1 w (a0, b0, c0) W) => v1_call h (lit_any (a0, b0, c0) W (gl_below HG.out h.2) hf0))
          have hrb : readZ (bts (bstr (litL (a0, b0, c0)))) = ((a0, b0, c0), 0) := by rw [bts_bstr _ (litL_lt _)]; exact readZ_lit hf0 hc
          have HRL := Lib.hid (fun W (h : V1 w (a0, b0, c0) W) => v1_call h (read_back (bstr (litL (a0, b0, c0))) W (gl_below HG.out h.2) (litL_len hc hf0) hrb))
          generalize bstr (litL (a0, b0, c0)) = X at *
          clear hck hc hf0 l0 l1 hrb
          go_enter Tryd.func9, Tryd.ntmps9
          go_wp2_with fail
          refine (HW.out _ H0.out).mono ?_
          rintro e w1 ⟨rfl, h1⟩
          obtain ⟨x0, x1, x2, _⟩ := v1_S h1
          have H1 := Lib.hid h1
          clear h1
          go_wp2_with fail
          refine (HL.out _ _).mono ?_
          rintro e w2 ⟨rfl, rfl⟩
          go_wp2_with fail
          refine (HL.out _ _).mono ?_
          rintro e w2 ⟨rfl, rfl⟩
          go_wp2_with fail
          refine (HC.out _ H1.out).mono ?_
          rintro e w3 ⟨rfl, h3⟩
          obtain ⟨u0, u1, u2, _⟩ := v1_S h3
          have H3 := Lib.hid h3
          clear h3 x0 x1 x2
          go_wp2_with fail
          refine (HLI.out _ H3.out).mono ?_
          rintro e w4 ⟨rfl, h4⟩
          have H4 := Lib.hid h4
          clear h4 u0 u1 u2
          go_wp2_with fail
          refine (HRL.out _ H4.out).mono ?_
          rintro e w5 ⟨rfl, h5⟩
          have h6 := v1_alloc h5 (.cells #[.int .u8 a0, .int .i64 b0, .string c0] 24)
          obtain ⟨u0, u1, u2, _⟩ := v1_S h6
          obtain ⟨q0, q1, q2, _, _, _⟩ := cell3 (Blk.new w5 24 #[.int .u8 a0, .int .i64 b0, .string c0])
          have HB := Lib.hid h6
          clear h5 h6
          go_wp2_with fail
          refine (HRS.out _ HB.out.2).mono ?_
          rintro e w7 ⟨rfl, hb7⟩
          have hk := (v1_alloc (v1_below HB.out hb7) (.cells #[.int .u8 0, .int .i64 0, .string ⟨#[]⟩] 24))
          have hk2 := Blk.new w7 24 #[.int .u8 0, .int .i64 0, .string ⟨#[]⟩]
          obtain ⟨y0, y1, y2, _, _, _⟩ := cell3 hk2
          have HK := Lib.hid hk
          clear hb7 hk hk2
          go_wp2
          go_ret
          exact ⟨rfl, HK.out.2⟩
        · have hcn := beq_no hc
          generalize chk (a0, b0, c0) = E at *
          have HC := Lib.hid hck
          clear hck hc hf0 l0 l1
          go_enter Tryd.func9, Tryd.ntmps9
          go_wp2_with fail
          refine (HW.out _ H0.out).mono ?_
          rintro e w1 ⟨rfl, h1⟩
          obtain ⟨x0, x1, x2, _⟩ := v1_S h1
          have H1 := Lib.hid h1
          clear h1
          go_wp2_with fail
          refine (HL.out _ _).mono ?_
          rintro e w2 ⟨rfl, rfl⟩
          go_wp2_with fail
          refine (HL.out _ _).mono ?_
          rintro e w2 ⟨rfl, rfl⟩
          go_wp2_with fail
          refine (HC.out _ H1.out).mono ?_
          rintro e w3 ⟨rfl, h3⟩
          obtain ⟨u0, u1, u2, _⟩ := v1_S h3
          have H3 := Lib.hid h3
          clear h3 x0 x1 x2
          have HB := H3
          go_wp2_with fail
          refine (HRS.out _ HB.out.2).mono ?_
          rintro e w7 ⟨rfl, hb7⟩
          have hk := (v1_alloc (v1_below HB.out hb7) (.cells #[.int .u8 0, .int .i64 0, .string ⟨#[]⟩] 24))
          have hk2 := Blk.new w7 24 #[.int .u8 0, .int .i64 0, .string ⟨#[]⟩]
          obtain ⟨y0, y1, y2, _, _, _⟩ := cell3 hk2
          have HK := Lib.hid hk
          clear hb7 hk hk2
          go_wp2
          go_ret
          exact ⟨rfl, HK.out.2⟩
end Go.Proofs.YtlbalhiiamenfaaDoor
