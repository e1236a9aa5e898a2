/- The walk of ValueCompares. Conditions: the numbers fit their kinds; the laid variables hold what they should. -/
import Derived.Test.YtlbalhiiamenfaaDoorVal7W
namespace Go.Proofs.YtlbalhiiamenfaaDoor
open Go.RowKit
set_option linter.unusedVariables false
theorem fits_wf {p q : Int} {s : ByteArray} (h1 : (Lit.int .u8 p).wf = true) (h2 : (Lit.int .i64 q).wf = true) : Fits (p, q, s) := by
  have e1 : IntKind.u8.min = 0 := rfl
  have e2 : IntKind.u8.max = 255 := rfl
  have e3 : IntKind.i64.min = -9223372036854775808 := rfl
  have e4 : IntKind.i64.max = 9223372036854775807 := rfl
  simp [Lit.wf, e1, e2] at h1
  simp [Lit.wf, e3, e4] at h2
  exact ⟨by simp only; omega, by simp only; omega, by simp only; omega, by simp only; omega⟩
/-- two values that stand -/
def V2 (w : World) (x y : Val) (W : World) : Prop := Blk W w.heap.size 24 (valC x) ∧ Blk W (w.heap.size + 1) 24 (valC y) ∧ Below w.heap.size w W
theorem v2_new (w : World) (x y : Val) : V2 w x y ((w.alloc (.cells (valC x) 24)).alloc (.cells (valC y) 24)) := ⟨(Blk.new _ _ _).alloc _, blk_new _ _ _ _ (by simp), hb2⟩
theorem v2_below {w W W' : World} {x y : Val} (h : V2 w x y W) (hb : Below W.heap.size W W') : V2 w x y W' := ⟨blk_step h.1 hb, blk_step h.2.1 hb, bj h.2.2 hb⟩
theorem v2_drew {w W : World} {x y : Val} (h : V2 w x y W) : V2 w x y W.drew := ⟨h.1.drew, h.2.1.drew, h.2.2.drew⟩
theorem v2_S {w W : World} {p q p' q' : Int} {s s' : ByteArray} (h : V2 w (p, q, s) (p', q', s') W) : W.cell? ⟨w.heap.size, 0, none⟩ = some (.int .u8 p) ∧ W.cell? ⟨w.heap.size, 1, none⟩ = some (.int .i64 q) ∧ W.cell? ⟨w.heap.size, 2, none⟩ = some (.string s) ∧ W.cell? ⟨w.heap.size + 1, 0, none⟩ = some (.int .u8 p') ∧ W.cell? ⟨w.heap.size + 1, 1, none⟩ = some (.int .i64 q') ∧ W.cell? ⟨w.heap.size + 1, 2, none⟩ = some (.string s') ∧ V2 w (p, q, s) (p', q', s') W :=
  ⟨h.1.cell 0, h.1.cell 1, h.1.cell 2, h.2.1.cell 0, h.2.1.cell 1, h.2.1.cell 2, h⟩
theorem v2_call {w W : World} {x y : Val} {f : FuncId} {args : Array Value} {v : Value} (h : V2 w x y W) (hc : Calls Tryd.prog f args W fun e w' => e = .returned v ∧ Below W.heap.size W w') : Calls Tryd.prog f args W fun e w' => e = .returned v ∧ V2 w x y w' :=
  hc.mono fun e w' he => ⟨he.1, v2_below h he.2⟩
set_option maxRecDepth 100000 in
set_option maxHeartbeats 8000000 in
theorem valueCompares_walk (a0 b0 : Int) (c0 : ByteArray) (a1 b1 : Int) (c1 : ByteArray) (wa0 : (Lit.int .u8 a0).wf = true) (wb0 : (Lit.int .i64 b0).wf = true) (wc0 : c0.size ≤ 140737488351232) (wa1 : (Lit.int .u8 a1).wf = true) (wb1 : (Lit.int .i64 b1).wf = true) (wc1 : c1.size ≤ 140737488351232) (w : World) (hG : Gl w) :
    Calls Tryd.prog 5 #[.agg #[.int .u8 a0, .int .i64 b0, .string c0], .agg #[.int .u8 a1, .int .i64 b1, .string c1]] w fun e w' => e = .returned (.bool true) ∧ Below w.heap.size w w' := by
  have hf0 := fits_wf (s := c0) wa0 wb0
  have hf1 := fits_wf (s := c1) wa1 wb1
  have HW := Lib.hid (fun W (h : V2 w (a0, b0, c0) (a1, b1, c1) W) => v2_call h (works7 W (gl_below hG h.2.2)))
  have H0 := Lib.hid (v2_new w (a0, b0, c0) (a1, b1, c1))
  have HL := Lib.hid long7
  clear hG wa0 wb0 wa1 wb1
  by_cases l0 : 16384 < c0.size
  · have d0 : decide (16384 < c0.size) = true := decide_eq_true l0
    clear l0 hf0 hf1
    go_enter Tryd.func5, Tryd.ntmps5
    go_wp2_with fail
    refine (HW.out _ H0.out).mono ?_
    rintro e w1 ⟨rfl, h1⟩
    obtain ⟨x0, x1, x2, y0, y1, y2, _⟩ := v2_S h1
    have H1 := Lib.hid h1
    clear h1
    go_wp2_with fail
    refine (HL.out _ _).mono ?_
    rintro e w2 ⟨rfl, rfl⟩
    go_wp2
    go_ret
    exact ⟨rfl, H1.out.2.2⟩
  · have d0 : decide (16384 < c0.size) = false := decide_eq_false l0
    by_cases l1 : 16384 < c1.size
    · have d1 : decide (16384 < c1.size) = true := decide_eq_true l1
      clear l0 l1 hf0 hf1
      go_enter Tryd.func5, Tryd.ntmps5
      go_wp2_with fail
      refine (HW.out _ H0.out).mono ?_
      rintro e w1 ⟨rfl, h1⟩
      obtain ⟨x0, x1, x2, y0, y1, y2, _⟩ := v2_S h1
      have H1 := Lib.hid h1
      clear h1
      go_wp2_with fail
      refine (HL.out _ _).mono ?_
      rintro e w2 ⟨rfl, rfl⟩
      go_wp2_with fail
      refine (HL.out _ _).mono ?_
      rintro e w2 ⟨rfl, rfl⟩
      go_wp2
      go_ret
      exact ⟨rfl, H1.out.2.2⟩
    · have d1 : decide (16384 < c1.size) = false := decide_eq_false l1
      have HC := Lib.hid (fun W (h : V2 w (a0, b0, c0) (a1, b1, c1) W) => v2_call h (vcompare_any (a0, b0, c0) (a1, b1, c1) W))
      have HR := Lib.hid (fun W (h : V2 w (a0, b0, c0) (a1, b1, c1) W) => v2_call h (compare_any (a0, b0, c0) (a1, b1, c1) W hf0 (by simp only; omega) hf1 (by simp only; omega)))
      generalize valCmp (a0, b0, c0) (a1, b1, c1) = R at *
      clear l0 l1 hf0 hf1
      go_enter Tryd.func5, Tryd.ntmps5
      go_wp2_with fail
      refine (HW.out _ H0.out).mono ?_
      rintro e w1 ⟨rfl, h1⟩
      obtain ⟨x0, x1, x2, y0, y1, y2, _⟩ := v2_S h1
      have hs := v2_drew h1
      clear h1
      go_wp2_with fail
      refine (HL.out _ _).mono ?_
      rintro e w2 ⟨rfl, rfl⟩
      go_wp2_with fail
      refine (HL.out _ _).mono ?_
      rintro e w2 ⟨rfl, rfl⟩
      go_wp2_with fail
      go_region_held3 (fun W => W.cell? ⟨w.heap.size, 0, none⟩ = some (.int .u8 a0) ∧ W.cell? ⟨w.heap.size, 1, none⟩ = some (.int .i64 b0) ∧ W.cell? ⟨w.heap.size, 2, none⟩ = some (.string c0) ∧ W.cell? ⟨w.heap.size + 1, 0, none⟩ = some (.int .u8 a1) ∧ W.cell? ⟨w.heap.size + 1, 1, none⟩ = some (.int .i64 b1) ∧ W.cell? ⟨w.heap.size + 1, 2, none⟩ = some (.string c1) ∧ V2 w (a0, b0, c0) (a1, b1, c1) W)
        (exact v2_S (by assumption))
        (first
          | (go_at_call 13; (with_reducible refine (HC.out _ (by assumption)).mono ?_); rintro e w3 ⟨rfl, hs⟩)
          | (go_at_call 23; (with_reducible refine (HR.out _ (by assumption)).mono ?_); rintro e w4 ⟨rfl, hs⟩))
      all_goals
        go_wp2
        go_ret
        exact ⟨rfl, hs.2.2⟩
end Go.Proofs.YtlbalhiiamenfaaDoor
