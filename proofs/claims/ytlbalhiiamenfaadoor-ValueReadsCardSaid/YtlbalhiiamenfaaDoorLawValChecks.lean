/- The walk of ValueChecks. Conditions: the numbers fit their kinds; the laid variables hold what they should. -/
import Derived.Test.YtlbalhiiamenfaaDoorLawValCompares
namespace Go.Proofs.YtlbalhiiamenfaaDoor
open Go.RowKit
set_option linter.unusedVariables false
/-- one value that stands -/
def V1 (w : World) (x : Val) (W : World) : Prop := Blk W w.heap.size 24 (valC x) ∧ Below w.heap.size w W
theorem v1_below {w W W' : World} {x : Val} (h : V1 w x W) (hb : Below W.heap.size W W') : V1 w x W' := ⟨blk_step h.1 hb, bj h.2 hb⟩
theorem v1_drew {w W : World} {x : Val} (h : V1 w x W) : V1 w x W.drew := ⟨h.1.drew, h.2.drew⟩
theorem v1_S {w W : World} {p q : Int} {s : ByteArray} (h : V1 w (p, q, s) W) : W.cell? ⟨w.heap.size, 0, none⟩ = some (.int .u8 p) ∧ W.cell? ⟨w.heap.size, 1, none⟩ = some (.int .i64 q) ∧ W.cell? ⟨w.heap.size, 2, none⟩ = some (.string s) ∧ V1 w (p, q, s) W := ⟨h.1.cell 0, h.1.cell 1, h.1.cell 2, h⟩
theorem v1_call {w W : World} {x : Val} {f : FuncId} {args : Array Value} {v : Value} (h : V1 w x W) (hc : Calls Tryd.prog f args W fun e w' => e = .returned v ∧ Below W.heap.size W w') : Calls Tryd.prog f args W fun e w' => e = .returned v ∧ V1 w x w' :=
  hc.mono fun e w' he => ⟨he.1, v1_below h he.2⟩
set_option maxRecDepth 100000 in
set_option maxHeartbeats 8000000 in
theorem valueChecks_walk (a0 b0 : Int) (c0 : ByteArray) (wa0 : (Lit.int .u8 a0).wf = true) (wb0 : (Lit.int .i64 b0).wf = true) (wc0 : c0.size ≤ 140737488351232) (w : World) (hG : Gl w) :
    Calls Tryd.prog 4 #[.agg #[.int .u8 a0, .int .i64 b0, .string c0]] w fun e w' => e = .returned (.bool true) ∧ Below w.heap.size w w' := by
  have hf0 := fits_wf (s := c0) wa0 wb0
  have HW := Lib.hid (fun W (h : V1 w (a0, b0, c0) W) => v1_call h (works7 W (gl_below hG h.2)))
  have H0 := Lib.hid (show V1 w (a0, b0, c0) (w.alloc (.cells (valC (a0, b0, c0)) 24)) from ⟨Blk.new _ _ _, one_alloc⟩)
  have HL := Lib.hid long7
  by_cases l0 : 16384 < c0.size
  · have d0 : decide (16384 < c0.size) = true := decide_eq_true l0
    clear l0 hf0 hG wa0 wb0
    go_enter Tryd.func4, Tryd.ntmps4
    go_wp2_with fail
    refine (HW.out _ H0.out).mono ?_
    rintro e w1 ⟨rfl, h1⟩
    obtain ⟨x0, x1, x2, _⟩ := v1_S h1
    have H1 := Lib.hid h1
    clear h1
    go_wp2_with fail
    refine (HL.out _ _).mono ?_
    rintro e w2 ⟨rfl, rfl⟩
    go_wp2
    go_ret
    exact ⟨rfl, H1.out.2⟩
  · have d0 : decide (16384 < c0.size) = false := decide_eq_false l0
    have HC := Lib.hid (fun W (h : V1 w (a0, b0, c0) W) => v1_call h (check_any (a0, b0, c0) W hf0))
    have HR := Lib.hid (fun W (h : V1 w (a0, b0, c0) W) => v1_call h (refCheck_any (a0, b0, c0) W hf0))
    have HLI := Lib.hid (fun W (h : V1 w (a0, b0, c0) W) => v1_call h (lit_any (a0, b0, c0) W (gl_below hG h.2) hf0))
    have HRL := Lib.hid (fun W (h : V1 w (a0, b0, c0) W) => v1_call h (rlit_any (a0, b0, c0) W hf0))
    generalize chk (a0, b0, c0) = R at *
    generalize bstr (litL (a0, b0, c0)) = X at *
    clear l0 hf0 hG wa0 wb0
    go_enter Tryd.func4, Tryd.ntmps4
    go_wp2_with fail
    refine (HW.out _ H0.out).mono ?_
    rintro e w1 ⟨rfl, h1⟩
    obtain ⟨x0, x1, x2, _⟩ := v1_S h1
    have hs := v1_drew h1
    clear h1
    go_wp2_with fail
    refine (HL.out _ _).mono ?_
    rintro e w2 ⟨rfl, rfl⟩
    go_wp2_with fail
    go_region_held3 (fun W => W.cell? ⟨w.heap.size, 0, none⟩ = some (.int .u8 a0) ∧ W.cell? ⟨w.heap.size, 1, none⟩ = some (.int .i64 b0) ∧ W.cell? ⟨w.heap.size, 2, none⟩ = some (.string c0) ∧ V1 w (a0, b0, c0) W)
      (exact v1_S (by assumption))
      (first
        | (go_at_call 20; (with_reducible refine (HC.out _ (by assumption)).mono ?_); rintro e w3 ⟨rfl, hs⟩)
        | (go_at_call 21; (with_reducible refine (HR.out _ (by assumption)).mono ?_); rintro e w4 ⟨rfl, hs⟩)
        | (go_at_call 16; (with_reducible refine (HLI.out _ (by assumption)).mono ?_); rintro e w5 ⟨rfl, hs⟩)
        | (go_at_call 22; (with_reducible refine (HRL.out _ (by assumption)).mono ?_); rintro e w6 ⟨rfl, hs⟩))
    all_goals
      go_wp2
      go_ret
      exact ⟨rfl, hs.2⟩
end Go.Proofs.YtlbalhiiamenfaaDoor
