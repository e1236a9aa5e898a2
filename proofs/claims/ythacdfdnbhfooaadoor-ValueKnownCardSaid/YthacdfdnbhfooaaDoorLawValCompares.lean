/- The walk of ValueCompares. Conditions: the numbers fit their kinds; the laid variables hold what they should. -/
import Derived.Test.YthacdfdnbhfooaaDoorVal7W
namespace Go.Proofs.YthacdfdnbhfooaaDoor
open Go.RowKit
set_option linter.unusedVariables false
theorem fits_wf {p q : Int} {s : ByteArray} (h1 : (Lit.int .u8 p).wf = true) (h2 : (Lit.int .i64 q).wf = true) : Fits (p, q, s) := by
  have e1 : IntKind.u8.min = 0 := rfl
  have e2 : IntKind.u8.max = 255 := rfl
  have e3 : IntKind.i64.min = -9223372036854775808 := rfl
  have e4 : IntKind.i64.max = 9223372036854775807 := rfl
  simp [Lit.wf, e1, e2] at h1
  simp [Lit.wf, e3, e4] at h2
  exact ⟨by simp only; omega, by simp only; omega, by simp only; omega, by simp only; omega⟩
/-- two values that stand -/
def V2 (w : World) (x y : Val) (W : World) : Prop := Blk W w.heap.size 24 (valC x) ∧ Blk W (w.heap.size + 1) 24 (valC y) ∧ Below w.heap.size w W
theorem v2_new (w : World) (x y : Val) : V2 w x y ((w.alloc (.cells (valC x) 24)).alloc (.cells (valC y) 24)) := ⟨(Blk.new _ _ _).alloc _, blk_new _ _ _ _ (by simp), hb2⟩
theorem v2_below {w W W' : World} {x y : Val} (h : V2 w x y W) (hb : Below W.heap.size W W') : V2 w x y W' := ⟨blk_step h.1 hb, blk_step h.2.1 hb, bj h.2.2 hb⟩
theorem v2_drew {w W : World} {x y : Val} (h : V2 w x y W) : V2 w x y W.drew := ⟨h.1.drew, h.2.1.drew, h.2.2.drew⟩
theorem v2_S {w W : World} {p q p' q' : Int} {s s' : ByteArray} (h : V2 w (p, q, s) (p', q', s') W) : W.cell? ⟨w.heap.size, 0, none⟩ = some (.int .u8 p) ∧ W.cell? ⟨w.heap.size, 1, none⟩ = some (.int .i64 q) ∧ W.cell? ⟨w.heap.size, 2, none⟩ = some (.string s) ∧ W.cell? ⟨w.heap.size + 1, 0, none⟩ = some (.int .u8 p') ∧ W.cell? ⟨w.heap.size + 1, 1, none⟩ = some (.int .i64 q') ∧ W.cell? ⟨w.heap.size + 1, 2, none⟩ = some (.string s') ∧ V2 w (p, q, s) (p', q', s') W :=
  ⟨h.1.cell 0, h.1.cell 1, h.1.cell 2, h.2.1.cell 0, h.2.1.cell 1, h.2.1.cell 2, h⟩
theorem v2_call {w W : World} {x y : Val} {f : FuncId} {args : Array Value} {v : Value} (h : V2 w x y W) (hc : Calls Tryd.prog f args W fun e w' => e = .returned v ∧ Below W.heap.size W w') : Calls Tryd.prog f args W fun e w' => e = .returned v ∧ V2 w x y w' :=
  hc.mono fun e w' he => ⟨he.1, v2_below h he.2⟩
end Go.Proofs.YthacdfdnbhfooaaDoor
