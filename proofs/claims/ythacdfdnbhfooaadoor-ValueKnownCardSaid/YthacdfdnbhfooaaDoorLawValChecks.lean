/- The walk of ValueChecks. Conditions: the numbers fit their kinds; the laid variables hold what they should. -/
import Derived.Test.YthacdfdnbhfooaaDoorLawValCompares
namespace Go.Proofs.YthacdfdnbhfooaaDoor
open Go.RowKit
set_option linter.unusedVariables false
/-- one value that stands -/
def V1 (w : World) (x : Val) (W : World) : Prop := Blk W w.heap.size 24 (valC x) ∧ Below w.heap.size w W
theorem v1_below {w W W' : World} {x : Val} (h : V1 w x W) (hb : Below W.heap.size W W') : V1 w x W' := ⟨blk_step h.1 hb, bj h.2 hb⟩
theorem v1_drew {w W : World} {x : Val} (h : V1 w x W) : V1 w x W.drew := ⟨h.1.drew, h.2.drew⟩
theorem v1_S {w W : World} {p q : Int} {s : ByteArray} (h : V1 w (p, q, s) W) : W.cell? ⟨w.heap.size, 0, none⟩ = some (.int .u8 p) ∧ W.cell? ⟨w.heap.size, 1, none⟩ = some (.int .i64 q) ∧ W.cell? ⟨w.heap.size, 2, none⟩ = some (.string s) ∧ V1 w (p, q, s) W := ⟨h.1.cell 0, h.1.cell 1, h.1.cell 2, h⟩
theorem v1_call {w W : World} {x : Val} {f : FuncId} {args : Array Value} {v : Value} (h : V1 w x W) (hc : Calls Tryd.prog f args W fun e w' => e = .returned v ∧ Below W.heap.size W w') : Calls Tryd.prog f args W fun e w' => e = .returned v ∧ V1 w x w' :=
  hc.mono fun e w' he => ⟨he.1, v1_below h he.2⟩
end Go.Proofs.YthacdfdnbhfooaaDoor
