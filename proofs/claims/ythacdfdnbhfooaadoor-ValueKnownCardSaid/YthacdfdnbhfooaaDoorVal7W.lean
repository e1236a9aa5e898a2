/- The laws' own small functions of layer 7. Conditions: the laid variables hold what they should. -/
import Derived.Test.YthacdfdnbhfooaaDoorRead3
import Derived.Test.YthacdfdnbhfooaaDoorValCmp
namespace Go.Proofs.YthacdfdnbhfooaaDoor
open Go.RowKit
set_option linter.unusedVariables false
set_option maxRecDepth 100000 in
theorem mkNumber (n : Int) (w : World) : Calls Tryd.prog 8 #[.int .i64 n] w fun e w' => e = .returned (.agg #[.int .u8 1, .int .i64 n, .string ⟨#[]⟩]) ∧ Below w.heap.size w w' := by
  go_enter Tryd.func8, Tryd.ntmps8
  go_wp2
  first
    | exact bodyPost_ret (v := .agg #[.int .u8 1, .int .i64 n, .string ⟨#[]⟩]) (by simp [results, Tryd.results8, go_sem]) rfl ⟨rfl, one_alloc⟩
    | (obtain ⟨e0, e1, e2, _, _, _⟩ := cell3 (blk3_set (Blk.new w 24 #[.int .u8 0, .int .i64 0, .string ⟨#[]⟩]) (.int .u8 1) (.int .i64 n) (.string ⟨#[]⟩))
       exact bodyPost_ret (v := .agg #[.int .u8 1, .int .i64 n, .string ⟨#[]⟩]) (by simp [results, Tryd.results8, go_sem, e0, e1, e2]) rfl ⟨rfl, below3_set one_alloc _ _ _⟩)
set_option maxRecDepth 100000 in
theorem mkText (s : ByteArray) (w : World) : Calls Tryd.prog 6 #[.string s] w fun e w' => e = .returned (.agg #[.int .u8 2, .int .i64 0, .string s]) ∧ Below w.heap.size w w' := by
  go_enter Tryd.func6, Tryd.ntmps6
  go_wp2
  first
    | exact bodyPost_ret (v := .agg #[.int .u8 2, .int .i64 0, .string s]) (by simp [results, Tryd.results6, go_sem]) rfl ⟨rfl, one_alloc⟩
    | (obtain ⟨e0, e1, e2, _, _, _⟩ := cell3 (blk3_set (Blk.new w 24 #[.int .u8 0, .int .i64 0, .string ⟨#[]⟩]) (.int .u8 2) (.int .i64 0) (.string s))
       exact bodyPost_ret (v := .agg #[.int .u8 2, .int .i64 0, .string s]) (by simp [results, Tryd.results6, go_sem, e0, e1, e2]) rfl ⟨rfl, below3_set one_alloc _ _ _⟩)
set_option maxRecDepth 100000 in
theorem mkBlob (s : ByteArray) (w : World) : Calls Tryd.prog 11 #[.string s] w fun e w' => e = .returned (.agg #[.int .u8 3, .int .i64 0, .string s]) ∧ Below w.heap.size w w' := by
  go_enter Tryd.func11, Tryd.ntmps11
  go_wp2
  first
    | exact bodyPost_ret (v := .agg #[.int .u8 3, .int .i64 0, .string s]) (by simp [results, Tryd.results11, go_sem]) rfl ⟨rfl, one_alloc⟩
    | (obtain ⟨e0, e1, e2, _, _, _⟩ := cell3 (blk3_set (Blk.new w 24 #[.int .u8 0, .int .i64 0, .string ⟨#[]⟩]) (.int .u8 3) (.int .i64 0) (.string s))
       exact bodyPost_ret (v := .agg #[.int .u8 3, .int .i64 0, .string s]) (by simp [results, Tryd.results11, go_sem, e0, e1, e2]) rfl ⟨rfl, below3_set one_alloc _ _ _⟩)
def great7B (l : List Val) : Bool := decide (100 < l.length) || l.any (fun x => decide (4096 < x.2.2.size))
theorem great7_len {l : List Val} (h : great7B l = false) : l.length ≤ 100 ∧ ∀ x ∈ l, x.2.2.size ≤ 4096 := by
  unfold great7B at h
  simp only [Bool.or_eq_false_iff, decide_eq_false_iff_not, List.any_eq_false, decide_eq_true_eq] at h
  exact ⟨by omega, fun x hx => by have := h.2 x hx; omega⟩
/-- what was read stands -/
def Ws (w : World) (g : Nat) (W : World) : Prop := Blk W g 24 #[.int .u8 2, .int .i64 0, .string ⟨#[97, 39]⟩] ∧ Below w.heap.size w W
theorem ws_below {w W W' : World} {g : Nat} (h : Ws w g W) (hb : Below W.heap.size W W') : Ws w g W' := ⟨blk_step h.1 hb, bj h.2 hb⟩
theorem ws_S {w W : World} {g : Nat} (h : Ws w g W) : W.cell? ⟨g, 0, none⟩ = some (.int .u8 2) ∧ W.cell? ⟨g, 1, none⟩ = some (.int .i64 0) ∧ W.cell? ⟨g, 2, none⟩ = some (.string ⟨#[97, 39]⟩) ∧ Ws w g W := ⟨h.1.cell 0, h.1.cell 1, h.1.cell 2, h⟩
theorem ws_alloc {w W : World} {g : Nat} (h : Ws w g W) (o : Obj) : Ws w g (W.alloc o) := ws_below h ((Below.refl _ _).alloc (Nat.le_refl _) _)
theorem ws_drew {w W : World} {g : Nat} (h : Ws w g W) : Ws w g W.drew := ⟨h.1.drew, h.2.drew⟩
/-- a row that is written out -/
theorem vals_blk {W : World} {g : Nat} {t : TypeId} {l : List Val} {cs : Array Value} (h : Blk W g t cs) (hc : ∀ (j : Nat) x, l[j]? = some x → cs[j * 3]? = some (.int .u8 x.1) ∧ cs[j * 3 + 1]? = some (.int .i64 x.2.1) ∧ cs[j * 3 + 2]? = some (.string x.2.2)) : Vals W W.heap.size (some ⟨g, 0, none⟩) l := by
  refine .inr ⟨g, 0, rfl, h.lt, fun j x hx => ?_⟩
  obtain ⟨a, b, c⟩ := hc j x hx
  rw [Nat.zero_add]
  exact ⟨(h.cell _).trans a, (h.cell _).trans b, (h.cell _).trans c⟩
theorem lit_m3 : bstr (litL (1, -3, ⟨#[]⟩)) = ⟨#[45, 51]⟩ := by
  have h : litL (1, -3, ⟨#[]⟩) = itoL (-3) := by
    unfold litL
    rw [if_neg (by decide)]; rfl
  rw [h, show (-3 : Int) = -((3 : Nat) : Int) from rfl, itoL_neg 3 (by omega), digL_small (by omega)]
  decide
theorem ws_call {w W : World} {g : Nat} {f : FuncId} {args : Array Value} {v : Value} (h : Ws w g W) (hc : Calls Tryd.prog f args W fun e w' => e = .returned v ∧ Below W.heap.size W w') : Calls Tryd.prog f args W fun e w' => e = .returned v ∧ Ws w g w' :=
  hc.mono fun e w' he => ⟨he.1, ws_below h he.2⟩
end Go.Proofs.YthacdfdnbhfooaaDoor
