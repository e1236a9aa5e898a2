/- 'EvalCompares' holds of the program: for every input the law returns true and leaves its input as it was. No condition. -/
import Derived.Test.YtkgpcodccpckeaaRows
import Derived.Test.YtkgpcodccpckeaaLawEvalCompares
import Derived.WalkKit
import Derived.ProofKit
import Derived.OpenShut
import Derived.ShutString
import Derived.ChangeOld
import Derived.SizedLaws
import Derived.Below
import Derived.Lib.SmallJoins
namespace Go.Proofs.Ytkgpcodccpckeaa.evalCompares
open Go.ChangeShapes Go.WideShapes Go.ChangeAt Go.RowKit Go.Joins
open Go.ChangeMaps (open_string shut_string)
set_option linter.unusedVariables false

theorem own : ownKnob Try.prog.godebug = none := by kernel_rfl
theorem laidOut : laidOutB Try.prog = true := by kernel_rfl
theorem cells23 : Try.prog.cellsOf 23 = 3 := by kernel_rfl

theorem walk (a0 : Int) (b0 : Int) (c0 : ByteArray) (a1 : Int) (b1 : Int) (c1 : ByteArray) (wa0 : (Lit.int .u8 a0).wf = true) (wb0 : (Lit.int .i64 b0).wf = true) (wc0 : c0.size ≤ 140737488351232) (wa1 : (Lit.int .u8 a1).wf = true) (wb1 : (Lit.int .i64 b1).wf = true) (wc1 : c1.size ≤ 140737488351232) (w : World)  :
    Calls Try.prog 9 #[.agg #[.int .u8 a0, .int .i64 b0, .string c0], .agg #[.int .u8 a1, .int .i64 b1, .string c1]] w fun e w' => e = .returned (.bool true) ∧ Below w.heap.size w w' :=
  evalCompares_walk a0 b0 c0 a1 b1 c1 wa0 wb0 wc0 wa1 wb1 wc1 w 

set_option maxRecDepth 100000 in
theorem lifted (os : Os) (started : os.Started) (H : Type) (enc : TypeId × Value → H) :
    ReturnsInHanded {} Try.checked os 9 .any (Rows.evalComparesSpec.pre6 enc Try.prog Try.f9 Rows.evalComparesRow.domain false) (Rows.evalComparesSpec.post enc Try.prog Try.f9 false true false false) := by
  refine returnsInHanded_of_change_sized (C := Try.checked) own started (by kernel_rfl) Try.func9
    (ChangeSpec.witness6 (enc := enc) (C := Try.checked) false ⟨#[], #[.agg #[.int .u8 0, .int .i64 0, .string ByteArray.empty], .agg #[.int .u8 0, .int .i64 0, .string ByteArray.empty]], []⟩ 8 (by kernel_rfl) (by kernel_rfl) (by kernel_rfl) (by kernel_rfl)) ?_
  intro W base args ds gs before hval0 hW hcnd hsz0 _
  have hsz : (DataW.weightsEach Try.prog (Try.f9.params.toList ++ Rows.evalComparesSpec.plain.varTypes Try.prog) (ds ++ gs)).all (· ≤ reachBytes) = true := hsz0
  clear hsz0
  have hval : ∀ (j : Nat) t v, Try.f9.params[j]? = some t → args[j]? = some v → Value.okWide Try.prog W .any base t v := hval0
  have hW' := hW
  obtain ⟨p, q, hA0, hV, rfl, hfz, hnd⟩ := hW
  have hA : DataW.TrodAll enc Try.prog W 0 (fun _ => true) true Try.f9.params.toList args.toList ds p := hA0
  rw [Try.params9] at hA hval hsz
  obtain ⟨v0, vs0, d0, ds0, p0, q0, hargs, rfl, rfl, h0, r0⟩ := trodAll_cons hA
  obtain ⟨v1, vs1, d1, ds1, p1, q1, rfl, rfl, rfl, h1, r1⟩ := trodAll_cons r0
  obtain ⟨rfl, rfl, rfl⟩ := trodAll_nil r1
  obtain rfl : args = #[v0, v1] := by cases args; simp_all
  obtain ⟨rfl, rfl⟩ := trodVars_none hV
  have k0 := h0
  have lt0 : ∀ x ∈ p0, x.block < W.heap.size := by obtain ⟨m, hm⟩ := k0; exact DataW.trod_lt m _ _ _ hm
  have k1 := h1
  have lt1 : ∀ x ∈ p1, x.block < W.heap.size := by obtain ⟨m, hm⟩ := k1; exact DataW.trod_lt m _ _ _ hm
  obtain ⟨c0_0, c0_1, c0_2, y0_0, y0_1, y0_2, m0, rfl, rfl, rfl, hy0_0, hy0_1, hy0_2⟩ := open_agg3 Try.underlying23 (by kernel_rfl) cells23 (hval 0 23 v0 rfl rfl) h0
  obtain ⟨a0, e0_0, q0_0, wa0⟩ := DataW.trod_int Try.underlying5 hy0_0
  simp at e0_0
  subst e0_0 q0_0
  obtain ⟨b0, e0_1, q0_1, wb0⟩ := DataW.trod_int Try.underlying2 hy0_1
  simp at e0_1
  subst e0_1 q0_1
  obtain ⟨c0, e0_2, q0_2, zc0⟩ := DataW.trod_string Try.underlying9 hy0_2
  simp at e0_2
  subst e0_2 q0_2
  have wc0 : c0.size ≤ 140737488351232 := by
    have h := List.all_eq_true.1 hsz _ (DataW.weights_mem_each (j := 0) (t := 23) rfl rfl c0.data.toList.length (by simp [DataW.weights, DataW.weightsEach, Try.underlying23]))
    have h2 := of_decide_eq_true h
    simpa [reachBytes] using h2
  obtain ⟨c1_0, c1_1, c1_2, y1_0, y1_1, y1_2, m1, rfl, rfl, rfl, hy1_0, hy1_1, hy1_2⟩ := open_agg3 Try.underlying23 (by kernel_rfl) cells23 (hval 1 23 v1 rfl rfl) h1
  obtain ⟨a1, e1_0, q1_0, wa1⟩ := DataW.trod_int Try.underlying5 hy1_0
  simp at e1_0
  subst e1_0 q1_0
  obtain ⟨b1, e1_1, q1_1, wb1⟩ := DataW.trod_int Try.underlying2 hy1_1
  simp at e1_1
  subst e1_1 q1_1
  obtain ⟨c1, e1_2, q1_2, zc1⟩ := DataW.trod_string Try.underlying9 hy1_2
  simp at e1_2
  subst e1_2 q1_2
  have wc1 : c1.size ≤ 140737488351232 := by
    have h := List.all_eq_true.1 hsz _ (DataW.weights_mem_each (j := 1) (t := 23) rfl rfl c1.data.toList.length (by simp [DataW.weights, DataW.weightsEach, Try.underlying23]))
    have h2 := of_decide_eq_true h
    simpa [reachBytes] using h2
  clear hA0 hval0
  refine (walk a0 b0 c0 a1 b1 c1 wa0 wb0 wc0 wa1 wb1 wc1 W ).mono fun e W' ⟨he, bel⟩ => ?_
  subst he
  exact ⟨_, rfl, _, _, _, [], _, [], hW', trodAll_mk1 (shut_bool Try.underlying4 _), (trodAll_cons_mk (Below.trod laidOut (by kernel_rfl) (of_decide_eq_true (by kernel_rfl)) k0 bel lt0) (trodAll_cons_mk (Below.trod laidOut (by kernel_rfl) (of_decide_eq_true (by kernel_rfl)) k1 bel lt1) trodAll_mk0)), rfl, bel.frame _, fun h => by cases h⟩

theorem over : Rows.evalComparesRow.holds Try.pinned (OpenSpec.ofChange Rows.evalComparesSpec) :=
  OpenClaim.holds_of_wide 9 Try.f9 rfl rfl rfl rfl rfl rfl rfl ⟨rfl, rfl, rfl, rfl, rfl⟩ rfl rfl rfl rfl rfl (by kernel_rfl) Try.func9 (by kernel_rfl)
    (of_decide_eq_true (by kernel_rfl)) (by unfold Func.isWrapper; first | (rw [if_pos (by decide +kernel)]; kernel_rfl) | (rw [if_neg (by decide +kernel)]; exact ⟨rfl, rfl⟩))
    (fun os started H enc _ => lifted os started H enc)

/-- The statement. -/
theorem proved : Rows.EvalComparesSaid := over
#print axioms proved
end Go.Proofs.Ytkgpcodccpckeaa.evalCompares
