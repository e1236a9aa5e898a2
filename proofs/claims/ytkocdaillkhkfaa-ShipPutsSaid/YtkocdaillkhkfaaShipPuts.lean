/- 'ShipPuts' holds of the program: for every input the law returns true and leaves its input as it was. No condition. -/
import Derived.Test.YtkocdaillkhkfaaRows
import Derived.Test.YtkocdaillkhkfaaLawShipPuts
import Derived.Test.YtkocdaillkhkfaaOpenShip
import Derived.WalkKit
import Derived.ProofKit
import Derived.OpenShut
import Derived.ShutString
import Derived.ChangeOld
import Derived.SizedLaws
import Derived.Below
import Derived.Lib.SmallJoins
namespace Go.Proofs.Ytkocdaillkhkfaa.shipPuts
open Go.ChangeShapes Go.WideShapes Go.ChangeAt Go.RowKit Go.Joins
open Go.ChangeMaps (open_string shut_string)
set_option linter.unusedVariables false

theorem own : ownKnob Try.prog.godebug = none := by kernel_rfl
theorem laidOut : laidOutB Try.prog = true := by kernel_rfl
theorem cells28 : Try.prog.cellsOf 28 = 6 := by kernel_rfl

theorem walk (a0 : Int) (b0 : Int) (c0 : Int) (d0 : Bool) (e0 : Int) (A0 : Option Addr) (l0 : List (Int × ByteArray)) (n0 k0_ : Nat) (a1 : Int) (b1 : Int) (c1 : Int) (d1 : Bool) (e1 : Int) (A1 : Option Addr) (l1 : List (Int × ByteArray)) (n1 k1_ : Nat) (wa0 : (Lit.int .u8 a0).wf = true) (wb0 : (Lit.int .u64 b0).wf = true) (wc0 : (Lit.int .u64 c0).wf = true) (we0 : (Lit.int .i64 e0).wf = true) (hn0 : n0 = l0.length) (hm0 : n0 ≤ maxLen) (hx0 : ∀ x ∈ l0, (Lit.int .i64 x.1).wf = true) (wa1 : (Lit.int .u8 a1).wf = true) (wb1 : (Lit.int .u64 b1).wf = true) (wc1 : (Lit.int .u64 c1).wf = true) (we1 : (Lit.int .i64 e1).wf = true) (hn1 : n1 = l1.length) (hm1 : n1 ≤ maxLen) (hx1 : ∀ x ∈ l1, (Lit.int .i64 x.1).wf = true) (w : World) (I0 : Imgs w w.heap.size A0 l0) (I1 : Imgs w w.heap.size A1 l1) :
    Calls Try.prog 4 #[.agg #[.int .u8 a0, .int .u64 b0, .int .u64 c0, .bool d0, .int .i64 e0, .slice A0 n0 k0_], .agg #[.int .u8 a1, .int .u64 b1, .int .u64 c1, .bool d1, .int .i64 e1, .slice A1 n1 k1_]] w fun e w' => e = .returned (.bool true) ∧ Below w.heap.size w w' :=
  shipPuts_walk a0 b0 c0 d0 e0 A0 l0 n0 k0_ a1 b1 c1 d1 e1 A1 l1 n1 k1_ wa0 wb0 wc0 we0 hn0 hm0 hx0 wa1 wb1 wc1 we1 hn1 hm1 hx1 w I0 I1

set_option maxRecDepth 100000 in
theorem lifted (os : Os) (started : os.Started) (H : Type) (enc : TypeId × Value → H) :
    ReturnsInHanded {} Try.checked os 4 .any (Rows.shipPutsSpec.pre6 enc Try.prog Try.f4 Rows.shipPutsRow.domain false) (Rows.shipPutsSpec.post enc Try.prog Try.f4 false true false false) := by
  refine returnsInHanded_of_change_sized (C := Try.checked) own started (by kernel_rfl) Try.func4
    (ChangeSpec.witness6 (enc := enc) (C := Try.checked) false ⟨#[], #[.agg #[.int .u8 0, .int .u64 0, .int .u64 0, .bool false, .int .i64 0, .slice none 0 0], .agg #[.int .u8 0, .int .u64 0, .int .u64 0, .bool false, .int .i64 0, .slice none 0 0]], []⟩ 8 (by kernel_rfl) (by kernel_rfl) (by kernel_rfl) (by kernel_rfl)) ?_
  intro W base args ds gs before hval0 hW hcnd hsz0 _
  have hsz : (DataW.weightsEach Try.prog (Try.f4.params.toList ++ Rows.shipPutsSpec.plain.varTypes Try.prog) (ds ++ gs)).all (· ≤ reachBytes) = true := hsz0
  clear hsz0
  have hval : ∀ (j : Nat) t v, Try.f4.params[j]? = some t → args[j]? = some v → Value.okWide Try.prog W .any base t v := hval0
  have hW' := hW
  obtain ⟨p, q, hA0, hV, rfl, hfz, hnd⟩ := hW
  have hA : DataW.TrodAll enc Try.prog W 0 (fun _ => true) true Try.f4.params.toList args.toList ds p := hA0
  rw [Try.params4] at hA hval hsz
  obtain ⟨v0, vs0, d0, ds0, p0, q0, hargs, rfl, rfl, h0, r0⟩ := trodAll_cons hA
  obtain ⟨v1, vs1, d1, ds1, p1, q1, rfl, rfl, rfl, h1, r1⟩ := trodAll_cons r0
  obtain ⟨rfl, rfl, rfl⟩ := trodAll_nil r1
  obtain rfl : args = #[v0, v1] := by cases args; simp_all
  obtain ⟨rfl, rfl⟩ := trodVars_none hV
  have k0 := h0
  have lt0 : ∀ x ∈ p0, x.block < W.heap.size := by obtain ⟨m, hm⟩ := k0; exact DataW.trod_lt m _ _ _ hm
  have k1 := h1
  have lt1 : ∀ x ∈ p1, x.block < W.heap.size := by obtain ⟨m, hm⟩ := k1; exact DataW.trod_lt m _ _ _ hm
  obtain ⟨c0_0, c0_1, c0_2, c0_3, c0_4, c0_5, y0_0, y0_1, y0_2, y0_3, y0_4, y0_5, m0, rfl, rfl, rfl, hy0_0, hy0_1, hy0_2, hy0_3, hy0_4, hy0_5⟩ := open_agg6 Try.underlying28 (by kernel_rfl) cells28 (hval 0 28 v0 rfl rfl) h0
  obtain ⟨a0, e0_0, q0_0, wa0⟩ := DataW.trod_int Try.underlying5 hy0_0
  simp at e0_0
  subst e0_0 q0_0
  obtain ⟨b0, e0_1, q0_1, wb0⟩ := DataW.trod_int Try.underlying25 hy0_1
  simp at e0_1
  subst e0_1 q0_1
  obtain ⟨c0, e0_2, q0_2, wc0⟩ := DataW.trod_int Try.underlying25 hy0_2
  simp at e0_2
  subst e0_2 q0_2
  obtain ⟨d0, e0_3, q0_3⟩ := DataW.trod_bool Try.underlying4 hy0_3
  simp at e0_3
  subst e0_3 q0_3
  obtain ⟨e0, e0_4, q0_4, we0⟩ := DataW.trod_int Try.underlying3 hy0_4
  simp at e0_4
  subst e0_4 q0_4
  obtain ⟨A0, l0, n0, k0_, e0_5, I0, hn0, hm0, hx0⟩ := open_imgs hy0_5
  subst e0_5
  obtain ⟨c1_0, c1_1, c1_2, c1_3, c1_4, c1_5, y1_0, y1_1, y1_2, y1_3, y1_4, y1_5, m1, rfl, rfl, rfl, hy1_0, hy1_1, hy1_2, hy1_3, hy1_4, hy1_5⟩ := open_agg6 Try.underlying28 (by kernel_rfl) cells28 (hval 1 28 v1 rfl rfl) h1
  obtain ⟨a1, e1_0, q1_0, wa1⟩ := DataW.trod_int Try.underlying5 hy1_0
  simp at e1_0
  subst e1_0 q1_0
  obtain ⟨b1, e1_1, q1_1, wb1⟩ := DataW.trod_int Try.underlying25 hy1_1
  simp at e1_1
  subst e1_1 q1_1
  obtain ⟨c1, e1_2, q1_2, wc1⟩ := DataW.trod_int Try.underlying25 hy1_2
  simp at e1_2
  subst e1_2 q1_2
  obtain ⟨d1, e1_3, q1_3⟩ := DataW.trod_bool Try.underlying4 hy1_3
  simp at e1_3
  subst e1_3 q1_3
  obtain ⟨e1, e1_4, q1_4, we1⟩ := DataW.trod_int Try.underlying3 hy1_4
  simp at e1_4
  subst e1_4 q1_4
  obtain ⟨A1, l1, n1, k1_, e1_5, I1, hn1, hm1, hx1⟩ := open_imgs hy1_5
  subst e1_5
  clear hA0 hval0
  refine (walk a0 b0 c0 d0 e0 A0 l0 n0 k0_ a1 b1 c1 d1 e1 A1 l1 n1 k1_ wa0 wb0 wc0 we0 hn0 hm0 hx0 wa1 wb1 wc1 we1 hn1 hm1 hx1 W I0 I1).mono fun e W' ⟨he, bel⟩ => ?_
  subst he
  exact ⟨_, rfl, _, _, _, [], _, [], hW', trodAll_mk1 (shut_bool Try.underlying4 _), (trodAll_cons_mk (Below.trod laidOut (by kernel_rfl) (of_decide_eq_true (by kernel_rfl)) k0 bel lt0) (trodAll_cons_mk (Below.trod laidOut (by kernel_rfl) (of_decide_eq_true (by kernel_rfl)) k1 bel lt1) trodAll_mk0)), rfl, bel.frame _, fun h => by cases h⟩

theorem over : Rows.shipPutsRow.holds Try.pinned (OpenSpec.ofChange Rows.shipPutsSpec) :=
  OpenClaim.holds_of_wide 4 Try.f4 rfl rfl rfl rfl rfl rfl rfl ⟨rfl, rfl, rfl, rfl, rfl⟩ rfl rfl rfl rfl rfl (by kernel_rfl) Try.func4 (by kernel_rfl)
    (of_decide_eq_true (by kernel_rfl)) (by unfold Func.isWrapper; first | (rw [if_pos (by decide +kernel)]; kernel_rfl) | (rw [if_neg (by decide +kernel)]; exact ⟨rfl, rfl⟩))
    (fun os started H enc _ => lifted os started H enc)

/-- The statement. -/
theorem proved : Rows.ShipPutsSaid := over
#print axioms proved
end Go.Proofs.Ytkocdaillkhkfaa.shipPuts
