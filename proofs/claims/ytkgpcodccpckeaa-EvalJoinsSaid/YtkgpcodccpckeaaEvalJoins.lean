/- 'EvalJoins' holds of the program: for every input the law returns true and leaves its input as it was. No condition. -/
import Derived.Test.YtkgpcodccpckeaaRows
import Derived.Test.YtkgpcodccpckeaaLawEvalJoins
import Derived.Test.YtkgpcodccpckeaaOpenRow
import Derived.WalkKit
import Derived.ProofKit
import Derived.OpenShut
import Derived.ShutString
import Derived.ChangeOld
import Derived.SizedLaws
import Derived.Below
import Derived.Lib.SmallJoins
namespace Go.Proofs.Ytkgpcodccpckeaa.evalJoins
open Go.ChangeShapes Go.WideShapes Go.ChangeAt Go.RowKit Go.Joins
open Go.ChangeMaps (open_string shut_string)
set_option linter.unusedVariables false

theorem own : ownKnob Try.prog.godebug = none := by kernel_rfl
theorem laidOut : laidOutB Try.prog = true := by kernel_rfl

theorem walk (A0 : Option Addr) (rs0 : List Rw) (k0_ : Nat) (A1 : Option Addr) (rs1 : List Rw) (k1_ : Nat) (hn0 : rs0.length ≤ maxLen) (hm0 : rs0.length ≤ k0_) (hc0 : k0_ ≤ maxLen) (hz0 : A0 = none → rs0 = [] ∧ k0_ = 0) (hV0 : ∀ r ∈ rs0, ∀ y ∈ r.l, Vk y) (hn1 : rs1.length ≤ maxLen) (hm1 : rs1.length ≤ k1_) (hc1 : k1_ ≤ maxLen) (hz1 : A1 = none → rs1 = [] ∧ k1_ = 0) (hV1 : ∀ r ∈ rs1, ∀ y ∈ r.l, Vk y) (w : World) (I0 : Rws w w.heap.size A0 rs0) (I1 : Rws w w.heap.size A1 rs1) :
    Calls Try.prog 10 #[.slice A0 rs0.length k0_, .slice A1 rs1.length k1_] w fun e w' => e = .returned (.bool true) ∧ Below w.heap.size w w' :=
  evalJoins_walk A0 rs0 k0_ A1 rs1 k1_ hn0 hm0 hc0 hz0 hV0 hn1 hm1 hc1 hz1 hV1 w I0 I1

set_option maxRecDepth 100000 in
theorem lifted (os : Os) (started : os.Started) (H : Type) (enc : TypeId × Value → H) :
    ReturnsInHanded {} Try.checked os 10 .any (Rows.evalJoinsSpec.pre6 enc Try.prog Try.f10 Rows.evalJoinsRow.domain false) (Rows.evalJoinsSpec.post enc Try.prog Try.f10 false true false false) := by
  refine returnsInHanded_of_change_sized (C := Try.checked) own started (by kernel_rfl) Try.func10
    (ChangeSpec.witness6 (enc := enc) (C := Try.checked) false ⟨#[], #[.slice none 0 0, .slice none 0 0], []⟩ 8 (by kernel_rfl) (by kernel_rfl) (by kernel_rfl) (by kernel_rfl)) ?_
  intro W base args ds gs before hval0 hW hcnd hsz0 _
  have hsz : (DataW.weightsEach Try.prog (Try.f10.params.toList ++ Rows.evalJoinsSpec.plain.varTypes Try.prog) (ds ++ gs)).all (· ≤ reachBytes) = true := hsz0
  clear hsz0
  have hval : ∀ (j : Nat) t v, Try.f10.params[j]? = some t → args[j]? = some v → Value.okWide Try.prog W .any base t v := hval0
  have hW' := hW
  obtain ⟨p, q, hA0, hV, rfl, hfz, hnd⟩ := hW
  have hA : DataW.TrodAll enc Try.prog W 0 (fun _ => true) true Try.f10.params.toList args.toList ds p := hA0
  rw [Try.params10] at hA hval hsz
  obtain ⟨v0, vs0, d0, ds0, p0, q0, hargs, rfl, rfl, h0, r0⟩ := trodAll_cons hA
  obtain ⟨v1, vs1, d1, ds1, p1, q1, rfl, rfl, rfl, h1, r1⟩ := trodAll_cons r0
  obtain ⟨rfl, rfl, rfl⟩ := trodAll_nil r1
  obtain rfl : args = #[v0, v1] := by cases args; simp_all
  obtain ⟨rfl, rfl⟩ := trodVars_none hV
  have k0 := h0
  have lt0 : ∀ x ∈ p0, x.block < W.heap.size := by obtain ⟨m, hm⟩ := k0; exact DataW.trod_lt m _ _ _ hm
  have k1 := h1
  have lt1 : ∀ x ∈ p1, x.block < W.heap.size := by obtain ⟨m, hm⟩ := k1; exact DataW.trod_lt m _ _ _ hm
  obtain ⟨A0, rs0, k0_, rfl, I0, hn0, hm0, hc0, hz0, hV0⟩ := open_rows (hval 0 43 v0 rfl rfl) h0 (fun q hq => of_decide_eq_true (List.all_eq_true.1 hsz q (DataW.weights_mem_each (j := 0) (t := 43) rfl rfl q hq)))
  obtain ⟨A1, rs1, k1_, rfl, I1, hn1, hm1, hc1, hz1, hV1⟩ := open_rows (hval 1 43 v1 rfl rfl) h1 (fun q hq => of_decide_eq_true (List.all_eq_true.1 hsz q (DataW.weights_mem_each (j := 1) (t := 43) rfl rfl q hq)))
  clear hA0 hval0
  refine (walk A0 rs0 k0_ A1 rs1 k1_ hn0 hm0 hc0 hz0 hV0 hn1 hm1 hc1 hz1 hV1 W I0 I1).mono fun e W' ⟨he, bel⟩ => ?_
  subst he
  exact ⟨_, rfl, _, _, _, [], _, [], hW', trodAll_mk1 (shut_bool Try.underlying4 _), (trodAll_cons_mk (Below.trod laidOut (by kernel_rfl) (of_decide_eq_true (by kernel_rfl)) k0 bel lt0) (trodAll_cons_mk (Below.trod laidOut (by kernel_rfl) (of_decide_eq_true (by kernel_rfl)) k1 bel lt1) trodAll_mk0)), rfl, bel.frame _, fun h => by cases h⟩

theorem over : Rows.evalJoinsRow.holds Try.pinned (OpenSpec.ofChange Rows.evalJoinsSpec) :=
  OpenClaim.holds_of_wide 10 Try.f10 rfl rfl rfl rfl rfl rfl rfl ⟨rfl, rfl, rfl, rfl, rfl⟩ rfl rfl rfl rfl rfl (by kernel_rfl) Try.func10 (by kernel_rfl)
    (of_decide_eq_true (by kernel_rfl)) (by unfold Func.isWrapper; first | (rw [if_pos (by decide +kernel)]; kernel_rfl) | (rw [if_neg (by decide +kernel)]; exact ⟨rfl, rfl⟩))
    (fun os started H enc _ => lifted os started H enc)

/-- The statement. -/
theorem proved : Rows.EvalJoinsSaid := over
#print axioms proved
end Go.Proofs.Ytkgpcodccpckeaa.evalJoins
