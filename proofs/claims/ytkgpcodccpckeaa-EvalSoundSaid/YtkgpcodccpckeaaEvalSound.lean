/- 'EvalSound' holds of the program: for every input the law returns true and leaves its input as it was. No condition. -/
import Derived.Test.YtkgpcodccpckeaaRows
import Derived.Test.YtkgpcodccpckeaaLawEvalSound
import Derived.Test.YtkgpcodccpckeaaOpenEx
import Derived.Test.YtkgpcodccpckeaaOpenRow
import Derived.WalkKit
import Derived.ProofKit
import Derived.OpenShut
import Derived.ShutString
import Derived.ChangeOld
import Derived.SizedLaws
import Derived.Below
import Derived.Lib.SmallJoins
namespace Go.Proofs.Ytkgpcodccpckeaa.evalSound
open Go.ChangeShapes Go.WideShapes Go.ChangeAt Go.RowKit Go.Joins
open Go.ChangeMaps (open_string shut_string)
set_option linter.unusedVariables false

theorem own : ownKnob Try.prog.godebug = none := by kernel_rfl
theorem laidOut : laidOutB Try.prog = true := by kernel_rfl

theorem walk (T0 : XT) (A1 : Option Addr) (rs1 : List Rw) (k1_ : Nat) (A2 : Option Addr) (l2 : List Int) (n2 k2_ : Nat) (hn1 : rs1.length ≤ maxLen) (hm1 : rs1.length ≤ k1_) (hc1 : k1_ ≤ maxLen) (hz1 : A1 = none → rs1 = [] ∧ k1_ = 0) (hV1 : ∀ r ∈ rs1, ∀ y ∈ r.l, Vk y) (hn2 : n2 = l2.length) (hm2 : n2 ≤ maxLen) (w : World) (I0 : InT w w.heap.size T0) (I1 : Rws w w.heap.size A1 rs1) (I2 : U8s w w.heap.size A2 l2) :
    Calls Try.prog 7 #[exV T0.ex, .slice A1 rs1.length k1_, .slice A2 n2 k2_] w fun e w' => e = .returned (.bool true) ∧ Below w.heap.size w w' :=
  evalSound_walk T0 A1 rs1 k1_ A2 l2 n2 k2_ hn1 hm1 hc1 hz1 hV1 hn2 hm2 w I0 I1 I2

set_option maxRecDepth 100000 in
theorem lifted (os : Os) (started : os.Started) (H : Type) (enc : TypeId × Value → H) :
    ReturnsInHanded {} Try.checked os 7 .any (Rows.evalSoundSpec.pre6 enc Try.prog Try.f7 Rows.evalSoundRow.domain false) (Rows.evalSoundSpec.post enc Try.prog Try.f7 false true false false) := by
  refine returnsInHanded_of_change_sized (C := Try.checked) own started (by kernel_rfl) Try.func7
    (ChangeSpec.witness6 (enc := enc) (C := Try.checked) false ⟨#[], #[.agg #[.int .u8 0, .int .u8 0, .int .i64 0, .string ByteArray.empty, .string ByteArray.empty, .string ByteArray.empty, .int .i64 0, .slice none 0 0], .slice none 0 0, .slice none 0 0], []⟩ 8 (by kernel_rfl) (by kernel_rfl) (by kernel_rfl) (by kernel_rfl)) ?_
  intro W base args ds gs before hval0 hW hcnd hsz0 _
  have hsz : (DataW.weightsEach Try.prog (Try.f7.params.toList ++ Rows.evalSoundSpec.plain.varTypes Try.prog) (ds ++ gs)).all (· ≤ reachBytes) = true := hsz0
  clear hsz0
  have hval : ∀ (j : Nat) t v, Try.f7.params[j]? = some t → args[j]? = some v → Value.okWide Try.prog W .any base t v := hval0
  have hW' := hW
  obtain ⟨p, q, hA0, hV, rfl, hfz, hnd⟩ := hW
  have hA : DataW.TrodAll enc Try.prog W 0 (fun _ => true) true Try.f7.params.toList args.toList ds p := hA0
  rw [Try.params7] at hA hval hsz
  obtain ⟨v0, vs0, d0, ds0, p0, q0, hargs, rfl, rfl, h0, r0⟩ := trodAll_cons hA
  obtain ⟨v1, vs1, d1, ds1, p1, q1, rfl, rfl, rfl, h1, r1⟩ := trodAll_cons r0
  obtain ⟨v2, vs2, d2, ds2, p2, q2, rfl, rfl, rfl, h2, r2⟩ := trodAll_cons r1
  obtain ⟨rfl, rfl, rfl⟩ := trodAll_nil r2
  obtain rfl : args = #[v0, v1, v2] := by cases args; simp_all
  obtain ⟨rfl, rfl⟩ := trodVars_none hV
  have k0 := h0
  have lt0 : ∀ x ∈ p0, x.block < W.heap.size := by obtain ⟨m, hm⟩ := k0; exact DataW.trod_lt m _ _ _ hm
  have k1 := h1
  have lt1 : ∀ x ∈ p1, x.block < W.heap.size := by obtain ⟨m, hm⟩ := k1; exact DataW.trod_lt m _ _ _ hm
  have k2 := h2
  have lt2 : ∀ x ∈ p2, x.block < W.heap.size := by obtain ⟨m, hm⟩ := k2; exact DataW.trod_lt m _ _ _ hm
  obtain ⟨T0, rfl, I0⟩ := open_expr (hval 0 29 v0 rfl rfl) h0 (fun q hq => of_decide_eq_true (List.all_eq_true.1 hsz q (DataW.weights_mem_each (j := 0) (t := 29) rfl rfl q hq)))
  obtain ⟨A1, rs1, k1_, rfl, I1, hn1, hm1, hc1, hz1, hV1⟩ := open_rows (hval 1 43 v1 rfl rfl) h1 (fun q hq => of_decide_eq_true (List.all_eq_true.1 hsz q (DataW.weights_mem_each (j := 1) (t := 43) rfl rfl q hq)))
  obtain ⟨A2, l2, n2, k2_, rfl, I2, hn2, hm2⟩ := open_u8s (hval 2 44 v2 rfl rfl) h2
  clear hA0 hval0
  refine (walk T0 A1 rs1 k1_ A2 l2 n2 k2_ hn1 hm1 hc1 hz1 hV1 hn2 hm2 W I0 I1 I2).mono fun e W' ⟨he, bel⟩ => ?_
  subst he
  exact ⟨_, rfl, _, _, _, [], _, [], hW', trodAll_mk1 (shut_bool Try.underlying4 _), (trodAll_cons_mk (Below.trod laidOut (by kernel_rfl) (of_decide_eq_true (by kernel_rfl)) k0 bel lt0) (trodAll_cons_mk (Below.trod laidOut (by kernel_rfl) (of_decide_eq_true (by kernel_rfl)) k1 bel lt1) (trodAll_cons_mk (Below.trod laidOut (by kernel_rfl) (of_decide_eq_true (by kernel_rfl)) k2 bel lt2) trodAll_mk0))), rfl, bel.frame _, fun h => by cases h⟩

theorem over : Rows.evalSoundRow.holds Try.pinned (OpenSpec.ofChange Rows.evalSoundSpec) :=
  OpenClaim.holds_of_wide 7 Try.f7 rfl rfl rfl rfl rfl rfl rfl ⟨rfl, rfl, rfl, rfl, rfl⟩ rfl rfl rfl rfl rfl (by kernel_rfl) Try.func7 (by kernel_rfl)
    (of_decide_eq_true (by kernel_rfl)) (by unfold Func.isWrapper; first | (rw [if_pos (by decide +kernel)]; kernel_rfl) | (rw [if_neg (by decide +kernel)]; exact ⟨rfl, rfl⟩))
    (fun os started H enc _ => lifted os started H enc)

/-- The statement. -/
theorem proved : Rows.EvalSoundSaid := over
#print axioms proved
end Go.Proofs.Ytkgpcodccpckeaa.evalSound
