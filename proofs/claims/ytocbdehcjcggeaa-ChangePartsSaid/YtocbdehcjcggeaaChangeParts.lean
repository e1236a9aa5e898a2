/- 'ChangeParts' holds of the program: for every input the law returns true and leaves its input as it was. No condition. -/
import Derived.Test.YtocbdehcjcggeaaRows
import Derived.Test.YtocbdehcjcggeaaLawChangeParts
import Derived.Test.YtocbdehcjcggeaaOpenCgs
import Derived.WalkKit
import Derived.ProofKit
import Derived.OpenShut
import Derived.ShutString
import Derived.ChangeOld
import Derived.SizedLaws
import Derived.Below
import Derived.Lib.SmallJoins
namespace Go.Proofs.Ytocbdehcjcggeaa.changeParts
open Go.ChangeShapes Go.WideShapes Go.ChangeAt Go.RowKit Go.Joins
open Go.ChangeMaps (open_string shut_string)
set_option linter.unusedVariables false

theorem own : ownKnob Try.prog.godebug = none := by kernel_rfl
theorem laidOut : laidOutB Try.prog = true := by kernel_rfl

theorem walk (A0 : Option Addr) (l0 : List Cg) (n0 k0_ : Nat) (A1 : Option Addr) (l1 : List Cg) (n1 k1_ : Nat) (A2 : Option Addr) (l2 : List Cg) (n2 k2_ : Nat) (hn0 : n0 = l0.length) (hm0 : n0 ≤ maxLen) (hx0 : ∀ x ∈ l0, FitC x) (hn1 : n1 = l1.length) (hm1 : n1 ≤ maxLen) (hx1 : ∀ x ∈ l1, FitC x) (hn2 : n2 = l2.length) (hm2 : n2 ≤ maxLen) (hx2 : ∀ x ∈ l2, FitC x) (w : World) (I0 : Cgs w w.heap.size A0 l0) (I1 : Cgs w w.heap.size A1 l1) (I2 : Cgs w w.heap.size A2 l2) :
    Calls Try.prog 7 #[.slice A0 n0 k0_, .slice A1 n1 k1_, .slice A2 n2 k2_] w fun e w' => e = .returned (.bool true) ∧ Below w.heap.size w w' :=
  changeParts_walk A0 l0 n0 k0_ A1 l1 n1 k1_ A2 l2 n2 k2_ hn0 hm0 hx0 hn1 hm1 hx1 hn2 hm2 hx2 w I0 I1 I2

set_option maxRecDepth 100000 in
theorem lifted (os : Os) (started : os.Started) (H : Type) (enc : TypeId × Value → H) :
    ReturnsInHanded {} Try.checked os 7 .any (Rows.changePartsSpec.pre6 enc Try.prog Try.f7 Rows.changePartsRow.domain false) (Rows.changePartsSpec.post enc Try.prog Try.f7 false true false false) := by
  refine returnsInHanded_of_change_sized (C := Try.checked) own started (by kernel_rfl) Try.func7
    (ChangeSpec.witness6 (enc := enc) (C := Try.checked) false ⟨#[], #[.slice none 0 0, .slice none 0 0, .slice none 0 0], []⟩ 8 (by kernel_rfl) (by kernel_rfl) (by kernel_rfl) (by kernel_rfl)) ?_
  intro W base args ds gs before hval0 hW hcnd hsz0 _
  have hsz : (DataW.weightsEach Try.prog (Try.f7.params.toList ++ Rows.changePartsSpec.plain.varTypes Try.prog) (ds ++ gs)).all (· ≤ reachBytes) = true := hsz0
  clear hsz0
  have hval : ∀ (j : Nat) t v, Try.f7.params[j]? = some t → args[j]? = some v → Value.okWide Try.prog W .any base t v := hval0
  have hW' := hW
  obtain ⟨p, q, hA0, hV, rfl, hfz, hnd⟩ := hW
  have hA : DataW.TrodAll enc Try.prog W 0 (fun _ => true) true Try.f7.params.toList args.toList ds p := hA0
  rw [Try.params7] at hA hval hsz
  obtain ⟨v0, vs0, d0, ds0, p0, q0, hargs, rfl, rfl, h0, r0⟩ := trodAll_cons hA
  obtain ⟨v1, vs1, d1, ds1, p1, q1, rfl, rfl, rfl, h1, r1⟩ := trodAll_cons r0
  obtain ⟨v2, vs2, d2, ds2, p2, q2, rfl, rfl, rfl, h2, r2⟩ := trodAll_cons r1
  obtain ⟨rfl, rfl, rfl⟩ := trodAll_nil r2
  obtain rfl : args = #[v0, v1, v2] := by cases args; simp_all
  obtain ⟨rfl, rfl⟩ := trodVars_none hV
  have k0 := h0
  have lt0 : ∀ x ∈ p0, x.block < W.heap.size := by obtain ⟨m, hm⟩ := k0; exact DataW.trod_lt m _ _ _ hm
  have k1 := h1
  have lt1 : ∀ x ∈ p1, x.block < W.heap.size := by obtain ⟨m, hm⟩ := k1; exact DataW.trod_lt m _ _ _ hm
  have k2 := h2
  have lt2 : ∀ x ∈ p2, x.block < W.heap.size := by obtain ⟨m, hm⟩ := k2; exact DataW.trod_lt m _ _ _ hm
  obtain ⟨aa0, len0, cap0, rfl⟩ := okWide_slice Try.underlying28 (hval 0 28 v0 rfl rfl)
  have kk0 := k0
  obtain ⟨fu0, tr0⟩ := kk0
  simp only [Value.cells] at tr0
  obtain ⟨A0, l0, n0, k0_, ev0, I0, hn0, hm0, hx0⟩ := open_cgsF fu0 _ (d0, p0) tr0 (fun q hq => by
    have h := List.all_eq_true.1 hsz _ (DataW.weights_mem_each (j := 0) (t := 28) rfl rfl q hq)
    exact of_decide_eq_true h)
  simp only [Value.slice.injEq] at ev0
  obtain ⟨ea0, eb0, ec0⟩ := ev0
  obtain rfl := ea0.symm
  obtain rfl := eb0.symm
  obtain rfl := ec0.symm
  clear tr0
  obtain ⟨aa1, len1, cap1, rfl⟩ := okWide_slice Try.underlying28 (hval 1 28 v1 rfl rfl)
  have kk1 := k1
  obtain ⟨fu1, tr1⟩ := kk1
  simp only [Value.cells] at tr1
  obtain ⟨A1, l1, n1, k1_, ev1, I1, hn1, hm1, hx1⟩ := open_cgsF fu1 _ (d1, p1) tr1 (fun q hq => by
    have h := List.all_eq_true.1 hsz _ (DataW.weights_mem_each (j := 1) (t := 28) rfl rfl q hq)
    exact of_decide_eq_true h)
  simp only [Value.slice.injEq] at ev1
  obtain ⟨ea1, eb1, ec1⟩ := ev1
  obtain rfl := ea1.symm
  obtain rfl := eb1.symm
  obtain rfl := ec1.symm
  clear tr1
  obtain ⟨aa2, len2, cap2, rfl⟩ := okWide_slice Try.underlying28 (hval 2 28 v2 rfl rfl)
  have kk2 := k2
  obtain ⟨fu2, tr2⟩ := kk2
  simp only [Value.cells] at tr2
  obtain ⟨A2, l2, n2, k2_, ev2, I2, hn2, hm2, hx2⟩ := open_cgsF fu2 _ (d2, p2) tr2 (fun q hq => by
    have h := List.all_eq_true.1 hsz _ (DataW.weights_mem_each (j := 2) (t := 28) rfl rfl q hq)
    exact of_decide_eq_true h)
  simp only [Value.slice.injEq] at ev2
  obtain ⟨ea2, eb2, ec2⟩ := ev2
  obtain rfl := ea2.symm
  obtain rfl := eb2.symm
  obtain rfl := ec2.symm
  clear tr2
  clear hA0 hval0
  refine (walk A0 l0 n0 k0_ A1 l1 n1 k1_ A2 l2 n2 k2_ hn0 hm0 hx0 hn1 hm1 hx1 hn2 hm2 hx2 W I0 I1 I2).mono fun e W' ⟨he, bel⟩ => ?_
  subst he
  exact ⟨_, rfl, _, _, _, [], _, [], hW', trodAll_mk1 (shut_bool Try.underlying4 _), (trodAll_cons_mk (Below.trod laidOut (by kernel_rfl) (of_decide_eq_true (by kernel_rfl)) k0 bel lt0) (trodAll_cons_mk (Below.trod laidOut (by kernel_rfl) (of_decide_eq_true (by kernel_rfl)) k1 bel lt1) (trodAll_cons_mk (Below.trod laidOut (by kernel_rfl) (of_decide_eq_true (by kernel_rfl)) k2 bel lt2) trodAll_mk0))), rfl, bel.frame _, fun h => by cases h⟩

theorem over : Rows.changePartsRow.holds Try.pinned (OpenSpec.ofChange Rows.changePartsSpec) :=
  OpenClaim.holds_of_wide 7 Try.f7 rfl rfl rfl rfl rfl rfl rfl ⟨rfl, rfl, rfl, rfl, rfl⟩ rfl rfl rfl rfl rfl (by kernel_rfl) Try.func7 (by kernel_rfl)
    (of_decide_eq_true (by kernel_rfl)) (by unfold Func.isWrapper; first | (rw [if_pos (by decide +kernel)]; kernel_rfl) | (rw [if_neg (by decide +kernel)]; exact ⟨rfl, rfl⟩))
    (fun os started H enc _ => lifted os started H enc)

/-- The statement. -/
theorem proved : Rows.ChangePartsSaid := over
#print axioms proved
end Go.Proofs.Ytocbdehcjcggeaa.changeParts
