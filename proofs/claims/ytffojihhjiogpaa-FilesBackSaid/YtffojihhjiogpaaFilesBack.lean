/- 'FilesBack' holds of the program: for every input the law returns true and leaves its input as it was. No condition. -/
import Derived.Test.YtffojihhjiogpaaRows
import Derived.Test.YtffojihhjiogpaaLawFilesBack
import Derived.Test.YtffojihhjiogpaaOpenFops
import Derived.WalkKit
import Derived.ProofKit
import Derived.OpenShut
import Derived.ShutString
import Derived.ChangeOld
import Derived.SizedLaws
import Derived.Below
import Derived.Lib.SmallJoins
namespace Go.Proofs.Ytffojihhjiogpaa.filesBack
open Go.ChangeShapes Go.WideShapes Go.ChangeAt Go.RowKit Go.Joins
open Go.ChangeMaps (open_string shut_string)
set_option linter.unusedVariables false

theorem own : ownKnob Try.prog.godebug = none := by kernel_rfl
theorem laidOut : laidOutB Try.prog = true := by kernel_rfl
theorem cells42 : Try.prog.cellsOf 42 = 7 := by kernel_rfl

theorem walk (A0 : Option Addr) (l0 : List Fop) (n0 k0_ : Nat) (a1 : Int) (b1 : Int) (c1 : Int) (d1 : Int) (e1 : Int) (f1 : ByteArray) (A1 : Option Addr) (l1 : List Bool) (n1 k1_ : Nat) (a2 : Int) (hn0 : n0 = l0.length) (hm0 : n0 ≤ maxLen) (hx0 : ∀ x ∈ l0, FitP x) (wa1 : (Lit.int .i64 a1).wf = true) (wb1 : (Lit.int .i64 b1).wf = true) (wc1 : (Lit.int .i64 c1).wf = true) (wd1 : (Lit.int .i64 d1).wf = true) (we1 : (Lit.int .u8 e1).wf = true) (wf1 : f1.size ≤ 140737488351232) (hn1 : n1 = l1.length) (hm1 : n1 ≤ maxLen) (w2 : (Lit.int .i64 a2).wf = true) (w : World) (I0 : Fops w w.heap.size A0 l0) (I1 : KsAt w w.heap.size A1 l1) :
    Calls Try.prog 7 #[.slice A0 n0 k0_, .agg #[.int .i64 a1, .int .i64 b1, .int .i64 c1, .int .i64 d1, .int .u8 e1, .string f1, .slice A1 n1 k1_], .int .i64 a2] w fun e w' => e = .returned (.bool true) ∧ Below w.heap.size w w' :=
  filesBack_walk A0 l0 n0 k0_ a1 b1 c1 d1 e1 f1 A1 l1 n1 k1_ a2 hn0 hm0 hx0 wa1 wb1 wc1 wd1 we1 wf1 hn1 hm1 w2 w I0 I1

set_option maxRecDepth 100000 in
theorem lifted (os : Os) (started : os.Started) (H : Type) (enc : TypeId × Value → H) :
    ReturnsInHanded {} Try.checked os 7 .any (Rows.filesBackSpec.pre6 enc Try.prog Try.f7 Rows.filesBackRow.domain false) (Rows.filesBackSpec.post enc Try.prog Try.f7 false true false false) := by
  refine returnsInHanded_of_change_sized (C := Try.checked) own started (by kernel_rfl) Try.func7
    (ChangeSpec.witness6 (enc := enc) (C := Try.checked) false ⟨#[], #[.slice none 0 0, .agg #[.int .i64 0, .int .i64 0, .int .i64 0, .int .i64 0, .int .u8 0, .string ByteArray.empty, .slice none 0 0], .int .i64 0], []⟩ 8 (by kernel_rfl) (by kernel_rfl) (by kernel_rfl) (by kernel_rfl)) ?_
  intro W base args ds gs before hval0 hW hcnd hsz0 _
  have hsz : (DataW.weightsEach Try.prog (Try.f7.params.toList ++ Rows.filesBackSpec.plain.varTypes Try.prog) (ds ++ gs)).all (· ≤ reachBytes) = true := hsz0
  clear hsz0
  have hval : ∀ (j : Nat) t v, Try.f7.params[j]? = some t → args[j]? = some v → Value.okWide Try.prog W .any base t v := hval0
  have hW' := hW
  obtain ⟨p, q, hA0, hV, rfl, hfz, hnd⟩ := hW
  have hA : DataW.TrodAll enc Try.prog W 0 (fun _ => true) true Try.f7.params.toList args.toList ds p := hA0
  rw [Try.params7] at hA hval hsz
  obtain ⟨v0, vs0, d0, ds0, p0, q0, hargs, rfl, rfl, h0, r0⟩ := trodAll_cons hA
  obtain ⟨v1, vs1, d1, ds1, p1, q1, rfl, rfl, rfl, h1, r1⟩ := trodAll_cons r0
  obtain ⟨v2, vs2, d2, ds2, p2, q2, rfl, rfl, rfl, h2, r2⟩ := trodAll_cons r1
  obtain ⟨rfl, rfl, rfl⟩ := trodAll_nil r2
  obtain rfl : args = #[v0, v1, v2] := by cases args; simp_all
  obtain ⟨rfl, rfl⟩ := trodVars_none hV
  have k0 := h0
  have lt0 : ∀ x ∈ p0, x.block < W.heap.size := by obtain ⟨m, hm⟩ := k0; exact DataW.trod_lt m _ _ _ hm
  have k1 := h1
  have lt1 : ∀ x ∈ p1, x.block < W.heap.size := by obtain ⟨m, hm⟩ := k1; exact DataW.trod_lt m _ _ _ hm
  have k2 := h2
  have lt2 : ∀ x ∈ p2, x.block < W.heap.size := by obtain ⟨m, hm⟩ := k2; exact DataW.trod_lt m _ _ _ hm
  obtain ⟨A0, l0, n0, k0_, rfl, I0, hn0, hm0, hx0⟩ := open_fops (hval 0 37 v0 rfl rfl) h0
  obtain ⟨c1_0, c1_1, c1_2, c1_3, c1_4, c1_5, c1_6, y1_0, y1_1, y1_2, y1_3, y1_4, y1_5, y1_6, m1, rfl, rfl, rfl, hy1_0, hy1_1, hy1_2, hy1_3, hy1_4, hy1_5, hy1_6⟩ := open_agg7 Try.underlying42 (by kernel_rfl) cells42 (hval 1 42 v1 rfl rfl) h1
  obtain ⟨a1, e1_0, q1_0, wa1⟩ := DataW.trod_int Try.underlying3 hy1_0
  simp at e1_0
  subst e1_0 q1_0
  obtain ⟨b1, e1_1, q1_1, wb1⟩ := DataW.trod_int Try.underlying3 hy1_1
  simp at e1_1
  subst e1_1 q1_1
  obtain ⟨c1, e1_2, q1_2, wc1⟩ := DataW.trod_int Try.underlying3 hy1_2
  simp at e1_2
  subst e1_2 q1_2
  obtain ⟨d1, e1_3, q1_3, wd1⟩ := DataW.trod_int Try.underlying3 hy1_3
  simp at e1_3
  subst e1_3 q1_3
  obtain ⟨e1, e1_4, q1_4, we1⟩ := DataW.trod_int Try.underlying5 hy1_4
  simp at e1_4
  subst e1_4 q1_4
  obtain ⟨f1, e1_5, q1_5, zf1⟩ := DataW.trod_string Try.underlying9 hy1_5
  simp at e1_5
  subst e1_5 q1_5
  obtain ⟨A1, l1, n1, k1_, e1_6, I1, hn1, hm1⟩ := open_boolsF _ _ _ hy1_6
  subst e1_6
  have wf1 : f1.size ≤ 140737488351232 := by
    have h := List.all_eq_true.1 hsz _ (DataW.weights_mem_each (j := 1) (t := 42) rfl rfl f1.data.toList.length (by simp [DataW.weights, DataW.weightsEach, Try.underlying42]))
    have h2 := of_decide_eq_true h
    simpa [reachBytes] using h2
  obtain ⟨a2, rfl, rfl, rfl, w2⟩ := open_int Try.underlying3 (hval 2 3 v2 rfl rfl) h2
  clear hA0 hval0
  refine (walk A0 l0 n0 k0_ a1 b1 c1 d1 e1 f1 A1 l1 n1 k1_ a2 hn0 hm0 hx0 wa1 wb1 wc1 wd1 we1 wf1 hn1 hm1 w2 W I0 I1).mono fun e W' ⟨he, bel⟩ => ?_
  subst he
  exact ⟨_, rfl, _, _, _, [], _, [], hW', trodAll_mk1 (shut_bool Try.underlying4 _), (trodAll_cons_mk (Below.trod laidOut (by kernel_rfl) (of_decide_eq_true (by kernel_rfl)) k0 bel lt0) (trodAll_cons_mk (Below.trod laidOut (by kernel_rfl) (of_decide_eq_true (by kernel_rfl)) k1 bel lt1) (trodAll_cons_mk (Below.trod laidOut (by kernel_rfl) (of_decide_eq_true (by kernel_rfl)) k2 bel lt2) trodAll_mk0))), rfl, bel.frame _, fun h => by cases h⟩

theorem over : Rows.filesBackRow.holds Try.pinned (OpenSpec.ofChange Rows.filesBackSpec) :=
  OpenClaim.holds_of_wide 7 Try.f7 rfl rfl rfl rfl rfl rfl rfl ⟨rfl, rfl, rfl, rfl, rfl⟩ rfl rfl rfl rfl rfl (by kernel_rfl) Try.func7 (by kernel_rfl)
    (of_decide_eq_true (by kernel_rfl)) (by unfold Func.isWrapper; first | (rw [if_pos (by decide +kernel)]; kernel_rfl) | (rw [if_neg (by decide +kernel)]; exact ⟨rfl, rfl⟩))
    (fun os started H enc _ => lifted os started H enc)

/-- The statement. -/
theorem proved : Rows.FilesBackSaid := over
#print axioms proved
end Go.Proofs.Ytffojihhjiogpaa.filesBack
