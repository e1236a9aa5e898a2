/- 'NodePuts' holds of the program: for every input the law returns true and leaves its input as it was. No condition. -/
import Derived.Test.YticpenbebokjdaaDoorRows
import Derived.Test.YticpenbebokjdaaDoorLawNodePuts
import Derived.Test.YticpenbebokjdaaDoorOpenNode
import Derived.Test.YticpenbebokjdaaDoorCardWrap
import Derived.Test.YticpenbebokjdaaDoorCards
import Derived.Test.YticpenbebokjdaaDoorTie
import Derived.SevenTiedAt
import Derived.Lay
import Derived.MakeChecks
import Derived.LaidLaws
import Derived.JoinedOf
import Derived.WalkKit
import Derived.ProofKit
import Derived.OpenShut
import Derived.ShutString
import Derived.ChangeOld
import Derived.SizedLaws
import Derived.Below
import Derived.Lib.SmallJoins
namespace Go.Proofs.YticpenbebokjdaaDoor.nodePuts
open Go.ChangeShapes Go.WideShapes Go.ChangeAt Go.RowKit Go.Joins
open Go.ChangeMaps (open_string shut_string)
set_option linter.unusedVariables false

theorem own : ownKnob Tryd.prog.godebug = none := by kernel_rfl
theorem laidOut : laidOutB Tryd.prog = true := by kernel_rfl
theorem cells27 : Tryd.prog.cellsOf 27 = 4 := by kernel_rfl

theorem walk (a0 : Int) (b0 : Int) (A0 : Option Addr) (l0 : List Cl) (n0 k0_ : Nat) (d0 : ByteArray) (wa0 : (Lit.int .u8 a0).wf = true) (wb0 : (Lit.int .i64 b0).wf = true) (hn0 : n0 = l0.length) (hm0 : n0 ≤ maxLen) (hq0 : n0 ≤ k0_) (hx0 : ∀ x ∈ l0, FitC x) (wd0 : d0.size ≤ 140737488351232) (w : World) (I0 : Cls w w.heap.size A0 l0) :
    Calls Tryd.prog 4 #[.agg #[.int .u8 a0, .int .i64 b0, .slice A0 n0 k0_, .string d0]] w fun e w' => e = .returned (.bool true) ∧ Below w.heap.size w w' :=
  nodePuts_walk a0 b0 A0 l0 n0 k0_ d0 wa0 wb0 hn0 hm0 hq0 hx0 wd0 w I0

set_option maxRecDepth 100000 in
theorem lifted (os : Os) (started : os.Started) (H : Type) (enc : TypeId × Value → H) :
    ReturnsInHanded {} Tryd.checked os 4 .any (fun w args => (Rows.nodePutsSpec.pre enc Tryd.prog Tryd.f4 [] false w args ∧ laidMetH Tryd.prog Rows.nodePutsRow.laid w) ∧ sizedMet enc Tryd.prog Tryd.f4 (OpenSpec.ofChange Rows.nodePutsSpec) false w args) (Rows.nodePutsSpec.post enc Tryd.prog Tryd.f4 false true false false) := by
  refine returnsInHanded_card (C := Tryd.checked) (X := fun w _ => laidMetH Tryd.prog Rows.nodePutsRow.laid w) (fun _ _ _ hh h => h.of_heap hh) own started (by kernel_rfl) Tryd.func4
    (ChangeSpec.witness_shaped (enc := enc) (C := Tryd.checked) (os := os) (X := fun w _ => laidMetH Tryd.prog Rows.nodePutsRow.laid w) false (World.laidAll Tryd.prog os Rows.nodePutsRow.laid) #[.agg #[.int .u8 0, .int .i64 0, .slice none 0 0, .string ByteArray.empty]] 8 (World.laidAll_os _ _ _)
      (World.shaped_of_ZipB (by kernel_rfl) (by kernel_rfl)) (by kernel_rfl) (by kernel_rfl) (by kernel_rfl)
      (by rw [MakeChecks.laidMetH_plain _ _ _ (by kernel_rfl)]; exact laidMet_laidAll _ (by kernel_rfl) (by kernel_rfl))) ?_
  intro W base args ds gs before hval0 hW hsz0 hL0 hshp
  have hsz : (DataW.weightsEach Tryd.prog (Tryd.f4.params.toList ++ Rows.nodePutsSpec.plain.varTypes Tryd.prog) (ds ++ gs)).all (· ≤ reachBytes) = true := hsz0
  clear hsz0
  have hval : ∀ (j : Nat) t v, Tryd.f4.params[j]? = some t → args[j]? = some v → Value.okWide Tryd.prog W .any base t v := hval0
  have hW' := hW
  obtain ⟨p, q, hA0, hV, rfl, hfz, hnd⟩ := hW
  have hA : DataW.TrodAll enc Tryd.prog W 0 (fun _ => true) true Tryd.f4.params.toList args.toList ds p := hA0
  rw [Tryd.params4] at hA hval hsz
  obtain ⟨v0, vs0, d0, ds0, p0, q0, hargs, rfl, rfl, h0, r0⟩ := trodAll_cons hA
  obtain ⟨rfl, rfl, rfl⟩ := trodAll_nil r0
  obtain rfl : args = #[v0] := by cases args; simp_all
  obtain ⟨rfl, rfl⟩ := trodVars_none hV
  have k0 := h0
  have lt0 : ∀ x ∈ p0, x.block < W.heap.size := by obtain ⟨m, hm⟩ := k0; exact DataW.trod_lt m _ _ _ hm
  obtain ⟨c0_0, c0_1, c0_2, c0_3, y0_0, y0_1, y0_2, y0_3, m0, rfl, rfl, rfl, hy0_0, hy0_1, hy0_2, hy0_3⟩ := open_agg4 Tryd.underlying27 (by kernel_rfl) cells27 (hval 0 27 v0 rfl rfl) h0
  obtain ⟨a0, e0_0, q0_0, wa0⟩ := DataW.trod_int Tryd.underlying5 hy0_0
  simp at e0_0
  subst e0_0 q0_0
  obtain ⟨b0, e0_1, q0_1, wb0⟩ := DataW.trod_int Tryd.underlying3 hy0_1
  simp at e0_1
  subst e0_1 q0_1
  obtain ⟨A0, l0, n0, k0_, e0_2, I0, hn0, hm0, hq0, hx0⟩ := open_cls hy0_2
  subst e0_2
  obtain ⟨d0, e0_3, q0_3, zd0⟩ := DataW.trod_string Tryd.underlying9 hy0_3
  simp at e0_3
  subst e0_3 q0_3
  have wd0 : d0.size ≤ 140737488351232 := by
    have h := List.all_eq_true.1 hsz _ (DataW.weights_mem_each (j := 0) (t := 27) rfl rfl d0.data.toList.length (by simp [DataW.weights, DataW.weightsEach, Tryd.underlying27]))
    have h2 := of_decide_eq_true h
    simpa [reachBytes] using h2
  clear hA0 hval0
  refine (walk a0 b0 A0 l0 n0 k0_ d0 wa0 wb0 hn0 hm0 hq0 hx0 wd0 W I0).mono fun e W' ⟨he, bel⟩ => ?_
  subst he
  exact ⟨_, rfl, _, _, _, [], _, [], hW', trodAll_mk1 (shut_bool Tryd.underlying4 _), (trodAll_cons_mk (Below.trod laidOut (by kernel_rfl) (of_decide_eq_true (by kernel_rfl)) k0 bel lt0) trodAll_mk0), rfl, bel.frame _, fun h => by cases h⟩

theorem over : Rows.nodePutsRow.holds Tryd.pinned (OpenSpec.ofChange Rows.nodePutsSpec) :=
  OpenClaim.holds_of_wide 4 Tryd.f4 rfl rfl rfl rfl rfl rfl rfl ⟨rfl, rfl, rfl, rfl, rfl⟩ rfl rfl rfl rfl rfl (by kernel_rfl) Tryd.func4 (by kernel_rfl)
    (of_decide_eq_true (by kernel_rfl)) (by unfold Func.isWrapper; first | (rw [if_pos (by decide +kernel)]; kernel_rfl) | (rw [if_neg (by decide +kernel)]; exact ⟨rfl, rfl⟩))
    (fun os started H enc _ => lifted os started H enc)

/-- The statement. -/
theorem proved : Rows.NodePutsCardSaid :=
  Claim7.holds_tied_plain_at .later [] [.data, .pinned] true (true, "b25d4c9f092a284ba9455636db1c6186351f325ea651ad5a9c6d9ebf45b8b516") false over (fun _ h => by cases h) (by kernel_rfl) (fun _ h => by cases h) nodePuts_row_tie rfl ⟨rfl, rfl⟩ (by kernel_rfl) rfl
    (fun f fn hf hfn => by
      obtain rfl : f = 4 := Option.some.inj ((show Tryd.prog.funcNamed "counterfoil/counterfoillaw10.NodePuts" = some 4 by kernel_rfl).symm.trans hf) |>.symm
      obtain rfl : fn = Tryd.f4 := (Option.some.inj (Tryd.func4.symm.trans hfn)).symm
      exact ⟨by kernel_rfl, fun j t ht => by
        rw [Tryd.params4] at ht
        have hm : t ∈ [27] := by simpa using Array.mem_of_getElem? ht
        have hall : ([27].all fun u => !Tryd.prog.wantsStandIn u) = true := by kernel_rfl
        exact (show Tryd.prog.wantsStandIn t = false by simpa using List.all_eq_true.1 hall t hm)⟩)
    (by kernel_rfl)
#print axioms proved
end Go.Proofs.YticpenbebokjdaaDoor.nodePuts
