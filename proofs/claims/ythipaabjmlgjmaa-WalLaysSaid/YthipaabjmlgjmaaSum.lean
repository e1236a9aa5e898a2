/- What the functions of package sum answer. Conditions: the numbers fit their kinds, a text is no longer than a machine has addresses. -/
import Derived.Test.YthipaabjmlgjmaaProg
import Derived.Test.YthipaabjmlgjmaaSumOver
import Derived.OpenShut
namespace Go.Proofs.Ythipaabjmlgjmaa
open Go.RowKit
def addL (L : List Nat) (p : Int × Int) : Int × Int := addN L (nb L.length) p
def backL (L : List Nat) (p : Int × Int) : Int × Int := backN L (nb L.length) p
theorem fit_backN {L : List Nat} : ∀ k (p : Int × Int), Fit p → Fit (backN L k p)
  | 0, _, h => h
  | k + 1, p, _ => fit_backN k _ (fit_stepB p L k)
theorem fit_addL {L : List Nat} {p : Int × Int} (hp : Fit p) : Fit (addL L p) := fit_addN hp _
theorem fit_backL {L : List Nat} {p : Int × Int} (hp : Fit p) : Fit (backL L p) := fit_backN _ _ hp
set_option maxRecDepth 100000 in
set_option maxHeartbeats 2000000 in
theorem add_any (a b : Int) (s : ByteArray) (w : World) (hp : Fit (a, b)) (hs : s.size ≤ 140737488351232) :
    Calls Try.prog 83 #[.agg #[.int .u32 a, .int .u32 b], .string s] w fun e w' => e = .returned (.agg #[.int .u32 (addL (bts s) (a, b)).1, .int .u32 (addL (bts s) (a, b)).2]) ∧ Below w.heap.size w w' := by
  have hk0 := keep_new w a b
  go_enter Try.func83, Try.ntmps83
  go_wp2_with fail
  refine (over_add a b s _ hp hs).mono ?_
  rintro e w1 ⟨rfl, hb1⟩
  obtain ⟨hq1, hq2, hq3⟩ := hk0.below hb1
  have r0 : w1.cell? ⟨w.heap.size + 1, 0, none⟩ = some (.int .u32 0) := hq2.cell 0
  have r1 : w1.cell? ⟨w.heap.size + 1, 1, none⟩ = some (.int .u32 0) := hq2.cell 1
  have f0 := hq2.frozen 0
  have f1 := hq2.frozen 1
  have e1 : addN (bts s) (nb s.size) (a, b) = addL (bts s) (a, b) := by unfold addL; rw [bts_length]
  rw [e1]
  generalize hP : addL (bts s) (a, b) = P at *
  have HP := Lib.hid hP
  clear e1 hk0 hb1 hP
  go_wp2
  refine bodyPost_ret (v := .agg #[.int .u32 P.1, .int .u32 P.2]) ?_ rfl ⟨by rw [HP.out], (hq3.setCell (Nat.le_succ _) _).setCell (Nat.le_succ _) _⟩
  simp [results, Try.results83, go_sem, r0, r1]
set_option maxRecDepth 100000 in
set_option maxHeartbeats 2000000 in
theorem of_any (s : ByteArray) (w : World) (hs : s.size ≤ 140737488351232) :
    Calls Try.prog 72 #[.string s] w fun e w' => e = .returned (.agg #[.int .u32 (addL (bts s) (0, 0)).1, .int .u32 (addL (bts s) (0, 0)).2]) ∧ Below w.heap.size w w' := by
  go_enter Try.func72, Try.ntmps72
  go_wp2_with fail
  refine (add_any 0 0 s _ ⟨by omega, by omega, by omega, by omega⟩ hs).mono ?_
  rintro e w1 ⟨rfl, hb1⟩
  have hq2 := (Blk.new w 73 #[.int .u32 0, .int .u32 0]).below hb1 (by simp)
  have hq3 : Below w.heap.size w w1 := ((Below.refl _ _).alloc (Nat.le_refl _) _).trans (hb1.mono (by simp))
  have r0 : w1.cell? ⟨w.heap.size, 0, none⟩ = some (.int .u32 0) := hq2.cell 0
  have r1 : w1.cell? ⟨w.heap.size, 1, none⟩ = some (.int .u32 0) := hq2.cell 1
  have f0 := hq2.frozen 0
  have f1 := hq2.frozen 1
  generalize hP : addL (bts s) (0, 0) = P at *
  have HP := Lib.hid hP
  clear hb1 hP
  go_wp2
  refine bodyPost_ret (v := .agg #[.int .u32 P.1, .int .u32 P.2]) ?_ rfl ⟨by rw [HP.out], (hq3.setCell (Nat.le_refl _) _).setCell (Nat.le_refl _) _⟩
  simp [results, Try.results72, go_sem, r0, r1]
theorem back_add_step (p : Int × Int) (L : List Nat) (k : Nat) (h : Fit p) : stepB (stepA p L k) L k = p := by
  obtain ⟨a, b⟩ := p
  unfold Fit at h
  simp only [stepA, stepB, addA, addB, backA, backB, Prod.mk.injEq] at h ⊢
  omega
theorem add_back_step (p : Int × Int) (L : List Nat) (k : Nat) (h : Fit p) : stepA (stepB p L k) L k = p := by
  obtain ⟨a, b⟩ := p
  unfold Fit at h
  simp only [stepA, stepB, addA, addB, backA, backB, Prod.mk.injEq] at h ⊢
  omega
theorem backN_addN (L : List Nat) : ∀ k p, Fit p → backN L k (addN L k p) = p
  | 0, _, _ => rfl
  | k + 1, p, h => by
    show backN L k (stepB (stepA (addN L k p) L k) L k) = p
    rw [back_add_step _ _ _ (fit_addN h k), backN_addN L k p h]
theorem addN_backN (L : List Nat) : ∀ k p, Fit p → addN L k (backN L k p) = p
  | 0, _, _ => rfl
  | k + 1, p, h => by
    show stepA (addN L k (backN L k (stepB p L k))) L k = p
    rw [addN_backN L k _ (fit_stepB p L k), add_back_step _ _ _ h]
theorem backL_addL (L : List Nat) (p : Int × Int) (h : Fit p) : backL L (addL L p) = p := backN_addN L _ p h
theorem addL_backL (L : List Nat) (p : Int × Int) (h : Fit p) : addL L (backL L p) = p := addN_backN L _ p h
theorem fit_wf {a b : Int} (h1 : (Lit.int .u32 a).wf = true) (h2 : (Lit.int .u32 b).wf = true) : Fit (a, b) := by
  have := bounds_u32 h1
  have := bounds_u32 h2
  unfold Fit
  simp only
  omega
end Go.Proofs.Ythipaabjmlgjmaa
