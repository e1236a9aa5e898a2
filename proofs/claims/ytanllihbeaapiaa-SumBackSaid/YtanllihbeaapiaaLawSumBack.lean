/- The walk of SumBack. Conditions: the numbers fit their kind, the text is no longer than a machine has addresses. -/
import Derived.Test.YtanllihbeaapiaaProg
import Derived.Test.YtanllihbeaapiaaSum
import Derived.Deep.RegionHeld3
namespace Go.Proofs.Ytanllihbeaapiaa
open Go.RowKit
theorem held_below {w0 W w' : World} {a b : Int} (hb : Below W.heap.size W w') (h0 : W.cell? ⟨w0.heap.size, 0, none⟩ = some (.int .u32 a)) (h1 : W.cell? ⟨w0.heap.size, 1, none⟩ = some (.int .u32 b)) (hl : w0.heap.size + 1 ≤ W.heap.size) (hw : Below w0.heap.size w0 W) :
    w'.cell? ⟨w0.heap.size, 0, none⟩ = some (.int .u32 a) ∧ w'.cell? ⟨w0.heap.size, 1, none⟩ = some (.int .u32 b) ∧ w0.heap.size + 1 ≤ w'.heap.size ∧ Below w0.heap.size w0 w' :=
  ⟨(hb.cell (p := ⟨w0.heap.size, 0, none⟩) hl).trans h0, (hb.cell (p := ⟨w0.heap.size, 1, none⟩) hl).trans h1, Nat.le_trans hl hb.size, hw.trans (hb.mono hw.size)⟩
set_option maxRecDepth 100000 in
set_option maxHeartbeats 4000000 in
theorem sumBack_nat (a b : Int) (s : ByteArray) (w : World) (hp : Fit (a, b)) (hs : s.size ≤ 140737488351232) :
    Calls Try.prog 6 #[.agg #[.int .u32 a, .int .u32 b], .string s] w fun e w' => e = .returned (.bool true) ∧ Below w.heap.size w w' := by
  by_cases hbig : (65536 : Int) < s.size
  · go_enter Try.func6, Try.ntmps6
    go_wp2_with fail
    refine (sworks_any _).mono ?_
    rintro e w1 ⟨rfl, hb1⟩
    go_wp2
    go_ret
    exact ⟨rfl, ((Below.refl _ _).alloc (Nat.le_refl _) _).trans (hb1.mono (by simp))⟩
  · have hA : Fit (addL (bts s) (a, b)) := fit_addL hp
    have hB : Fit (backL (bts s) (a, b)) := fit_backL hp
    have e1 : backL (bts s) (addL (bts s) (a, b)) = (a, b) := backL_addL _ _ hp
    have e2 : addL (bts s) (backL (bts s) (a, b)) = (a, b) := addL_backL _ _ hp
    have add0 := fun w => add_any a b s w hp hs
    have back0 := fun w => back_any a b s w hp hs
    generalize addL (bts s) (a, b) = P at *
    generalize backL (bts s) (a, b) = Q at *
    obtain ⟨P1, P2⟩ := P
    obtain ⟨Q1, Q2⟩ := Q
    have back1 := fun w => back_any P1 P2 s w hA hs
    have add1 := fun w => add_any Q1 Q2 s w hB hs
    rw [e1] at back1
    rw [e2] at add1
    have ADD0 := Lib.hid add0
    have BACK0 := Lib.hid back0
    have ADD1 := Lib.hid add1
    have BACK1 := Lib.hid back1
    clear add0 back0 add1 back1 e1 e2 hA hB hp
    have hl0 : w.heap.size + 1 ≤ (w.alloc (.cells #[.int .u32 a, .int .u32 b] 24)).heap.size := by simp
    have hl1 : Below w.heap.size w (w.alloc (.cells #[.int .u32 a, .int .u32 b] 24)).drew := ((Below.refl _ _).alloc (Nat.le_refl _) _).drew
    go_enter Try.func6, Try.ntmps6
    go_wp2_with fail
    go_region_held3 (fun w' => w'.cell? ⟨w.heap.size, 0, none⟩ = some (.int .u32 a) ∧ w'.cell? ⟨w.heap.size, 1, none⟩ = some (.int .u32 b) ∧ w.heap.size + 1 ≤ w'.heap.size ∧ Below w.heap.size w w')
      (first | go_keep | (go_split_ands; exact held_below (by assumption) (by assumption) (by assumption) (by assumption) (by assumption)) | exact held_below (by assumption) (by assumption) (by assumption) (by assumption) (by assumption))
      (first | (go_at_call 14; (with_reducible refine (ADD0.out _).mono ?_); rintro e w2 ⟨rfl, hb2⟩) | (go_at_call 15; (with_reducible refine (BACK1.out _).mono ?_); rintro e w3 ⟨rfl, hb3⟩) | (go_at_call 15; (with_reducible refine (BACK0.out _).mono ?_); rintro e w4 ⟨rfl, hb4⟩) | (go_at_call 14; (with_reducible refine (ADD1.out _).mono ?_); rintro e w5 ⟨rfl, hb5⟩) | (go_at_call 12; refine (sworks_any _).mono ?_; rintro e w6 ⟨rfl, hb6⟩))
    go_wp2
    go_ret
    have hz : w6.cell? ⟨w.heap.size, 0, none⟩ = some (.int .u32 a) ∧ w6.cell? ⟨w.heap.size, 1, none⟩ = some (.int .u32 b) ∧ w.heap.size + 1 ≤ w6.heap.size ∧ Below w.heap.size w w6 := by assumption
    exact ⟨rfl, hz.2.2.2⟩
theorem sumBack_walk (a0 b0 : Int) (a1 : ByteArray) (w0 : (Lit.int .u32 a0).wf = true) (u0 : (Lit.int .u32 b0).wf = true) (w1 : a1.size ≤ 140737488351232) (w : World) :
    Calls Try.prog 6 #[.agg #[.int .u32 a0, .int .u32 b0], .string a1] w fun e w' => e = .returned (.bool true) ∧ Below w.heap.size w w' :=
  sumBack_nat a0 b0 a1 w (fit_wf w0 u0) w1
end Go.Proofs.Ytanllihbeaapiaa
