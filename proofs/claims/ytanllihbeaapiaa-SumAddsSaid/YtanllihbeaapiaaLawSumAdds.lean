/- The walk of SumAdds. Conditions: the numbers fit their kind, the text is no longer than a machine has addresses. -/
import Derived.Test.YtanllihbeaapiaaProg
import Derived.Test.YtanllihbeaapiaaSumRef
import Derived.Deep.RegionHeld3
namespace Go.Proofs.Ytanllihbeaapiaa
open Go.RowKit
theorem heldo_below {w0 W w' : World} {a b : Int} {g : Nat} (hb : Below W.heap.size W w') (h0 : W.cell? ⟨g, 0, none⟩ = some (.int .u32 a)) (h1 : W.cell? ⟨g, 1, none⟩ = some (.int .u32 b)) (hl1 : g < W.heap.size) (hw : Below w0.heap.size w0 W) :
    w'.cell? ⟨g, 0, none⟩ = some (.int .u32 a) ∧ w'.cell? ⟨g, 1, none⟩ = some (.int .u32 b) ∧ g < w'.heap.size ∧ Below w0.heap.size w0 w' :=
  ⟨(hb.cell (p := ⟨g, 0, none⟩) hl1).trans h0, (hb.cell (p := ⟨g, 1, none⟩) hl1).trans h1, Nat.lt_of_lt_of_le hl1 hb.size, hw.trans (hb.mono hw.size)⟩
set_option maxRecDepth 100000 in
set_option maxHeartbeats 4000000 in
theorem sumAdds_nat (a b : Int) (s : ByteArray) (w : World) (hp : Fit (a, b)) (hs : s.size ≤ 140737488351232) :
    Calls Try.prog 4 #[.agg #[.int .u32 a, .int .u32 b], .string s] w fun e w' => e = .returned (.bool true) ∧ Below w.heap.size w w' := by
  by_cases hbig : (65536 : Int) < s.size
  · go_enter Try.func4, Try.ntmps4
    go_wp2_with fail
    refine (sworks_any _).mono ?_
    rintro e w1 ⟨rfl, hb1⟩
    go_wp2
    go_ret
    exact ⟨rfl, ((Below.refl _ _).alloc (Nat.le_refl _) _).trans (hb1.mono (by simp))⟩
  · have h0 : Fit (0, 0) := ⟨by omega, by omega, by omega, by omega⟩
    have a0 := fun w => add_any a b s w hp hs
    have r0 := fun w => refAdd_any a b s w hp hs
    have o0 := fun w => of_any s w hs
    have r1 := fun w => refAdd_any 0 0 s w h0 hs
    generalize addL (bts s) (a, b) = P at *
    generalize addL (bts s) (0, 0) = Q at *
    obtain ⟨P1, P2⟩ := P
    obtain ⟨Q1, Q2⟩ := Q
    have A0 := Lib.hid a0
    have R0 := Lib.hid r0
    have O0 := Lib.hid o0
    have R1 := Lib.hid r1
    clear a0 r0 o0 r1 h0 hp
    have hl0 : w.heap.size < (w.alloc (.cells #[.int .u32 a, .int .u32 b] 24)).drew.heap.size := by simp [World.drew]
    have hl1 : Below w.heap.size w (w.alloc (.cells #[.int .u32 a, .int .u32 b] 24)).drew := ((Below.refl _ _).alloc (Nat.le_refl _) _).drew
    go_enter Try.func4, Try.ntmps4
    go_wp2_with fail
    go_region_held3 (fun w' => w'.cell? ⟨w.heap.size, 0, none⟩ = some (.int .u32 a) ∧ w'.cell? ⟨w.heap.size, 1, none⟩ = some (.int .u32 b) ∧ w.heap.size < w'.heap.size ∧ Below w.heap.size w w')
      (first | go_keep | (go_split_ands; exact heldo_below (by assumption) (by assumption) (by assumption) (by assumption) (by assumption)) | exact heldo_below (by assumption) (by assumption) (by assumption) (by assumption) (by assumption))
      (first | (go_at_call 14; (with_reducible refine (A0.out _).mono ?_); rintro e w2 ⟨rfl, hb2⟩) | (go_at_call 17; (with_reducible refine (R0.out _).mono ?_); rintro e w3 ⟨rfl, hb3⟩) | (go_at_call 13; (with_reducible refine (O0.out _).mono ?_); rintro e w4 ⟨rfl, hb4⟩) | (go_at_call 17; (with_reducible refine (R1.out _).mono ?_); rintro e w5 ⟨rfl, hb5⟩) | (go_at_call 12; refine (sworks_any _).mono ?_; rintro e w6 ⟨rfl, hb6⟩))
    go_wp2
    go_ret
    have hz : w6.cell? ⟨w.heap.size, 0, none⟩ = some (.int .u32 a) ∧ w6.cell? ⟨w.heap.size, 1, none⟩ = some (.int .u32 b) ∧ w.heap.size < w6.heap.size ∧ Below w.heap.size w w6 := by assumption
    exact ⟨rfl, hz.2.2.2⟩
theorem sumAdds_walk (a0 b0 : Int) (a1 : ByteArray) (w0 : (Lit.int .u32 a0).wf = true) (u0 : (Lit.int .u32 b0).wf = true) (w1 : a1.size ≤ 140737488351232) (w : World) :
    Calls Try.prog 4 #[.agg #[.int .u32 a0, .int .u32 b0], .string a1] w fun e w' => e = .returned (.bool true) ∧ Below w.heap.size w w' :=
  sumAdds_nat a0 b0 a1 w (fit_wf w0 u0) w1
end Go.Proofs.Ytanllihbeaapiaa
