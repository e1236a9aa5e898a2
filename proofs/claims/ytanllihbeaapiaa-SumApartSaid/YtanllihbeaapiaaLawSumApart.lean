/- The walk of SumApart. Conditions: the numbers fit their kind, the text is no longer than a machine has addresses. -/
import Derived.Test.YtanllihbeaapiaaProg
import Derived.Test.YtanllihbeaapiaaSum
import Derived.Deep.RegionHeld3
namespace Go.Proofs.Ytanllihbeaapiaa
open Go.RowKit
theorem held2_below {w0 W w' : World} {a b c d : Int} (hb : Below W.heap.size W w') (h0 : W.cell? ⟨w0.heap.size, 0, none⟩ = some (.int .u32 a)) (h1 : W.cell? ⟨w0.heap.size, 1, none⟩ = some (.int .u32 b)) (h2 : W.cell? ⟨w0.heap.size + 1, 0, none⟩ = some (.int .u32 c)) (h3 : W.cell? ⟨w0.heap.size + 1, 1, none⟩ = some (.int .u32 d)) (hl : w0.heap.size + 2 ≤ W.heap.size) (hw : Below w0.heap.size w0 W) :
    w'.cell? ⟨w0.heap.size, 0, none⟩ = some (.int .u32 a) ∧ w'.cell? ⟨w0.heap.size, 1, none⟩ = some (.int .u32 b) ∧ w'.cell? ⟨w0.heap.size + 1, 0, none⟩ = some (.int .u32 c) ∧ w'.cell? ⟨w0.heap.size + 1, 1, none⟩ = some (.int .u32 d) ∧ w0.heap.size + 2 ≤ w'.heap.size ∧ Below w0.heap.size w0 w' :=
  ⟨(hb.cell (p := ⟨w0.heap.size, 0, none⟩) (by simp only; omega)).trans h0, (hb.cell (p := ⟨w0.heap.size, 1, none⟩) (by simp only; omega)).trans h1, (hb.cell (p := ⟨w0.heap.size + 1, 0, none⟩) (by simp only; omega)).trans h2, (hb.cell (p := ⟨w0.heap.size + 1, 1, none⟩) (by simp only; omega)).trans h3, Nat.le_trans hl hb.size, hw.trans (hb.mono hw.size)⟩
theorem ne_two {x y x' y' : Int} (h : ¬ (x = x' ∧ y = y')) {P : Prop} (h1 : (x == x') = false → P) (h2 : (x == x') = true → (y == y') = false → P) : P := by
  by_cases e : x = x'
  · by_cases e2 : y = y'
    · exact absurd ⟨e, e2⟩ h
    · exact h2 (by simpa using e) (by simpa using e2)
  · exact h1 (by simpa using e)
set_option maxRecDepth 100000 in
set_option maxHeartbeats 40000000 in
theorem sumApart_nat (a b c d : Int) (s : ByteArray) (w : World) (hp : Fit (a, b)) (hq : Fit (c, d)) (hs : s.size ≤ 140737488351232) :
    Calls Try.prog 10 #[.agg #[.int .u32 a, .int .u32 b], .agg #[.int .u32 c, .int .u32 d], .string s] w fun e w' => e = .returned (.bool true) ∧ Below w.heap.size w w' := by
  by_cases hbig : (65536 : Int) < s.size
  · go_enter Try.func10, Try.ntmps10
    go_wp2_with fail
    refine (sworks_any _).mono ?_
    rintro e w1 ⟨rfl, hb1⟩
    go_wp2
    go_ret
    exact ⟨rfl, (((Below.refl _ _).alloc (Nat.le_refl _) _).alloc (by simp) _).trans (hb1.mono (by simp; omega))⟩
  · have e1 : addL (bts s) (a, b) = addL (bts s) (c, d) ↔ (a, b) = (c, d) := ⟨fun h => by rw [← backL_addL (bts s) (a, b) hp, h, backL_addL _ _ hq], fun h => by rw [h]⟩
    have e2 : backL (bts s) (a, b) = backL (bts s) (c, d) ↔ (a, b) = (c, d) := ⟨fun h => by rw [← addL_backL (bts s) (a, b) hp, h, addL_backL _ _ hq], fun h => by rw [h]⟩
    have add0 := fun w => add_any a b s w hp hs
    have back0 := fun w => back_any a b s w hp hs
    have add1 := fun w => add_any c d s w hq hs
    have back1 := fun w => back_any c d s w hq hs
    generalize addL (bts s) (a, b) = P at *
    generalize backL (bts s) (a, b) = Q at *
    generalize addL (bts s) (c, d) = R at *
    generalize backL (bts s) (c, d) = T at *
    obtain ⟨P1, P2⟩ := P
    obtain ⟨Q1, Q2⟩ := Q
    obtain ⟨R1, R2⟩ := R
    obtain ⟨T1, T2⟩ := T
    simp only [Prod.mk.injEq] at e1 e2
    have ADD0 := Lib.hid add0
    have BACK0 := Lib.hid back0
    have ADD1 := Lib.hid add1
    have BACK1 := Lib.hid back1
    have E1 := Lib.hid e1
    have E2 := Lib.hid e2
    clear add0 back0 add1 back1 e1 e2 hp hq
    have hl0 : w.heap.size + 2 ≤ ((w.alloc (.cells #[.int .u32 a, .int .u32 b] 24)).alloc (.cells #[.int .u32 c, .int .u32 d] 24)).heap.size := by simp
    have hl1 : Below w.heap.size w ((w.alloc (.cells #[.int .u32 a, .int .u32 b] 24)).alloc (.cells #[.int .u32 c, .int .u32 d] 24)).drew := (((Below.refl _ _).alloc (Nat.le_refl _) _).alloc (by simp) _).drew
    by_cases heq : a = c ∧ b = d
    · obtain ⟨h1, h2⟩ := heq
      have hb1 : (a == c) = true := by simpa using h1
      have hb2' : (b == d) = true := by simpa using h2
      obtain ⟨g1, g2⟩ := E1.out.2 ⟨h1, h2⟩
      obtain ⟨g3, g4⟩ := E2.out.2 ⟨h1, h2⟩
      have hc1 : (P1 == R1) = true := by simpa using g1
      have hc2 : (P2 == R2) = true := by simpa using g2
      have hc3 : (Q1 == T1) = true := by simpa using g3
      have hc4 : (Q2 == T2) = true := by simpa using g4
      clear h1 h2 g1 g2 g3 g4 E1 E2
      go_enter Try.func10, Try.ntmps10
      go_wp2_with fail
      go_region_held3 (fun w' => w'.cell? ⟨w.heap.size, 0, none⟩ = some (.int .u32 a) ∧ w'.cell? ⟨w.heap.size, 1, none⟩ = some (.int .u32 b) ∧ w'.cell? ⟨w.heap.size + 1, 0, none⟩ = some (.int .u32 c) ∧ w'.cell? ⟨w.heap.size + 1, 1, none⟩ = some (.int .u32 d) ∧ w.heap.size + 2 ≤ w'.heap.size ∧ Below w.heap.size w w')
        (first | go_keep | (go_split_ands; exact held2_below (by assumption) (by assumption) (by assumption) (by assumption) (by assumption) (by assumption) (by assumption)) | exact held2_below (by assumption) (by assumption) (by assumption) (by assumption) (by assumption) (by assumption) (by assumption))
        (first | (go_at_call 14; (with_reducible refine (ADD0.out _).mono ?_); rintro e w2 ⟨rfl, hb2⟩) | (go_at_call 14; (with_reducible refine (ADD1.out _).mono ?_); rintro e w3 ⟨rfl, hb3⟩) | (go_at_call 15; (with_reducible refine (BACK0.out _).mono ?_); rintro e w4 ⟨rfl, hb4⟩) | (go_at_call 15; (with_reducible refine (BACK1.out _).mono ?_); rintro e w5 ⟨rfl, hb5⟩) | (go_at_call 12; refine (sworks_any _).mono ?_; rintro e w6 ⟨rfl, hb6⟩))
      go_wp2
      go_ret
      have hz : w6.cell? ⟨w.heap.size, 0, none⟩ = some (.int .u32 a) ∧ w6.cell? ⟨w.heap.size, 1, none⟩ = some (.int .u32 b) ∧ w6.cell? ⟨w.heap.size + 1, 0, none⟩ = some (.int .u32 c) ∧ w6.cell? ⟨w.heap.size + 1, 1, none⟩ = some (.int .u32 d) ∧ w.heap.size + 2 ≤ w6.heap.size ∧ Below w.heap.size w w6 := by assumption
      exact ⟨rfl, hz.2.2.2.2.2⟩
    · have n1 : ¬ (P1 = R1 ∧ P2 = R2) := fun h => heq (E1.out.1 h)
      have n2 : ¬ (Q1 = T1 ∧ Q2 = T2) := fun h => heq (E2.out.1 h)
      clear E1 E2
      have N1 := Lib.hid n1
      have N2 := Lib.hid n2
      have N0 := Lib.hid heq
      clear n1 n2 heq
      refine ne_two N0.out (fun x1 => ?_) (fun x1 x2 => ?_)
      all_goals refine ne_two N1.out (fun y1 => ?_) (fun y1 y2 => ?_)
      all_goals refine ne_two N2.out (fun z1 => ?_) (fun z1 z2 => ?_)
      all_goals clear N0 N1 N2
      all_goals (
        go_enter Try.func10, Try.ntmps10
        go_wp2_with fail
        go_region_held3 (fun w' => w'.cell? ⟨w.heap.size, 0, none⟩ = some (.int .u32 a) ∧ w'.cell? ⟨w.heap.size, 1, none⟩ = some (.int .u32 b) ∧ w'.cell? ⟨w.heap.size + 1, 0, none⟩ = some (.int .u32 c) ∧ w'.cell? ⟨w.heap.size + 1, 1, none⟩ = some (.int .u32 d) ∧ w.heap.size + 2 ≤ w'.heap.size ∧ Below w.heap.size w w')
          (first | go_keep | (go_split_ands; exact held2_below (by assumption) (by assumption) (by assumption) (by assumption) (by assumption) (by assumption) (by assumption)) | exact held2_below (by assumption) (by assumption) (by assumption) (by assumption) (by assumption) (by assumption) (by assumption))
          (first | (go_at_call 14; (with_reducible refine (ADD0.out _).mono ?_); rintro e w2 ⟨rfl, hb2⟩) | (go_at_call 14; (with_reducible refine (ADD1.out _).mono ?_); rintro e w3 ⟨rfl, hb3⟩) | (go_at_call 15; (with_reducible refine (BACK0.out _).mono ?_); rintro e w4 ⟨rfl, hb4⟩) | (go_at_call 15; (with_reducible refine (BACK1.out _).mono ?_); rintro e w5 ⟨rfl, hb5⟩) | (go_at_call 12; refine (sworks_any _).mono ?_; rintro e w6 ⟨rfl, hb6⟩))
        go_wp2
        go_ret
        have hz : w6.cell? ⟨w.heap.size, 0, none⟩ = some (.int .u32 a) ∧ w6.cell? ⟨w.heap.size, 1, none⟩ = some (.int .u32 b) ∧ w6.cell? ⟨w.heap.size + 1, 0, none⟩ = some (.int .u32 c) ∧ w6.cell? ⟨w.heap.size + 1, 1, none⟩ = some (.int .u32 d) ∧ w.heap.size + 2 ≤ w6.heap.size ∧ Below w.heap.size w w6 := by assumption
        exact ⟨rfl, hz.2.2.2.2.2⟩)
theorem sumApart_walk (a0 b0 a1 b1 : Int) (a2 : ByteArray) (w0 : (Lit.int .u32 a0).wf = true) (u0 : (Lit.int .u32 b0).wf = true) (w1 : (Lit.int .u32 a1).wf = true) (u1 : (Lit.int .u32 b1).wf = true) (w2 : a2.size ≤ 140737488351232) (w : World) :
    Calls Try.prog 10 #[.agg #[.int .u32 a0, .int .u32 b0], .agg #[.int .u32 a1, .int .u32 b1], .string a2] w fun e w' => e = .returned (.bool true) ∧ Below w.heap.size w w' :=
  sumApart_nat a0 b0 a1 b1 a2 w (fit_wf w0 u0) (fit_wf w1 u1) w2
end Go.Proofs.Ytanllihbeaapiaa
