/- slices.Equal at letters that are the same. Conditions: those of each lemma. -/
import Derived.Test.YtndlcjpkpkfcpaaNt14
namespace Go.Proofs.Ytndlcjpkpkfcpaa
open Go.RowKit Go Go.Maps
set_option linter.unusedVariables false
set_option linter.unusedSimpArgs false
theorem lts_cells {W : World} {B g o : Nat} {L : List Lt} (h : LtsAt W B (some ⟨g, o, none⟩) L) {j : Nat} {x : Lt} (hx : L[j]? = some x) : W.cell? ⟨g, o + j * 5, none⟩ = some (.int .i64 x.id) ∧ W.cell? ⟨g, o + j * 5 + 1, none⟩ = some (.int .i64 x.fr) ∧ W.cell? ⟨g, o + j * 5 + 2, none⟩ = some (.int .i64 x.to) ∧ W.cell? ⟨g, o + j * 5 + 3, none⟩ = some (.string x.bytes) ∧ W.cell? ⟨g, o + j * 5 + 4, none⟩ = some (.bool x.sp) := by
  rcases h with rfl | ⟨g', o', hA, hl, hc⟩
  · simp at hx
  · cases hA
    exact hc j x hx
set_option maxRecDepth 100000 in
set_option maxHeartbeats 2000000 in
theorem equal_same (A B : Option Addr) (c d : Nat) (L : List Lt) (w : World) (hA : LtsAt w w.heap.size A L) (hB : LtsAt w w.heap.size B L) (hl : L.length ≤ 64) :
    Calls Try.prog 20 #[.slice A L.length c, .slice B L.length d] w fun e w' => e = .returned (.bool true) ∧ Below w.heap.size w w' := by
  have hlI : (L.length : Int) ≤ 64 := by omega
  clear hl
  by_cases h0 : L = []
  · subst h0
    clear hA hB
    go_enter Try.func20, Try.ntmps20
    go_wp2
    go_loopw [13] (fun i wr => i = .int .i64 0 ∧ Below w.heap.size w wr) (fun _ _ => 0)
    case atStart => exact ⟨rfl, Below.refl _ _⟩
    case round =>
      obtain ⟨rfl, hb⟩ := hrel
      have HB := Lib.hid hb
      clear hb
      go_wp2
      go_ret
      exact ⟨rfl, HB.out⟩
  · obtain ⟨g, o, rfl⟩ : ∃ g o, A = some ⟨g, o, none⟩ := by
      rcases hA with hA | ⟨g, o, h, _⟩
      · exact absurd hA h0
      · exact ⟨g, o, h⟩
    obtain ⟨g', o', rfl⟩ : ∃ g o, B = some ⟨g, o, none⟩ := by
      rcases hB with hB | ⟨g, o, h, _⟩
      · exact absurd hB h0
      · exact ⟨g, o, h⟩
    have HA := Lib.hid hA
    have HB := Lib.hid hB
    clear hA hB h0
    go_enter Try.func20, Try.ntmps20
    go_wp2
    go_loopw [13] (fun i wr => ∃ j : Nat, j ≤ L.length ∧ i = .int .i64 j ∧ Below w.heap.size w wr) (fun i _ => L.length - (intOf i).toNat)
    case atStart => exact ⟨0, by omega, rfl, Below.refl _ _⟩
    case round =>
      obtain ⟨j, hj, rfl, hb⟩ := hrel
      have HW := Lib.hid hb
      clear hb
      by_cases hjn : j < L.length
      · obtain ⟨a0, a1, a2, a3, a4⟩ := lts_cells (lts_step HA.out HW.out) (List.getElem?_eq_getElem hjn)
        obtain ⟨b0, b1, b2, b3, b4⟩ := lts_cells (lts_step HB.out HW.out) (List.getElem?_eq_getElem hjn)
        generalize L[j] = x at *
        obtain ⟨xi, xf, xt, xb, xs⟩ := x
        simp only at a0 a1 a2 a3 a4 b0 b1 b2 b3 b4
        have hjI : (j : Int) < L.length := by omega
        go_wp2_with fail
        go_region
        all_goals
          go_wp2
          go_roundw
          case rel => exact ⟨j + 1, by omega, by go_num, HW.out.drew⟩
          case measure => simp [intOf]; omega
      · obtain rfl : j = L.length := by omega
        go_wp2
        go_ret
        exact ⟨rfl, HW.out⟩
end Go.Proofs.Ytndlcjpkpkfcpaa
