/- Layer 13: the byte at a place; ref13's Skip. Conditions: those of each lemma. -/
import Derived.Test.YtibnmkjabpoppaaGreatDoorLx1
import Derived.BigRegion
namespace Go.Proofs.YtibnmkjabpoppaaGreatDoor
open Go Go.RowKit
set_option linter.unusedVariables false
set_option linter.unusedSimpArgs false
/-- the byte at a place; 0 behind the end -/
def atB (S : ByteArray) (p : Nat) : Nat := (bts S).getD p 0
theorem atB_end (S : ByteArray) (p : Nat) (h : S.size ≤ p) : atB S p = 0 := by
  unfold atB
  rw [List.getD_eq_getElem?_getD, List.getElem?_eq_none (by rw [bts_length]; exact h)]
  rfl
set_option maxRecDepth 100000 in
set_option maxHeartbeats 4000000 in
theorem rAt_any (S : ByteArray) (p : Nat) (w : World) : Calls Tryz.prog 28 #[.string S, .int .i64 p] w fun e w' => e = .returned (.int .u8 (atB S p)) ∧ w = w' := by
  by_cases h : p < S.size
  · have hx := byte_at S p h
    have hk := bts_getD_lt S p
    have hI : (p : Int) < S.size := by omega
    unfold atB
    generalize (bts S).getD p 0 = a at *
    go_enter Tryz.func28, Tryz.ntmps28
    go_wp2
    go_ret
    exact ⟨rfl, rfl⟩
  · have hI : (S.size : Int) ≤ p := by omega
    rw [atB_end S p (by omega)]
    clear h
    go_enter Tryz.func28, Tryz.ntmps28
    go_wp2
    go_ret
    exact ⟨rfl, rfl⟩
/-- the reader: the text, the place -/
def Rd (W : World) (g : Nat) (S : ByteArray) (p : Nat) : Prop := Blk W g 52 #[.string S, .int .i64 p]
theorem rd_cells {W : World} {g : Nat} {S : ByteArray} {p : Nat} (h : Rd W g S p) : W.cell? ⟨g, 0, none⟩ = some (.string S) ∧ W.cell? ⟨g, 1, none⟩ = some (.int .i64 p) ∧ W.frozen? ⟨g, 0, none⟩ = false ∧ W.frozen? ⟨g, 1, none⟩ = false := ⟨Blk.cell h 0, Blk.cell h 1, Blk.frozen h 0, Blk.frozen h 1⟩
set_option maxRecDepth 100000 in
set_option maxHeartbeats 4000000 in
theorem next_any (g : Nat) (S : ByteArray) (p : Nat) (w : World) (h : Rd w g S p) : Calls Tryz.prog 38 #[.pointer (some ⟨g, 0, none⟩)] w fun e w' => e = .returned (.int .u8 (atB S p)) ∧ Below w.heap.size w w' := by
  obtain ⟨c0, c1, _, _⟩ := rd_cells h
  have HB : Hid (∀ n, Below w.heap.size w (w.drewN n)) := Lib.hid fun n => below_drewN (Below.refl _ _) n
  have HB2 := Lib.hid (Below.refl w.heap.size w)
  clear h
  by_cases h : p < S.size
  · have hx := byte_at S p h
    have hk := bts_getD_lt S p
    have hI : (p : Int) < S.size := by omega
    unfold atB
    generalize (bts S).getD p 0 = a at *
    go_enter Tryz.func38, Tryz.ntmps38
    go_wp2_with fail
    go_region
    all_goals
      go_wp2_with fail
      go_region
      all_goals
        go_wp2
        go_ret
        exact ⟨rfl, HB2.out.drew.drew⟩
  · have hI : (S.size : Int) ≤ p := by omega
    rw [atB_end S p (by omega)]
    clear h
    go_enter Tryz.func38, Tryz.ntmps38
    go_wp2_with fail
    go_region
    all_goals
      go_wp2
      go_ret
      exact ⟨rfl, HB2.out.drew⟩
end Go.Proofs.YtibnmkjabpoppaaGreatDoor
