/- A tree page's cells in memory; node.page, leafCell, innerCell. Conditions: those of each lemma. -/
import Derived.Test.YticpenbebokjdaaDoorProg
import Derived.Test.YticpenbebokjdaaDoorBase
import Derived.Test.YticpenbebokjdaaDoorWords
import Derived.Deep.RegionHeld3
import Derived.Outline
namespace Go.Proofs.YticpenbebokjdaaDoor
open Go.RowKit
set_option linter.unusedVariables false
set_option linter.unusedSimpArgs false
theorem one_alloc {w : World} {o : Obj} : Below w.heap.size w (w.alloc o) := (Below.refl _ _).alloc (Nat.le_refl _) _
/-- a cell: its key, how many bytes its row has, those that lie here, the page of the others -/
structure Cl where
  key : ByteArray
  size : Int
  loc : ByteArray
  page : Int
abbrev clC (c : Cl) : Array Value := #[.string c.key, .int .i64 c.size, .string c.loc, .int .i64 c.page]
abbrev clV (c : Cl) : Value := .agg #[.string c.key, .int .i64 c.size, .string c.loc, .int .i64 c.page]
theorem cell4 {W : World} {g : Nat} {t : TypeId} {a b c d : Value} (h : Blk W g t #[a, b, c, d]) : W.cell? ⟨g, 0, none⟩ = some a ∧ W.cell? ⟨g, 1, none⟩ = some b ∧ W.cell? ⟨g, 2, none⟩ = some c ∧ W.cell? ⟨g, 3, none⟩ = some d :=
  ⟨h.cell 0, h.cell 1, h.cell 2, h.cell 3⟩
def pageB (n least : Int) : Bool := decide (least ≤ n) && decide (n ≤ 256)
set_option maxRecDepth 100000 in
set_option maxHeartbeats 4000000 in
theorem page_any (n least : Int) (w : World) : Calls Tryd.prog 54 #[.int .i64 n, .int .i64 least] w fun e w' => e = .returned (.bool (pageB n least)) ∧ w = w' := by
  unfold pageB
  by_cases h : least ≤ n
  · have h1 : decide (least ≤ n) = true := decide_eq_true h
    rw [h1]
    go_enter Tryd.func54, Tryd.ntmps54
    go_wp2
    go_ret
    exact ⟨by simp, rfl⟩
  · have h1 : decide (least ≤ n) = false := decide_eq_false h
    rw [h1]
    go_enter Tryd.func54, Tryd.ntmps54
    go_wp2
    go_ret
    exact ⟨by simp, rfl⟩
def leafB (c : Cl) : Bool := if c.size < 0 ∨ 4000 < c.size ∨ (c.loc.size : Int) ≠ min c.size 100 then false else if 100 < c.size then pageB c.page 1 else c.page == 0
def innerB (c : Cl) : Bool := pageB c.page 1 && c.size == 0 && c.loc.toList.isEmpty
set_option maxRecDepth 100000 in
set_option maxHeartbeats 4000000 in
theorem leafCell_any (c : Cl) (w : World) : Calls Tryd.prog 53 #[clV c] w fun e w' => e = .returned (.bool (leafB c)) ∧ Below w.heap.size w w' := by
  obtain ⟨k, z, l, p⟩ := c
  have HP := Lib.hid (fun W => page_any p 1 W)
  unfold leafB
  simp only
  by_cases h0 : z < 0
  · rw [if_pos (.inl h0)]
    go_enter Tryd.func53, Tryd.ntmps53
    go_wp2
    go_ret
    exact ⟨rfl, one_alloc⟩
  by_cases h1 : 4000 < z
  · rw [if_pos (.inr (.inl h1))]
    go_enter Tryd.func53, Tryd.ntmps53
    go_wp2
    go_ret
    exact ⟨rfl, one_alloc⟩
  have h0' : 0 ≤ z := by omega
  have h1' : z ≤ 4000 := by omega
  by_cases h3 : 100 < z
  · have hm : min z 100 = 100 := by omega
    rw [hm]
    by_cases h2 : (l.size : Int) = 100
    · have hb : ((l.size : Int) != 100) = false := by simp [h2]
      rw [if_neg (by omega), if_pos h3]
      clear h2
      go_enter Tryd.func53, Tryd.ntmps53
      go_wp2_with fail
      refine (HP.out _).mono ?_
      rintro e w2 ⟨rfl, rfl⟩
      go_wp2
      go_ret
      exact ⟨rfl, one_alloc⟩
    · have hb : ((l.size : Int) != 100) = true := by simp [h2]
      rw [if_pos (.inr (.inr h2))]
      clear h2
      go_enter Tryd.func53, Tryd.ntmps53
      go_wp2
      go_ret
      exact ⟨rfl, one_alloc⟩
  · have h3' : z ≤ 100 := by omega
    have hm : min z 100 = z := by omega
    rw [hm]
    by_cases h2 : (l.size : Int) = z
    · have hb : ((l.size : Int) != z) = false := by simp [h2]
      rw [if_neg (by omega), if_neg (by omega)]
      clear h2
      go_enter Tryd.func53, Tryd.ntmps53
      go_wp2
      go_ret
      exact ⟨rfl, one_alloc⟩
    · have hb : ((l.size : Int) != z) = true := by simp [h2]
      rw [if_pos (.inr (.inr h2))]
      clear h2
      go_enter Tryd.func53, Tryd.ntmps53
      go_wp2
      go_ret
      exact ⟨rfl, one_alloc⟩
end Go.Proofs.YticpenbebokjdaaDoor
