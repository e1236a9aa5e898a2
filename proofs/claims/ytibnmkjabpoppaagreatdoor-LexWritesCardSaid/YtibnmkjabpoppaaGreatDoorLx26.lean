/- Layer 13: ref13.Tokens. Conditions: those of each lemma. -/
import Derived.Test.YtibnmkjabpoppaaGreatDoorLx25
namespace Go.Proofs.YtibnmkjabpoppaaGreatDoor
open Go Go.RowKit
set_option linter.unusedVariables false
set_option linter.unusedSimpArgs false
def Tr (w : World) (acc : List TK) (v : Value) (W : World) : Prop := W.ownsRow (w.heap.size + 1) 34 4 v acc.length (tkCs acc) ∧ Blk W w.heap.size 29 #[.int .i64 0, .int .i64 0] ∧ Below w.heap.size w W ∧ w.heap.size + 1 ≤ W.heap.size
theorem tr_step {w W W' : World} {acc : List TK} {v : Value} (h : Tr w acc v W) (hb : Below W.heap.size W W') : Tr w acc v W' :=
  ⟨own_below h.1 hb, Blk.below h.2.1 hb (Blk.lt h.2.1), below_low h.2.2.1 h.2.2.1.size hb, Nat.le_trans h.2.2.2 hb.size⟩
theorem tr_grown {w W W' : World} {acc acc' : List TK} {v v' : Value} (h : Tr w acc v W) (ho : W'.ownsRow (w.heap.size + 1) 34 4 v' acc'.length (tkCs acc')) (hg : W.grownBy W' v.ownBlock) : Tr w acc' v' W' := by
  have hlt : ∀ z, v.ownBlock = some z → w.heap.size + 1 ≤ z ∧ z < W.heap.size := fun z hz => h.1.lt z hz
  exact ⟨ho, Blk.grown h.2.1 hg (fun e => by have := hlt _ e.symm; omega), h.2.2.1.grown hg h.2.2.1.size (fun z hz => by have := hlt z hz; omega), Nat.le_trans h.2.2.2 hg.size⟩
theorem tr_own {w W : World} {acc : List TK} {v : Value} (h : Tr w acc v W) (x y : Value) : ((W.setCell ⟨w.heap.size, 0, none⟩ x).setCell ⟨w.heap.size, 1, none⟩ y).ownsRow w.heap.size 34 4 v acc.length (tkCs acc) :=
  own_base (own_bx (own_bx h.1 (bx_set w.heap.size _ 0 x) (by omega)) (bx_set w.heap.size _ 1 y) (by omega)) (show w.heap.size ≤ w.heap.size + 1 by omega)
theorem tr_end {w W : World} {acc : List TK} {v : Value} (h : Tr w acc v W) (x y : Value) : Blk ((W.setCell ⟨w.heap.size, 0, none⟩ x).setCell ⟨w.heap.size, 1, none⟩ y) w.heap.size 29 #[x, y] ∧ Below w.heap.size w ((W.setCell ⟨w.heap.size, 0, none⟩ x).setCell ⟨w.heap.size, 1, none⟩ y) :=
  ⟨(h.2.1.set_ 0 x).set_ 1 y, (h.2.2.1.setCell (p := ⟨w.heap.size, 0, none⟩) (Nat.le_refl _) x).setCell (p := ⟨w.heap.size, 1, none⟩) (Nat.le_refl _) y⟩
end Go.Proofs.YtibnmkjabpoppaaGreatDoor
