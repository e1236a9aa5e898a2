/- The reader: text, number. Conditions: those of each lemma. -/
import Derived.Test.YticpenbebokjdaaDoorNd4
namespace Go.Proofs.YticpenbebokjdaaDoor
open Go.RowKit Go
set_option linter.unusedVariables false
set_option linter.unusedSimpArgs false
abbrev RC (left : ByteArray) (well : Bool) : Array Value := #[.string left, .bool well]
/-- the reader at r has these bytes left; the blocks X stand beside it -/
def Rk (B r : Nat) (left : ByteArray) (well : Bool) (X : BL) (W : World) : Prop := Blk W r 60 (RC left well) ∧ (∀ x ∈ X, Blk W x.1 x.2.1 x.2.2 ∧ x.1 ≠ r) ∧ B ≤ r
theorem rk_below {B r : Nat} {left : ByteArray} {well : Bool} {X : BL} {W W' : World} (h : Rk B r left well X W) (hb : Below W.heap.size W W') : Rk B r left well X W' :=
  ⟨blk_step h.1 hb, fun x hx => ⟨blk_step (h.2.1 x hx).1 hb, (h.2.1 x hx).2⟩, h.2.2⟩
theorem rk_get {B r : Nat} {left : ByteArray} {well : Bool} {X : BL} {W : World} {g : Nat} {t : TypeId} {cs : Array Value} (h : Rk B r left well X W) (hm : (g, t, cs) ∈ X) : Blk W g t cs := (h.2.1 _ hm).1
theorem rk_drop {B r : Nat} {left : ByteArray} {well : Bool} {X Y : BL} {W : World} (h : Rk B r left well X W) (hY : ∀ x ∈ Y, x ∈ X) : Rk B r left well Y W := ⟨h.1, fun x hx => h.2.1 x (hY x hx), h.2.2⟩
theorem rk_alloc {B r : Nat} {left : ByteArray} {well : Bool} {X : BL} {W : World} (h : Rk B r left well X W) (cs : Array Value) (t : TypeId) : Rk B r left well ((W.heap.size, t, cs) :: X) (W.alloc (.cells cs t)) := by
  have k := rk_below h (one_alloc (o := .cells cs t))
  refine ⟨k.1, fun x hx => ?_, k.2.2⟩
  rcases List.mem_cons.1 hx with rfl | hx
  · exact ⟨Blk.new _ _ _, Nat.ne_of_gt h.1.lt⟩
  · exact k.2.1 x hx
theorem rk_set {B r : Nat} {left left' : ByteArray} {well : Bool} {X : BL} {W : World} (h : Rk B r left well X W) : Rk B r left' well X (W.setCell ⟨r, 0, none⟩ (.string left')) :=
  ⟨h.1.set_ 0 _, fun x hx => ⟨(h.2.1 x hx).1.far (h.2.1 x hx).2 _, (h.2.1 x hx).2⟩, h.2.2⟩
theorem rk_well {B r : Nat} {left : ByteArray} {well well' : Bool} {X : BL} {W : World} (h : Rk B r left well X W) : Rk B r left well' X (W.setCell ⟨r, 1, none⟩ (.bool well')) :=
  ⟨h.1.set_ 1 _, fun x hx => ⟨(h.2.1 x hx).1.far (h.2.1 x hx).2 _, (h.2.1 x hx).2⟩, h.2.2⟩
def textZ (left : ByteArray) (well : Bool) (n : Nat) : ByteArray × ByteArray × Bool := if left.size < n then (⟨#[]⟩, ⟨#[]⟩, false) else (left.extract 0 n, left.extract n left.size, well)
set_option maxRecDepth 100000 in
set_option maxHeartbeats 4000000 in
theorem text_any (B r : Nat) (left : ByteArray) (well : Bool) (X : BL) (n : Nat) (w : World) (h : Rk B r left well X w) (hl : left.size ≤ 100000) :
    Calls Tryd.prog 31 #[.pointer (some ⟨r, 0, none⟩), .int .i64 n] w fun e w' => e = .returned (.string (textZ left well n).1) ∧ Rk B r (textZ left well n).2.1 (textZ left well n).2.2 X w' ∧ Below B w w' := by
  have c0 := h.1.cell 0
  have c1 := h.1.cell 1
  have f0 := h.1.frozen 0
  have f1 := h.1.frozen 1
  have hlI : (left.size : Int) ≤ 100000 := by omega
  have HR := Lib.hid h
  by_cases hn : left.size < n
  · have hd : decide (left.size < n) = true := decide_eq_true hn
    unfold textZ
    rw [if_pos hn]
    clear h hl
    go_enter Tryd.func31, Tryd.ntmps31
    go_wp2
    go_ret
    exact ⟨rfl, rk_well (rk_set HR.out), ((Below.refl B w).setCell HR.out.2.2 _).setCell HR.out.2.2 _⟩
  · have hd : decide (left.size < n) = false := decide_eq_false hn
    have hle : (n : Int) ≤ left.size := by omega
    unfold textZ
    rw [if_neg hn]
    clear h hl
    go_enter Tryd.func31, Tryd.ntmps31
    go_wp2
    go_ret
    exact ⟨rfl, rk_set HR.out, (Below.refl B w).setCell HR.out.2.2 _⟩
end Go.Proofs.YticpenbebokjdaaDoor
