/- ref10.Bytes: what stands through it. Conditions: those of each lemma. -/
import Derived.Test.YticpenbebokjdaaDoorNd16
import Derived.Test.YticpenbebokjdaaDoorNdM
import Derived.Deep.RegionHeld3
namespace Go.Proofs.YticpenbebokjdaaDoor
open Go.RowKit Go
set_option linter.unusedVariables false
set_option linter.unusedSimpArgs false
/-- the page's box and a cell's -/
def Bst (w : World) (kind first : Int) (A : Option Addr) (n c : Nat) (data : ByteArray) (g : Nat) (x : Cl) (W : World) : Prop := Nb w kind first A n c data W ∧ Blk W g 30 #[.string x.key, .int .i64 x.size, .string x.loc, .int .i64 x.page]
theorem bst_step {w W W' : World} {kind first : Int} {A : Option Addr} {n c : Nat} {data : ByteArray} {g : Nat} {x : Cl} (h : Bst w kind first A n c data g x W) (hb : Below W.heap.size W W') : Bst w kind first A n c data g x W' := ⟨nb_below h.1 hb, blk_step h.2 hb⟩
theorem bst_S {w W : World} {kind first : Int} {A : Option Addr} {n c : Nat} {data : ByteArray} {g : Nat} {x : Cl} (h : Bst w kind first A n c data g x W) : W.cell? ⟨g, 0, none⟩ = some (.string x.key) ∧ W.cell? ⟨g, 1, none⟩ = some (.int .i64 x.size) ∧ W.cell? ⟨g, 2, none⟩ = some (.string x.loc) ∧ W.cell? ⟨g, 3, none⟩ = some (.int .i64 x.page) ∧ Bst w kind first A n c data g x W := ⟨h.2.cell 0, h.2.cell 1, h.2.cell 2, h.2.cell 3, h⟩
theorem nb_S {w W : World} {kind first : Int} {A : Option Addr} {n c : Nat} {data : ByteArray} (h : Nb w kind first A n c data W) : W.cell? ⟨w.heap.size, 0, none⟩ = some (.int .u8 kind) ∧ W.cell? ⟨w.heap.size, 1, none⟩ = some (.int .i64 first) ∧ W.cell? ⟨w.heap.size, 2, none⟩ = some (.slice A n c) ∧ W.cell? ⟨w.heap.size, 3, none⟩ = some (.string data) ∧ Nb w kind first A n c data W := ⟨h.1.cell 0, h.1.cell 1, h.1.cell 2, h.1.cell 3, h⟩
theorem rnum_v (n k : Nat) (v u : Int) (hv : v = (n : Int)) (hu : u = (k : Int)) (hn : n ≤ 4294967295) (h1 : 1 ≤ k) (h8 : k ≤ 8) (W : World) : Calls Tryd.prog 36 #[.int .i64 v, .int .i64 u] W fun e w' => e = .returned (.string (bstr (numL n k))) ∧ Below W.heap.size W w' := by
  subst hv hu
  exact rnum_any n k W hn h1 h8
theorem num_size (n k : Nat) : (bstr (numL n k)).size = k := by rw [bstr_size, numL_length]
def acc2 (n f : Nat) (l : List Cl) (j : Nat) : List Nat := numL 2 1 ++ numL n 2 ++ numL f 4 ++ cellsL 2 (l.take j)
/-- the page's box and a cell of its slice -/
def Cst (w : World) (kind first : Int) (b o n c : Nat) (data : ByteArray) (j : Nat) (x : Cl) (W : World) : Prop := Nb w kind first (some ⟨b, o, none⟩) n c data W ∧ Cells4 w b (o + j * 4) x ∧ b < w.heap.size
theorem cst_step {w W W' : World} {kind first : Int} {b o n c : Nat} {data : ByteArray} {j : Nat} {x : Cl} (h : Cst w kind first b o n c data j x W) (hb : Below W.heap.size W W') : Cst w kind first b o n c data j x W' := ⟨nb_below h.1 hb, h.2⟩
theorem cst_S {w W : World} {kind first : Int} {b o n c : Nat} {data : ByteArray} {j : Nat} {x : Cl} (h : Cst w kind first b o n c data j x W) : W.cell? ⟨w.heap.size, 2, none⟩ = some (.slice (some ⟨b, o, none⟩) n c) ∧ W.cell? ⟨b, o + j * 4, none⟩ = some (.string x.key) ∧ W.cell? ⟨b, o + j * 4 + 3, none⟩ = some (.int .i64 x.page) ∧ Cst w kind first b o n c data j x W := by
  have hx := cells4_below h.2.1 h.1.2 h.2.2
  exact ⟨h.1.1.cell 2, hx.1, hx.2.2.2, h⟩
def acc1 (n : Nat) (l : List Cl) (j : Nat) : List Nat := numL 1 1 ++ numL n 2 ++ cellsL 1 (l.take j)
theorem cellsL_take (kind : Int) (l : List Cl) (j : Nat) (h : j < l.length) : cellsL kind (l.take (j + 1)) = cellsL kind (l.take j) ++ cellL kind l[j] := by
  have h2 : ∀ a : List Cl, ∀ x : Cl, cellsL kind (a ++ [x]) = cellsL kind a ++ cellL kind x := by
    intro a x
    induction a with
    | nil => simp [cellsL]
    | cons y a ih => rw [List.cons_append, cellsL, ih, cellsL, List.append_assoc]
  rw [take_snoc' l j h, h2]
end Go.Proofs.YticpenbebokjdaaDoor
