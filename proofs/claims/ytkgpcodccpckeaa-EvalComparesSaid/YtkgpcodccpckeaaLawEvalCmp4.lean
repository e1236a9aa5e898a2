/- The main way of EvalCompares: all six come to a value. Conditions: both values may be, and what they come to. -/
import Derived.Test.YtkgpcodccpckeaaEv13
import Derived.Deep.CutBlock
import Derived.OrdersHeld
import Derived.Test.YtkgpcodccpckeaaAllocs
import Derived.Test.YtkgpcodccpckeaaTakes
import Derived.Deep.RegionHeld3
namespace Go.Proofs.Ytkgpcodccpckeaa
open Go.RowKit Go
set_option linter.unusedVariables false
set_option linter.unusedSimpArgs false
/-- both values' boxes -/
def Cb (w : World) (a b : Val) (W : World) : Prop := Blk W w.heap.size 23 (valC a) ∧ Blk W (w.heap.size + 1) 23 (valC b) ∧ Below w.heap.size w W
theorem cb_below {w W W' : World} {a b : Val} (h : Cb w a b W) (hb : Below W.heap.size W W') : Cb w a b W' := ⟨blk_step h.1 hb, blk_step h.2.1 hb, bj h.2.2 hb⟩
theorem cb_new (w : World) (a b : Val) : Cb w a b ((w.alloc (.cells (valC a) 23)).alloc (.cells (valC b) 23)) := ⟨(Blk.new _ _ _).alloc _, blk_new _ _ _ _ (by simp), bj one_alloc one_alloc⟩
theorem cb_grown {w W W' : World} {a b : Val} (h : Cb w a b W) {row : Option Nat} (hg : W.grownBy W' row) (hr : ∀ z, row = some z → w.heap.size + 1 + 1 ≤ z) : Cb w a b W' :=
  ⟨h.1.grown hg (fun e => by have := hr _ e.symm; omega), h.2.1.grown hg (fun e => by have := hr _ e.symm; omega), h.2.2.grown hg h.2.2.size (fun z hz => by have := hr z hz; omega)⟩
theorem cb_cells {w W : World} {p q p' q' : Int} {s s' : ByteArray} (h : Cb w (p, q, s) (p', q', s') W) : W.cell? ⟨w.heap.size, 0, none⟩ = some (.int .u8 p) ∧ W.cell? ⟨w.heap.size, 1, none⟩ = some (.int .i64 q) ∧ W.cell? ⟨w.heap.size, 2, none⟩ = some (.string s) ∧ W.cell? ⟨w.heap.size + 1, 0, none⟩ = some (.int .u8 p') ∧ W.cell? ⟨w.heap.size + 1, 1, none⟩ = some (.int .i64 q') ∧ W.cell? ⟨w.heap.size + 1, 2, none⟩ = some (.string s') :=
  ⟨h.1.cell 0, h.1.cell 1, h.1.cell 2, h.2.1.cell 0, h.2.1.cell 1, h.2.1.cell 2⟩
/-- the two classes: where one is null, all are null; else the six come to 1 or 0 as they should -/
def Cl (kd n0 m0 n2 m2 n4 m4 p p' : Int) : Prop := (kd = 0 ∧ n0 = 0 ∧ m0 = 0 ∧ n2 = 0 ∧ m2 = 0 ∧ n4 = 0 ∧ m4 = 0 ∧ (p = 0 ∨ p' = 0)) ∨ (kd = 1 ∧ p ≠ 0 ∧ p' ≠ 0 ∧ ((n0 = 1 ∧ m0 = 0 ∧ n2 = 0 ∧ m2 = 1 ∧ n4 = 0 ∧ m4 = 1) ∨ (n0 = 0 ∧ m0 = 1 ∧ n2 = 1 ∧ m2 = 0 ∧ n4 = 0 ∧ m4 = 1) ∨ (n0 = 0 ∧ m0 = 1 ∧ n2 = 0 ∧ m2 = 1 ∧ n4 = 1 ∧ m4 = 0)))
theorem far3 {W : World} {g g' : Nat} {t : TypeId} {cs : Array Value} (h : Blk W g' t cs) (hg : g' ≠ g) (x y z : Value) : Blk (((W.setCell ⟨g, 0, none⟩ x).setCell ⟨g, 1, none⟩ y).setCell ⟨g, 2, none⟩ z) g' t cs := ((h.far hg _).far hg _).far hg _
theorem cb_far {w W : World} {a b : Val} {g : Nat} (h : Cb w a b W) (hg : w.heap.size + 1 < g) (x y z : Value) : Cb w a b (((W.setCell ⟨g, 0, none⟩ x).setCell ⟨g, 1, none⟩ y).setCell ⟨g, 2, none⟩ z) :=
  ⟨far3 h.1 (by omega) _ _ _, far3 h.2.1 (by omega) _ _ _, below3_at h.2.2 (by omega) _ _ _⟩
def D13 : Nat → List Nat
  | 1 => [0]
  | 2 => [1]
  | 4 => [3]
  | 5 => [4]
  | 7 => [6]
  | 8 => [7]
  | 10 => [9]
  | 11 => [10]
  | 13 => [12]
  | 14 => [13]
  | 16 => [15]
  | 17 => [16]
  | _ => []
def v13 (kd n0 m0 n2 m2 n4 m4 : Int) (bb oo c : Nat) : Nat → Value
  | 0 => .slice (some ⟨bb, oo, none⟩) 6 c
  | 1 => .pointer (some ⟨bb, oo, none⟩)
  | 2 => .agg #[.int .u8 kd, .int .i64 n0, .string ⟨#[]⟩]
  | 3 => .slice (some ⟨bb, oo, none⟩) 6 c
  | 4 => .pointer (some ⟨bb, oo + 3, none⟩)
  | 5 => .agg #[.int .u8 kd, .int .i64 m0, .string ⟨#[]⟩]
  | 6 => .slice (some ⟨bb, oo, none⟩) 6 c
  | 7 => .pointer (some ⟨bb, oo + 6, none⟩)
  | 8 => .agg #[.int .u8 kd, .int .i64 n2, .string ⟨#[]⟩]
  | 9 => .slice (some ⟨bb, oo, none⟩) 6 c
  | 10 => .pointer (some ⟨bb, oo + 9, none⟩)
  | 11 => .agg #[.int .u8 kd, .int .i64 m4, .string ⟨#[]⟩]
  | 12 => .slice (some ⟨bb, oo, none⟩) 6 c
  | 13 => .pointer (some ⟨bb, oo + 12, none⟩)
  | 14 => .agg #[.int .u8 kd, .int .i64 n4, .string ⟨#[]⟩]
  | 15 => .slice (some ⟨bb, oo, none⟩) 6 c
  | 16 => .pointer (some ⟨bb, oo + 15, none⟩)
  | 17 => .agg #[.int .u8 kd, .int .i64 m2, .string ⟨#[]⟩]
  | _ => .bool false
def D17 : Nat → List Nat
  | 1 => [0]
  | 3 => [2]
  | 4 => [1, 3]
  | 6 => [5]
  | 7 => [4, 6]
  | 8 => [7]
  | 9 => [8]
  | 10 => [9]
  | 11 => [9]
  | 12 => [9]
  | 13 => [9, 11, 12]
  | 14 => [9, 10, 13]
  | 15 => [9, 14]
  | 16 => [15]
  | 17 => [16]
  | 18 => [16]
  | 19 => [16]
  | 20 => [16, 18, 19]
  | 21 => [16, 17, 20]
  | 22 => [16, 21]
  | 23 => [22]
  | 24 => [23]
  | 25 => [23]
  | 26 => [23]
  | 27 => [23, 25, 26]
  | 28 => [23, 24, 27]
  | 29 => [23, 28]
  | 30 => [29]
  | _ => []
def mk17 (n0 m0 n2 m2 n4 m4 : Int) (g0 g1 g2 g3 g4 g5 : Nat) : Nat → Nat → Nat → Nat → Value
  | 0, _, _, _ => .pointer (some ⟨g0, 1, none⟩)
  | 1, _, _, _ => .int .i64 (n0)
  | 2, _, _, _ => .pointer (some ⟨g2, 1, none⟩)
  | 3, _, _, _ => .int .i64 (n2)
  | 4, _, _, _ => .int .i64 (n0 + n2)
  | 5, _, _, _ => .pointer (some ⟨g4, 1, none⟩)
  | 6, _, _, _ => .int .i64 (n4)
  | 7, _, _, _ => .int .i64 (n0 + n2 + n4)
  | 8, _, _, _ => .bool true
  | 9, _, _, _ => .bool true
  | 10, _, _, _ => .agg #[.int .u8 1, .int .i64 m0, .string ⟨#[]⟩]
  | 11, _, _, _ => .func (.func 28) #[] #[]
  | 12, _, _, _ => .agg #[.int .u8 1, .int .i64 n0, .string ⟨#[]⟩]
  | 13, _, _, _ => .agg #[.int .u8 1, .int .i64 m0, .string ⟨#[]⟩]
  | 14, _, _, _ => .bool true
  | 15, _, _, _ => .bool true
  | 16, _, _, _ => .bool true
  | 17, _, _, _ => .agg #[.int .u8 1, .int .i64 m2, .string ⟨#[]⟩]
  | 18, _, _, _ => .func (.func 28) #[] #[]
  | 19, _, _, _ => .agg #[.int .u8 1, .int .i64 n2, .string ⟨#[]⟩]
  | 20, _, _, _ => .agg #[.int .u8 1, .int .i64 m2, .string ⟨#[]⟩]
  | 21, _, _, _ => .bool true
  | 22, _, _, _ => .bool true
  | 23, _, _, _ => .bool true
  | 24, _, _, _ => .agg #[.int .u8 1, .int .i64 m4, .string ⟨#[]⟩]
  | 25, _, _, _ => .func (.func 28) #[] #[]
  | 26, _, _, _ => .agg #[.int .u8 1, .int .i64 n4, .string ⟨#[]⟩]
  | 27, _, _, _ => .agg #[.int .u8 1, .int .i64 m4, .string ⟨#[]⟩]
  | 28, _, _, _ => .bool true
  | 29, _, _, _ => .bool true
  | 30, _, _, _ => .bool true
  | _, _, _, _ => .bool false
def NotC (n m : Int) : Prop := ∀ W, Calls Try.prog 28 #[.agg #[.int .u8 1, .int .i64 n, .string ⟨#[]⟩]] W fun e w' => e = .returned (.agg #[.int .u8 1, .int .i64 m, .string ⟨#[]⟩]) ∧ Below W.heap.size W w'
theorem cl_facts {n0 m0 n2 m2 n4 m4 : Int} (h : (n0 = 1 ∧ m0 = 0 ∧ n2 = 0 ∧ m2 = 1 ∧ n4 = 0 ∧ m4 = 1) ∨ (n0 = 0 ∧ m0 = 1 ∧ n2 = 1 ∧ m2 = 0 ∧ n4 = 0 ∧ m4 = 1) ∨ (n0 = 0 ∧ m0 = 1 ∧ n2 = 0 ∧ m2 = 1 ∧ n4 = 1 ∧ m4 = 0)) :
    IntKind.i64.wrap (n0 + n2) = n0 + n2 ∧ IntKind.i64.wrap (n0 + n2 + n4) = n0 + n2 + n4 ∧ (n0 + n2 + n4 == 1) = true ∧ NotC n0 m0 ∧ NotC n2 m2 ∧ NotC n4 m4 := by
  rcases h with ⟨rfl, rfl, rfl, rfl, rfl, rfl⟩ | ⟨rfl, rfl, rfl, rfl, rfl, rfl⟩ | ⟨rfl, rfl, rfl, rfl, rfl, rfl⟩
  · exact ⟨by decide, by decide, by decide, notf_1, notf_0, notf_0⟩
  · exact ⟨by decide, by decide, by decide, notf_0, notf_1, notf_0⟩
  · exact ⟨by decide, by decide, by decide, notf_0, notf_0, notf_1⟩
theorem s18_far {W : World} {bb oo g : Nat} {kd n0 m0 n2 m2 n4 m4 : Int} (h : W.cell? ⟨bb, oo, none⟩ = some (.int .u8 kd) ∧ W.cell? ⟨bb, oo + 1, none⟩ = some (.int .i64 n0) ∧ W.cell? ⟨bb, oo + 2, none⟩ = some (.string ⟨#[]⟩) ∧ W.cell? ⟨bb, oo + 3, none⟩ = some (.int .u8 kd) ∧ W.cell? ⟨bb, oo + 3 + 1, none⟩ = some (.int .i64 m0) ∧ W.cell? ⟨bb, oo + 3 + 2, none⟩ = some (.string ⟨#[]⟩) ∧ W.cell? ⟨bb, oo + 6, none⟩ = some (.int .u8 kd) ∧ W.cell? ⟨bb, oo + 6 + 1, none⟩ = some (.int .i64 n2) ∧ W.cell? ⟨bb, oo + 6 + 2, none⟩ = some (.string ⟨#[]⟩) ∧ W.cell? ⟨bb, oo + 9, none⟩ = some (.int .u8 kd) ∧ W.cell? ⟨bb, oo + 9 + 1, none⟩ = some (.int .i64 m4) ∧ W.cell? ⟨bb, oo + 9 + 2, none⟩ = some (.string ⟨#[]⟩) ∧ W.cell? ⟨bb, oo + 12, none⟩ = some (.int .u8 kd) ∧ W.cell? ⟨bb, oo + 12 + 1, none⟩ = some (.int .i64 n4) ∧ W.cell? ⟨bb, oo + 12 + 2, none⟩ = some (.string ⟨#[]⟩) ∧ W.cell? ⟨bb, oo + 15, none⟩ = some (.int .u8 kd) ∧ W.cell? ⟨bb, oo + 15 + 1, none⟩ = some (.int .i64 m2) ∧ W.cell? ⟨bb, oo + 15 + 2, none⟩ = some (.string ⟨#[]⟩)) (hne : bb ≠ g) (x y z : Value) : (((W.setCell ⟨g, 0, none⟩ x).setCell ⟨g, 1, none⟩ y).setCell ⟨g, 2, none⟩ z).cell? ⟨bb, oo, none⟩ = some (.int .u8 kd) ∧ (((W.setCell ⟨g, 0, none⟩ x).setCell ⟨g, 1, none⟩ y).setCell ⟨g, 2, none⟩ z).cell? ⟨bb, oo + 1, none⟩ = some (.int .i64 n0) ∧ (((W.setCell ⟨g, 0, none⟩ x).setCell ⟨g, 1, none⟩ y).setCell ⟨g, 2, none⟩ z).cell? ⟨bb, oo + 2, none⟩ = some (.string ⟨#[]⟩) ∧ (((W.setCell ⟨g, 0, none⟩ x).setCell ⟨g, 1, none⟩ y).setCell ⟨g, 2, none⟩ z).cell? ⟨bb, oo + 3, none⟩ = some (.int .u8 kd) ∧ (((W.setCell ⟨g, 0, none⟩ x).setCell ⟨g, 1, none⟩ y).setCell ⟨g, 2, none⟩ z).cell? ⟨bb, oo + 3 + 1, none⟩ = some (.int .i64 m0) ∧ (((W.setCell ⟨g, 0, none⟩ x).setCell ⟨g, 1, none⟩ y).setCell ⟨g, 2, none⟩ z).cell? ⟨bb, oo + 3 + 2, none⟩ = some (.string ⟨#[]⟩) ∧ (((W.setCell ⟨g, 0, none⟩ x).setCell ⟨g, 1, none⟩ y).setCell ⟨g, 2, none⟩ z).cell? ⟨bb, oo + 6, none⟩ = some (.int .u8 kd) ∧ (((W.setCell ⟨g, 0, none⟩ x).setCell ⟨g, 1, none⟩ y).setCell ⟨g, 2, none⟩ z).cell? ⟨bb, oo + 6 + 1, none⟩ = some (.int .i64 n2) ∧ (((W.setCell ⟨g, 0, none⟩ x).setCell ⟨g, 1, none⟩ y).setCell ⟨g, 2, none⟩ z).cell? ⟨bb, oo + 6 + 2, none⟩ = some (.string ⟨#[]⟩) ∧ (((W.setCell ⟨g, 0, none⟩ x).setCell ⟨g, 1, none⟩ y).setCell ⟨g, 2, none⟩ z).cell? ⟨bb, oo + 9, none⟩ = some (.int .u8 kd) ∧ (((W.setCell ⟨g, 0, none⟩ x).setCell ⟨g, 1, none⟩ y).setCell ⟨g, 2, none⟩ z).cell? ⟨bb, oo + 9 + 1, none⟩ = some (.int .i64 m4) ∧ (((W.setCell ⟨g, 0, none⟩ x).setCell ⟨g, 1, none⟩ y).setCell ⟨g, 2, none⟩ z).cell? ⟨bb, oo + 9 + 2, none⟩ = some (.string ⟨#[]⟩) ∧ (((W.setCell ⟨g, 0, none⟩ x).setCell ⟨g, 1, none⟩ y).setCell ⟨g, 2, none⟩ z).cell? ⟨bb, oo + 12, none⟩ = some (.int .u8 kd) ∧ (((W.setCell ⟨g, 0, none⟩ x).setCell ⟨g, 1, none⟩ y).setCell ⟨g, 2, none⟩ z).cell? ⟨bb, oo + 12 + 1, none⟩ = some (.int .i64 n4) ∧ (((W.setCell ⟨g, 0, none⟩ x).setCell ⟨g, 1, none⟩ y).setCell ⟨g, 2, none⟩ z).cell? ⟨bb, oo + 12 + 2, none⟩ = some (.string ⟨#[]⟩) ∧ (((W.setCell ⟨g, 0, none⟩ x).setCell ⟨g, 1, none⟩ y).setCell ⟨g, 2, none⟩ z).cell? ⟨bb, oo + 15, none⟩ = some (.int .u8 kd) ∧ (((W.setCell ⟨g, 0, none⟩ x).setCell ⟨g, 1, none⟩ y).setCell ⟨g, 2, none⟩ z).cell? ⟨bb, oo + 15 + 1, none⟩ = some (.int .i64 m2) ∧ (((W.setCell ⟨g, 0, none⟩ x).setCell ⟨g, 1, none⟩ y).setCell ⟨g, 2, none⟩ z).cell? ⟨bb, oo + 15 + 2, none⟩ = some (.string ⟨#[]⟩) := by
  have key : ∀ o v, W.cell? ⟨bb, o, none⟩ = some v → (((W.setCell ⟨g, 0, none⟩ x).setCell ⟨g, 1, none⟩ y).setCell ⟨g, 2, none⟩ z).cell? ⟨bb, o, none⟩ = some v := fun o v h => by
    rw [World.cell?_setCell_far _ _ _ _ (fun e => hne e.symm), World.cell?_setCell_far _ _ _ _ (fun e => hne e.symm), World.cell?_setCell_far _ _ _ _ (fun e => hne e.symm)]
    exact h
  exact ⟨key _ _ h.1, key _ _ h.2.1, key _ _ h.2.2.1, key _ _ h.2.2.2.1, key _ _ h.2.2.2.2.1, key _ _ h.2.2.2.2.2.1, key _ _ h.2.2.2.2.2.2.1, key _ _ h.2.2.2.2.2.2.2.1, key _ _ h.2.2.2.2.2.2.2.2.1, key _ _ h.2.2.2.2.2.2.2.2.2.1, key _ _ h.2.2.2.2.2.2.2.2.2.2.1, key _ _ h.2.2.2.2.2.2.2.2.2.2.2.1, key _ _ h.2.2.2.2.2.2.2.2.2.2.2.2.1, key _ _ h.2.2.2.2.2.2.2.2.2.2.2.2.2.1, key _ _ h.2.2.2.2.2.2.2.2.2.2.2.2.2.2.1, key _ _ h.2.2.2.2.2.2.2.2.2.2.2.2.2.2.2.1, key _ _ h.2.2.2.2.2.2.2.2.2.2.2.2.2.2.2.2.1, key _ _ h.2.2.2.2.2.2.2.2.2.2.2.2.2.2.2.2.2⟩
set_option maxRecDepth 100000 in
set_option maxHeartbeats 8000000 in
theorem cmp_main (p q p' q' : Int) (s s' : ByteArray) (z : Int → Val) (kd n0 m0 n2 m2 n4 m4 : Int) (w : World) (fa : Fits (p, q, s)) (fb : Fits (p', q', s')) (ca : chk (p, q, s) = 0) (cb : chk (p', q', s') = 0) (la : s.size ≤ 4096) (lb : s'.size ≤ 4096)
    (hz : ∀ op rz, 12 ≤ op → op ≤ 17 → doZ op 2 (p, q, s) (p', q', s') rz = (z op, 0))
    (z12 : z 12 = (kd, n0, ⟨#[]⟩)) (z13 : z 13 = (kd, m0, ⟨#[]⟩)) (z14 : z 14 = (kd, n2, ⟨#[]⟩)) (z15 : z 15 = (kd, m4, ⟨#[]⟩)) (z16 : z 16 = (kd, n4, ⟨#[]⟩)) (z17 : z 17 = (kd, m2, ⟨#[]⟩))
    (hcl : Cl kd n0 m0 n2 m2 n4 m4 p p') :
    Calls Try.prog 9 #[.agg #[.int .u8 p, .int .i64 q, .string s], .agg #[.int .u8 p', .int .i64 q', .string s']] w fun e w' => e = .returned (.bool true) ∧ Below w.heap.size w w' := by
  obtain ⟨iv, hv1, hv2, hv3, hv4⟩ := info_parts (show (Try.prog.info? 23).map (fun i => (i.zero, i.size, i.bytes)) = some (some (.agg #[.int .u8 0, .int .i64 0, .string ⟨#[]⟩]), 3, 32) by kernel_rfl)
  have HW := Lib.hid (fun W (h : Cb w (p, q, s) (p', q', s') W) => (works15 W).mono fun e w' he => And.intro he.1 (cb_below h he.2))
  have HT := Lib.hid (fun (x : Int) W => two_any x (p, q, s) (p', q', s') W)
  have HE : Hid (∀ (x : Int) g W, 12 ≤ x → x ≤ 17 → Kids W W.heap.size (some ⟨g, 0, none⟩) [leafX (p, q, s), leafX (p', q', s')] → Calls Try.prog 15 #[.agg #[.int .u8 x, .int .u8 0, .int .i64 0, .string ⟨#[]⟩, .string ⟨#[]⟩, .string ⟨#[]⟩, .int .i64 0, .slice (some ⟨g, 0, none⟩) 2 2], .slice none 0 0] W fun e w' => e = .returned (.tuple #[.agg #[.int .u8 (z x).1, .int .i64 (z x).2.1, .string (z x).2.2], .int .i64 0]) ∧ Below W.heap.size W w') := Lib.hid fun x g W h1 h2 hk => by
    have h := eval_two x (p, q, s) (p', q', s') ((0, 0, ⟨#[]⟩), 0) g W (by omega) (by omega) (by omega) hk fa fb ca cb (fun hc => by
      have h5 := hc.2.2.2.2
      unfold comparesB at h5
      rw [decide_eq_true h1, decide_eq_true h2] at h5
      cases h5)
    rw [hz x _ h1 h2] at h
    exact h
  have HS := Lib.hid (cb_new w (p, q, s) (p', q', s'))
  have laI : (s.size : Int) ≤ 4096 := by omega
  have lbI : (s'.size : Int) ≤ 4096 := by omega
  have HCL := Lib.hid hcl
  have HZ := Lib.hid (And.intro z12 (And.intro z13 (And.intro z14 (And.intro z15 (And.intro z16 z17)))))
  clear fa fb ca cb la lb hz hcl z12 z13 z14 z15 z16 z17
  go_enter Try.func9, Try.ntmps9
  go_wp2_with fail
  refine (HW.out _ HS.out).mono ?_
  rintro e w2 ⟨rfl, hs2⟩
  obtain ⟨ca0, ca1, ca2, cb0, cb1, cb2⟩ := cb_cells hs2
  have HS2 := Lib.hid hs2
  clear hs2 HS
  go_wp2
  go_loopw [5, 6] (fun v i wr => ∃ (x : Int) (l : List Val), 12 ≤ x ∧ x ≤ 18 ∧ i = .int .u8 x ∧ l = (List.range (x - 12).toNat).map (fun (k : Nat) => z (12 + (k : Int))) ∧ wr.ownsRow (w.heap.size + 1 + 1) 23 3 v l.length (valCs l) ∧ Cb w (p, q, s) (p', q', s') wr) (fun _ i _ => (18 - intOf i).toNat)
  case atStart => exact ⟨12, [], by omega, by omega, rfl, rfl, World.ownsRow_nil _ _ _ _, HS2.out⟩
  case round =>
    obtain ⟨x, l, x1, x2, rfl, hl, hown, hy⟩ := hrel
    obtain ⟨A, c, rfl⟩ := own_form hown
    obtain ⟨ca0, ca1, ca2, cb0, cb1, cb2⟩ := cb_cells hy
    by_cases hx : x ≤ 17
    · have hll : l.length ≤ 5 := by rw [hl, List.length_map, List.length_range]; omega
      have hxw : IntKind.u8.wrap (x + 1) = x + 1 := by rw [IntKind.wrap_u8]; omega
      have HX := Lib.hid (And.intro x1 hx)
      have HLL := Lib.hid (And.intro hl hll)
      have HO := Lib.hid hown
      have HY := Lib.hid hy
      clear hl hll hown hy x1 x2
      go_wp2_with fail
      refine (HT.out x _).mono ?_
      rintro e w3 ⟨g3, rfl, hk3, hb3⟩
      have HY3 := Lib.hid (cb_below HY.out hb3)
      have HO3 := Lib.hid (own_below HO.out hb3)
      have HK3 := Lib.hid hk3
      clear hb3 hk3 HY HO
      go_wp2_with fail
      refine (HE.out x _ _ HX.out.1 HX.out.2 HK3.out).mono ?_
      rintro e w4 ⟨rfl, hb4⟩
      obtain ⟨⟨z1, z2, z3⟩, hzx⟩ : ∃ y, z x = y := ⟨_, rfl⟩
      rw [hzx]
      have hba := hb4.alloc hb4.size (.cells #[.int .u8 z1, .int .i64 z2, .string z3] 23)
      have hbb := hba.alloc hba.size (.cells #[.int .u8 z1, .int .i64 z2, .string z3] 23)
      have HY4 := Lib.hid (cb_below HY3.out hbb)
      have HO4 := Lib.hid (own_below HO3.out hbb)
      have HZX := Lib.hid hzx
      have hrd := reads3g (w4.alloc (.cells #[.int .u8 z1, .int .i64 z2, .string z3] 23)) (w4.heap.size + 1) (z1, z2, z3) 23 (by simp)
      have HBS : Hid (w.heap.size + 1 + 1 ≤ ((w4.alloc (.cells #[.int .u8 z1, .int .i64 z2, .string z3] 23)).alloc (.cells #[.int .u8 z1, .int .i64 z2, .string z3] 23)).heap.size) := Lib.hid (by have := HY4.out.2.1.lt; omega)
      have hll := HLL.out.2
      clear hb4 hba hbb HY3 HO3 HK3 hzx
      go_wp2_with (at_builtin; refine wpList_append_any _ rfl (.tmp 65) (.tmp 67) 42 rfl (w.heap.size + 1 + 1) 23 iv _ 3 32 Try.underlying42 hv1 hv2 hv3 hv4 rfl (by omega) _ l.length (valCs l) rfl HO4.out (w4.heap.size + 1 + 1) (some ⟨w4.heap.size + 1, 0, none⟩) 1 1 [Value.int .u8 z1, .int .i64 z2, .string z3] rfl hrd (by intro u hu; simp at hu; rcases hu with rfl | rfl | rfl <;> rfl) (by simp only [maxLen]; omega) (by omega) HBS.out ?_; intro v1 w8 hown1 hg1 hat1; obtain ⟨A1, c1, rfl⟩ := own_form hown1; (have HY8 := Lib.hid (cb_grown HY4.out hg1 (fun y hy => (HO4.out.lt y hy).1))); (have HO8 := Lib.hid hown1); clear hown1 hg1 hat1 hrd)
      go_wp2
      go_roundw
      case rel =>
        have hl := HLL.out.1
        have hx1 := HX.out
        refine ⟨x + 1, l ++ [(z1, z2, z3)], by omega, by omega, rfl, ?_, by rw [valCs_snoc, List.length_append]; exact HO8.out, HY8.out⟩
        rw [hl, ← HZX.out, show (x + 1 - 12).toNat = (x - 12).toNat + 1 by omega, List.range_succ, List.map_append, List.map_cons, List.map_nil, show (12 : Int) + ((x - 12).toNat : Int) = x by omega]
      case measure =>
        have hx1 := HX.out
        simp [intOf]
        omega
    · obtain rfl : x = 18 := by omega
      have hl6 : l = [(kd, n0, ⟨#[]⟩), (kd, m0, ⟨#[]⟩), (kd, n2, ⟨#[]⟩), (kd, m4, ⟨#[]⟩), (kd, n4, ⟨#[]⟩), (kd, m2, ⟨#[]⟩)] := by
        rw [hl, ← HZ.out.1, ← HZ.out.2.1, ← HZ.out.2.2.1, ← HZ.out.2.2.2.1, ← HZ.out.2.2.2.2.1, ← HZ.out.2.2.2.2.2]
        rfl
      subst hl6
      have HO := Lib.hid hown
      have HY := Lib.hid hy
      clear hl hown hy hx x1 x2
      have hvals := vals_of_own HO.out rfl
      obtain ⟨bb, oo, rfl, hlt, hvc⟩ := vals_get hvals (by simp)
      have HC : Hid (wr.cell? ⟨bb, oo, none⟩ = some (.int .u8 kd) ∧ wr.cell? ⟨bb, oo + 1, none⟩ = some (.int .i64 n0) ∧ wr.cell? ⟨bb, oo + 2, none⟩ = some (.string ⟨#[]⟩) ∧ wr.cell? ⟨bb, oo + 3, none⟩ = some (.int .u8 kd) ∧ wr.cell? ⟨bb, oo + 3 + 1, none⟩ = some (.int .i64 m0) ∧ wr.cell? ⟨bb, oo + 3 + 2, none⟩ = some (.string ⟨#[]⟩) ∧ wr.cell? ⟨bb, oo + 6, none⟩ = some (.int .u8 kd) ∧ wr.cell? ⟨bb, oo + 6 + 1, none⟩ = some (.int .i64 n2) ∧ wr.cell? ⟨bb, oo + 6 + 2, none⟩ = some (.string ⟨#[]⟩) ∧ wr.cell? ⟨bb, oo + 9, none⟩ = some (.int .u8 kd) ∧ wr.cell? ⟨bb, oo + 9 + 1, none⟩ = some (.int .i64 m4) ∧ wr.cell? ⟨bb, oo + 9 + 2, none⟩ = some (.string ⟨#[]⟩) ∧ wr.cell? ⟨bb, oo + 12, none⟩ = some (.int .u8 kd) ∧ wr.cell? ⟨bb, oo + 12 + 1, none⟩ = some (.int .i64 n4) ∧ wr.cell? ⟨bb, oo + 12 + 2, none⟩ = some (.string ⟨#[]⟩) ∧ wr.cell? ⟨bb, oo + 15, none⟩ = some (.int .u8 kd) ∧ wr.cell? ⟨bb, oo + 15 + 1, none⟩ = some (.int .i64 m2) ∧ wr.cell? ⟨bb, oo + 15 + 2, none⟩ = some (.string ⟨#[]⟩)) := Lib.hid (by
        have k0 := hvc 0 _ rfl
        have k1 := hvc 1 _ rfl
        have k2 := hvc 2 _ rfl
        have k3 := hvc 3 _ rfl
        have k4 := hvc 4 _ rfl
        have k5 := hvc 5 _ rfl
        simp only [Nat.zero_mul, Nat.one_mul, Nat.add_zero, Nat.reduceMul] at k0 k1 k2 k3 k4 k5
        exact ⟨k0.1, k0.2.1, k0.2.2, k1.1, k1.2.1, k1.2.2, k2.1, k2.2.1, k2.2.2, k3.1, k3.2.1, k3.2.2, k4.1, k4.2.1, k4.2.2, k5.1, k5.2.1, k5.2.2⟩)
      have HYD := Lib.hid (show Cb w (p, q, s) (p', q', s') wr.drew from ⟨HY.out.1.drew, HY.out.2.1.drew, HY.out.2.2.drew⟩)
      have HLT := Lib.hid hlt
      clear hvals hlt hvc HO HY
      go_upto_region 13 with fail
      refine wp_region_noPanic ?_
      refine wp_region_held_drew (S := fun W => W.cell? ⟨bb, oo, none⟩ = some (.int .u8 kd) ∧ W.cell? ⟨bb, oo + 1, none⟩ = some (.int .i64 n0) ∧ W.cell? ⟨bb, oo + 2, none⟩ = some (.string ⟨#[]⟩) ∧ W.cell? ⟨bb, oo + 3, none⟩ = some (.int .u8 kd) ∧ W.cell? ⟨bb, oo + 3 + 1, none⟩ = some (.int .i64 m0) ∧ W.cell? ⟨bb, oo + 3 + 2, none⟩ = some (.string ⟨#[]⟩) ∧ W.cell? ⟨bb, oo + 6, none⟩ = some (.int .u8 kd) ∧ W.cell? ⟨bb, oo + 6 + 1, none⟩ = some (.int .i64 n2) ∧ W.cell? ⟨bb, oo + 6 + 2, none⟩ = some (.string ⟨#[]⟩) ∧ W.cell? ⟨bb, oo + 9, none⟩ = some (.int .u8 kd) ∧ W.cell? ⟨bb, oo + 9 + 1, none⟩ = some (.int .i64 m4) ∧ W.cell? ⟨bb, oo + 9 + 2, none⟩ = some (.string ⟨#[]⟩) ∧ W.cell? ⟨bb, oo + 12, none⟩ = some (.int .u8 kd) ∧ W.cell? ⟨bb, oo + 12 + 1, none⟩ = some (.int .i64 n4) ∧ W.cell? ⟨bb, oo + 12 + 2, none⟩ = some (.string ⟨#[]⟩) ∧ W.cell? ⟨bb, oo + 15, none⟩ = some (.int .u8 kd) ∧ W.cell? ⟨bb, oo + 15 + 1, none⟩ = some (.int .i64 m2) ∧ W.cell? ⟨bb, oo + 15 + 2, none⟩ = some (.string ⟨#[]⟩)) (by kernel_rfl) HC.out (fun hHeld => ?_)
      refine takes_start (0 :: 1 :: 2 :: 3 :: 4 :: 5 :: 6 :: 7 :: 8 :: 9 :: 10 :: 11 :: 12 :: 13 :: 14 :: 15 :: 16 :: 17 :: []) D13 (v13 kd n0 m0 n2 m2 n4 m4 bb oo c) _ _ _ _ 12 _ 153 (by kernel_rfl) (by rfl) (by rfl) (fun _ _ _ _ h => h) ?hty hHeld ?htk
      case hty =>
        intro i hi a h1 h2 o ho
        simp only [List.mem_cons, List.not_mem_nil, or_false] at hi
        rcases hi with rfl | rfl | rfl | rfl | rfl | rfl | rfl | rfl | rfl | rfl | rfl | rfl | rfl | rfl | rfl | rfl | rfl | rfl
        · have ez : a.tmps[5]? = some (.slice (some ⟨bb, oo, none⟩) 6 c) := h2 5 (by decide +kernel)
          clear h1 h2
          obtain rfl := Option.some.inj ho
          clear ho
          refine Or.inl ⟨by rfl, ?_⟩
          intro w1 hSw
          try dsimp only at hSw
          go_simp
          rfl
        · have ez : a.tmps[69]? = some (.slice (some ⟨bb, oo, none⟩) 6 c) := h1 0 (by decide) 69 rfl
          clear h1 h2
          obtain rfl := Option.some.inj ho
          clear ho
          refine Or.inl ⟨by rfl, ?_⟩
          intro w1 hSw
          try dsimp only at hSw
          go_simp
          rfl
        · have ez : a.tmps[70]? = some (.pointer (some ⟨bb, oo, none⟩)) := h1 1 (by decide) 70 rfl
          clear h1 h2
          obtain rfl := Option.some.inj ho
          clear ho
          refine Or.inl ⟨by rfl, ?_⟩
          intro w1 hSw
          try dsimp only at hSw
          go_simp
          rfl
        · have ez : a.tmps[5]? = some (.slice (some ⟨bb, oo, none⟩) 6 c) := h2 5 (by decide +kernel)
          clear h1 h2
          obtain rfl := Option.some.inj ho
          clear ho
          refine Or.inl ⟨by rfl, ?_⟩
          intro w1 hSw
          try dsimp only at hSw
          go_simp
          rfl
        · have ez : a.tmps[72]? = some (.slice (some ⟨bb, oo, none⟩) 6 c) := h1 3 (by decide) 72 rfl
          clear h1 h2
          obtain rfl := Option.some.inj ho
          clear ho
          refine Or.inl ⟨by rfl, ?_⟩
          intro w1 hSw
          try dsimp only at hSw
          go_simp
          rfl
        · have ez : a.tmps[73]? = some (.pointer (some ⟨bb, oo + 3, none⟩)) := h1 4 (by decide) 73 rfl
          clear h1 h2
          obtain rfl := Option.some.inj ho
          clear ho
          refine Or.inl ⟨by rfl, ?_⟩
          intro w1 hSw
          try dsimp only at hSw
          go_simp
          rfl
        · have ez : a.tmps[5]? = some (.slice (some ⟨bb, oo, none⟩) 6 c) := h2 5 (by decide +kernel)
          clear h1 h2
          obtain rfl := Option.some.inj ho
          clear ho
          refine Or.inl ⟨by rfl, ?_⟩
          intro w1 hSw
          try dsimp only at hSw
          go_simp
          rfl
        · have ez : a.tmps[75]? = some (.slice (some ⟨bb, oo, none⟩) 6 c) := h1 6 (by decide) 75 rfl
          clear h1 h2
          obtain rfl := Option.some.inj ho
          clear ho
          refine Or.inl ⟨by rfl, ?_⟩
          intro w1 hSw
          try dsimp only at hSw
          go_simp
          rfl
        · have ez : a.tmps[76]? = some (.pointer (some ⟨bb, oo + 6, none⟩)) := h1 7 (by decide) 76 rfl
          clear h1 h2
          obtain rfl := Option.some.inj ho
          clear ho
          refine Or.inl ⟨by rfl, ?_⟩
          intro w1 hSw
          try dsimp only at hSw
          go_simp
          rfl
        · have ez : a.tmps[5]? = some (.slice (some ⟨bb, oo, none⟩) 6 c) := h2 5 (by decide +kernel)
          clear h1 h2
          obtain rfl := Option.some.inj ho
          clear ho
          refine Or.inl ⟨by rfl, ?_⟩
          intro w1 hSw
          try dsimp only at hSw
          go_simp
          rfl
        · have ez : a.tmps[78]? = some (.slice (some ⟨bb, oo, none⟩) 6 c) := h1 9 (by decide) 78 rfl
          clear h1 h2
          obtain rfl := Option.some.inj ho
          clear ho
          refine Or.inl ⟨by rfl, ?_⟩
          intro w1 hSw
          try dsimp only at hSw
          go_simp
          rfl
        · have ez : a.tmps[79]? = some (.pointer (some ⟨bb, oo + 9, none⟩)) := h1 10 (by decide) 79 rfl
          clear h1 h2
          obtain rfl := Option.some.inj ho
          clear ho
          refine Or.inl ⟨by rfl, ?_⟩
          intro w1 hSw
          try dsimp only at hSw
          go_simp
          rfl
        · have ez : a.tmps[5]? = some (.slice (some ⟨bb, oo, none⟩) 6 c) := h2 5 (by decide +kernel)
          clear h1 h2
          obtain rfl := Option.some.inj ho
          clear ho
          refine Or.inl ⟨by rfl, ?_⟩
          intro w1 hSw
          try dsimp only at hSw
          go_simp
          rfl
        · have ez : a.tmps[81]? = some (.slice (some ⟨bb, oo, none⟩) 6 c) := h1 12 (by decide) 81 rfl
          clear h1 h2
          obtain rfl := Option.some.inj ho
          clear ho
          refine Or.inl ⟨by rfl, ?_⟩
          intro w1 hSw
          try dsimp only at hSw
          go_simp
          rfl
        · have ez : a.tmps[82]? = some (.pointer (some ⟨bb, oo + 12, none⟩)) := h1 13 (by decide) 82 rfl
          clear h1 h2
          obtain rfl := Option.some.inj ho
          clear ho
          refine Or.inl ⟨by rfl, ?_⟩
          intro w1 hSw
          try dsimp only at hSw
          go_simp
          rfl
        · have ez : a.tmps[5]? = some (.slice (some ⟨bb, oo, none⟩) 6 c) := h2 5 (by decide +kernel)
          clear h1 h2
          obtain rfl := Option.some.inj ho
          clear ho
          refine Or.inl ⟨by rfl, ?_⟩
          intro w1 hSw
          try dsimp only at hSw
          go_simp
          rfl
        · have ez : a.tmps[84]? = some (.slice (some ⟨bb, oo, none⟩) 6 c) := h1 15 (by decide) 84 rfl
          clear h1 h2
          obtain rfl := Option.some.inj ho
          clear ho
          refine Or.inl ⟨by rfl, ?_⟩
          intro w1 hSw
          try dsimp only at hSw
          go_simp
          rfl
        · have ez : a.tmps[85]? = some (.pointer (some ⟨bb, oo + 15, none⟩)) := h1 16 (by decide) 85 rfl
          clear h1 h2
          obtain rfl := Option.some.inj ho
          clear ho
          refine Or.inl ⟨by rfl, ?_⟩
          intro w1 hSw
          try dsimp only at hSw
          go_simp
          rfl
      case htk =>
      rw [putsA_lit _ _ (0 :: 1 :: 2 :: 3 :: 4 :: 5 :: 6 :: 7 :: 8 :: 9 :: 10 :: 11 :: 12 :: 13 :: 14 :: 15 :: 16 :: 17 :: []).reverse ((69, 0) :: (70, 1) :: (71, 2) :: (72, 3) :: (73, 4) :: (74, 5) :: (75, 6) :: (76, 7) :: (77, 8) :: (78, 9) :: (79, 10) :: (80, 11) :: (81, 12) :: (82, 13) :: (83, 14) :: (84, 15) :: (85, 16) :: (86, 17) :: []) (by kernel_rfl), show setAllTrue (0 :: 1 :: 2 :: 3 :: 4 :: 5 :: 6 :: 7 :: 8 :: 9 :: 10 :: 11 :: 12 :: 13 :: 14 :: 15 :: 16 :: 17 :: []) (Array.replicate _ false) = lst six from by kernel_rfl]
      simp only [setAll, ↓reduceIte, Nat.reduceAdd, Nat.reduceEqDiff]
      rw [show v13 kd n0 m0 n2 m2 n4 m4 bb oo c 0 = .slice (some ⟨bb, oo, none⟩) 6 c from rfl, show v13 kd n0 m0 n2 m2 n4 m4 bb oo c 1 = .pointer (some ⟨bb, oo, none⟩) from rfl, show v13 kd n0 m0 n2 m2 n4 m4 bb oo c 2 = .agg #[.int .u8 kd, .int .i64 n0, .string ⟨#[]⟩] from rfl, show v13 kd n0 m0 n2 m2 n4 m4 bb oo c 3 = .slice (some ⟨bb, oo, none⟩) 6 c from rfl, show v13 kd n0 m0 n2 m2 n4 m4 bb oo c 4 = .pointer (some ⟨bb, oo + 3, none⟩) from rfl, show v13 kd n0 m0 n2 m2 n4 m4 bb oo c 5 = .agg #[.int .u8 kd, .int .i64 m0, .string ⟨#[]⟩] from rfl, show v13 kd n0 m0 n2 m2 n4 m4 bb oo c 6 = .slice (some ⟨bb, oo, none⟩) 6 c from rfl, show v13 kd n0 m0 n2 m2 n4 m4 bb oo c 7 = .pointer (some ⟨bb, oo + 6, none⟩) from rfl, show v13 kd n0 m0 n2 m2 n4 m4 bb oo c 8 = .agg #[.int .u8 kd, .int .i64 n2, .string ⟨#[]⟩] from rfl, show v13 kd n0 m0 n2 m2 n4 m4 bb oo c 9 = .slice (some ⟨bb, oo, none⟩) 6 c from rfl, show v13 kd n0 m0 n2 m2 n4 m4 bb oo c 10 = .pointer (some ⟨bb, oo + 9, none⟩) from rfl, show v13 kd n0 m0 n2 m2 n4 m4 bb oo c 11 = .agg #[.int .u8 kd, .int .i64 m4, .string ⟨#[]⟩] from rfl, show v13 kd n0 m0 n2 m2 n4 m4 bb oo c 12 = .slice (some ⟨bb, oo, none⟩) 6 c from rfl, show v13 kd n0 m0 n2 m2 n4 m4 bb oo c 13 = .pointer (some ⟨bb, oo + 12, none⟩) from rfl, show v13 kd n0 m0 n2 m2 n4 m4 bb oo c 14 = .agg #[.int .u8 kd, .int .i64 n4, .string ⟨#[]⟩] from rfl, show v13 kd n0 m0 n2 m2 n4 m4 bb oo c 15 = .slice (some ⟨bb, oo, none⟩) 6 c from rfl, show v13 kd n0 m0 n2 m2 n4 m4 bb oo c 16 = .pointer (some ⟨bb, oo + 15, none⟩) from rfl, show v13 kd n0 m0 n2 m2 n4 m4 bb oo c 17 = .agg #[.int .u8 kd, .int .i64 m2, .string ⟨#[]⟩] from rfl]
      refine allocs_start 23 #[.int .u8 0, .int .i64 0, .string ⟨#[]⟩] 6 _ _ ?hready ?hop ?hS hHeld ?hend
      case hready => decide +kernel
      case hop =>
        intro i hi a1 w1 K hK
        simp only [six, List.mem_cons, List.not_mem_nil, or_false] at hi
        rcases hi with rfl | rfl | rfl | rfl | rfl | rfl
        all_goals
          refine wpOp_step rfl (fun K' hK' => ?_)
          go_simp
          exact hK' _ _ hK
      case hS =>
        intro w1 h1 _
        have key : ∀ ad v, w1.cell? ad = some v → (w1.alloc (.cells #[.int .u8 0, .int .i64 0, .string ⟨#[]⟩] 23)).cell? ad = some v := fun ad v h => (World.cell?_alloc_some w1 ad _ (by rw [h]; rfl)).trans h
        exact ⟨key _ _ h1.1, key _ _ h1.2.1, key _ _ h1.2.2.1, key _ _ h1.2.2.2.1, key _ _ h1.2.2.2.2.1, key _ _ h1.2.2.2.2.2.1, key _ _ h1.2.2.2.2.2.2.1, key _ _ h1.2.2.2.2.2.2.2.1, key _ _ h1.2.2.2.2.2.2.2.2.1, key _ _ h1.2.2.2.2.2.2.2.2.2.1, key _ _ h1.2.2.2.2.2.2.2.2.2.2.1, key _ _ h1.2.2.2.2.2.2.2.2.2.2.2.1, key _ _ h1.2.2.2.2.2.2.2.2.2.2.2.2.1, key _ _ h1.2.2.2.2.2.2.2.2.2.2.2.2.2.1, key _ _ h1.2.2.2.2.2.2.2.2.2.2.2.2.2.2.1, key _ _ h1.2.2.2.2.2.2.2.2.2.2.2.2.2.2.2.1, key _ _ h1.2.2.2.2.2.2.2.2.2.2.2.2.2.2.2.2.1, key _ _ h1.2.2.2.2.2.2.2.2.2.2.2.2.2.2.2.2.2⟩
      case hend =>
        intro a1 W hleft
        obtain ⟨x, g, rfl, hg, hd, hS1, hb1⟩ := hleft
        have HY1 := Lib.hid (cb_below HYD.out hb1)
        have hlo : w.heap.size + 1 < wr.heap.size := HYD.out.2.1.lt
        have hh0 := hg 18 (show 18 ∈ six by decide) List.not_mem_nil
        have e0 := hh0.1
        have b0 := hh0.2.1
        have hlo0 := hh0.2.2
        have o0 : w.heap.size + 1 < g 18 := Nat.lt_of_lt_of_le hlo hlo0
        have bn0 : bb ≠ g 18 := Nat.ne_of_lt (Nat.lt_of_lt_of_le HLT.out hlo0)
        have hh1 := hg 19 (show 19 ∈ six by decide) List.not_mem_nil
        have e1 := hh1.1
        have b1 := hh1.2.1
        have hlo1 := hh1.2.2
        have o1 : w.heap.size + 1 < g 19 := Nat.lt_of_lt_of_le hlo hlo1
        have bn1 : bb ≠ g 19 := Nat.ne_of_lt (Nat.lt_of_lt_of_le HLT.out hlo1)
        have hh2 := hg 20 (show 20 ∈ six by decide) List.not_mem_nil
        have e2 := hh2.1
        have b2 := hh2.2.1
        have hlo2 := hh2.2.2
        have o2 : w.heap.size + 1 < g 20 := Nat.lt_of_lt_of_le hlo hlo2
        have bn2 : bb ≠ g 20 := Nat.ne_of_lt (Nat.lt_of_lt_of_le HLT.out hlo2)
        have hh3 := hg 21 (show 21 ∈ six by decide) List.not_mem_nil
        have e3 := hh3.1
        have b3 := hh3.2.1
        have hlo3 := hh3.2.2
        have o3 : w.heap.size + 1 < g 21 := Nat.lt_of_lt_of_le hlo hlo3
        have bn3 : bb ≠ g 21 := Nat.ne_of_lt (Nat.lt_of_lt_of_le HLT.out hlo3)
        have hh4 := hg 22 (show 22 ∈ six by decide) List.not_mem_nil
        have e4 := hh4.1
        have b4 := hh4.2.1
        have hlo4 := hh4.2.2
        have o4 : w.heap.size + 1 < g 22 := Nat.lt_of_lt_of_le hlo hlo4
        have bn4 : bb ≠ g 22 := Nat.ne_of_lt (Nat.lt_of_lt_of_le HLT.out hlo4)
        have hh5 := hg 23 (show 23 ∈ six by decide) List.not_mem_nil
        have e5 := hh5.1
        have b5 := hh5.2.1
        have hlo5 := hh5.2.2
        have o5 : w.heap.size + 1 < g 23 := Nat.lt_of_lt_of_le hlo hlo5
        have bn5 : bb ≠ g 23 := Nat.ne_of_lt (Nat.lt_of_lt_of_le HLT.out hlo5)
        have ne01 : g 18 ≠ g 19 := hd 18 (by decide) List.not_mem_nil 19 (by decide) List.not_mem_nil (by decide)
        have ne02 : g 18 ≠ g 20 := hd 18 (by decide) List.not_mem_nil 20 (by decide) List.not_mem_nil (by decide)
        have ne03 : g 18 ≠ g 21 := hd 18 (by decide) List.not_mem_nil 21 (by decide) List.not_mem_nil (by decide)
        have ne04 : g 18 ≠ g 22 := hd 18 (by decide) List.not_mem_nil 22 (by decide) List.not_mem_nil (by decide)
        have ne05 : g 18 ≠ g 23 := hd 18 (by decide) List.not_mem_nil 23 (by decide) List.not_mem_nil (by decide)
        have ne12 : g 19 ≠ g 20 := hd 19 (by decide) List.not_mem_nil 20 (by decide) List.not_mem_nil (by decide)
        have ne13 : g 19 ≠ g 21 := hd 19 (by decide) List.not_mem_nil 21 (by decide) List.not_mem_nil (by decide)
        have ne14 : g 19 ≠ g 22 := hd 19 (by decide) List.not_mem_nil 22 (by decide) List.not_mem_nil (by decide)
        have ne15 : g 19 ≠ g 23 := hd 19 (by decide) List.not_mem_nil 23 (by decide) List.not_mem_nil (by decide)
        have ne23 : g 20 ≠ g 21 := hd 20 (by decide) List.not_mem_nil 21 (by decide) List.not_mem_nil (by decide)
        have ne24 : g 20 ≠ g 22 := hd 20 (by decide) List.not_mem_nil 22 (by decide) List.not_mem_nil (by decide)
        have ne25 : g 20 ≠ g 23 := hd 20 (by decide) List.not_mem_nil 23 (by decide) List.not_mem_nil (by decide)
        have ne34 : g 21 ≠ g 22 := hd 21 (by decide) List.not_mem_nil 22 (by decide) List.not_mem_nil (by decide)
        have ne35 : g 21 ≠ g 23 := hd 21 (by decide) List.not_mem_nil 23 (by decide) List.not_mem_nil (by decide)
        have ne45 : g 22 ≠ g 23 := hd 22 (by decide) List.not_mem_nil 23 (by decide) List.not_mem_nil (by decide)
        rw [put6_lit]
        simp only [setAll, ↓reduceIte, Nat.reduceAdd, Nat.reduceEqDiff]
        rw [e0, e1, e2, e3, e4, e5]
        generalize g 18 = g0 at *
        generalize g 19 = g1 at *
        generalize g 20 = g2 at *
        generalize g 21 = g3 at *
        generalize g 22 = g4 at *
        generalize g 23 = g5 at *
        have HN01 := Lib.hid ne01
        have HN02 := Lib.hid ne02
        have HN03 := Lib.hid ne03
        have HN04 := Lib.hid ne04
        have HN05 := Lib.hid ne05
        have HN12 := Lib.hid ne12
        have HN13 := Lib.hid ne13
        have HN14 := Lib.hid ne14
        have HN15 := Lib.hid ne15
        have HN23 := Lib.hid ne23
        have HN24 := Lib.hid ne24
        have HN25 := Lib.hid ne25
        have HN34 := Lib.hid ne34
        have HN35 := Lib.hid ne35
        have HN45 := Lib.hid ne45
        have HB0 := Lib.hid b0
        have HO0 := Lib.hid o0
        have HN0 := Lib.hid bn0
        have HB1 := Lib.hid b1
        have HO1 := Lib.hid o1
        have HN1 := Lib.hid bn1
        have HB2 := Lib.hid b2
        have HO2 := Lib.hid o2
        have HN2 := Lib.hid bn2
        have HB3 := Lib.hid b3
        have HO3 := Lib.hid o3
        have HN3 := Lib.hid bn3
        have HB4 := Lib.hid b4
        have HO4 := Lib.hid o4
        have HN4 := Lib.hid bn4
        have HB5 := Lib.hid b5
        have HO5 := Lib.hid o5
        have HN5 := Lib.hid bn5
        have HSX := Lib.hid hS1
        clear hS1
        clear hg hd hb1 hHeld HYD e0 hlo0 hh0 e1 hlo1 hh1 e2 hlo2 hh2 e3 hlo3 hh3 e4 hlo4 hh4 e5 hlo5 hh5 hlo x ne01 ne02 ne03 ne04 ne05 ne12 ne13 ne14 ne15 ne23 ne24 ne25 ne34 ne35 ne45 b0 o0 bn0 b1 o1 bn1 b2 o2 bn2 b3 o3 bn3 b4 o4 bn4 b5 o5 bn5 g
        obtain ⟨m0_, m1_, m2_, f0_, f1_, f2_⟩ := cell3 HB0.out
        refine wpAnyH_ready (rs := [24]) (by kernel_rfl) (by simp) ?_
        refine AllReadyH.cons rfl (fun K hK => ?_) AllReadyH.nil
        go_simp
        refine hK.out _ _ (s18_far HSX.out HN0.out _ _ _) (fun hHeld => ?_)
        clear hK K m0_ m1_ m2_ f0_ f1_ f2_ HSX
        have HSX := Lib.hid hHeld
        clear hHeld
        have hq0 := blk3_set HB0.out (.int .u8 kd) (.int .i64 n0) (.string ⟨#[]⟩)
        have hq1 := far3 HB1.out (fun e => HN01.out e.symm) (.int .u8 kd) (.int .i64 n0) (.string ⟨#[]⟩)
        have hq2 := far3 HB2.out (fun e => HN02.out e.symm) (.int .u8 kd) (.int .i64 n0) (.string ⟨#[]⟩)
        have hq3 := far3 HB3.out (fun e => HN03.out e.symm) (.int .u8 kd) (.int .i64 n0) (.string ⟨#[]⟩)
        have hq4 := far3 HB4.out (fun e => HN04.out e.symm) (.int .u8 kd) (.int .i64 n0) (.string ⟨#[]⟩)
        have hq5 := far3 HB5.out (fun e => HN05.out e.symm) (.int .u8 kd) (.int .i64 n0) (.string ⟨#[]⟩)
        have hqy := cb_far HY1.out HO0.out (.int .u8 kd) (.int .i64 n0) (.string ⟨#[]⟩)
        generalize hW : ((W.setCell ⟨g0, 0, none⟩ (.int .u8 kd)).setCell ⟨g0, 1, none⟩ (.int .i64 n0)).setCell ⟨g0, 2, none⟩ (.string ⟨#[]⟩) = W2 at *
        clear hW
        clear HY1 HB0 HB1 HB2 HB3 HB4 HB5
        have HB0 := Lib.hid hq0
        have HB1 := Lib.hid hq1
        have HB2 := Lib.hid hq2
        have HB3 := Lib.hid hq3
        have HB4 := Lib.hid hq4
        have HB5 := Lib.hid hq5
        have HY2 := Lib.hid hqy
        clear hqy hq0 hq1 hq2 hq3 hq4 hq5
        obtain ⟨m0_, m1_, m2_, f0_, f1_, f2_⟩ := cell3 HB1.out
        refine wpAnyH_ready (rs := [25]) (by kernel_rfl) (by simp) ?_
        refine AllReadyH.cons rfl (fun K hK => ?_) AllReadyH.nil
        go_simp
        refine hK.out _ _ (s18_far HSX.out HN1.out _ _ _) (fun hHeld => ?_)
        clear hK K m0_ m1_ m2_ f0_ f1_ f2_ HSX
        have HSX := Lib.hid hHeld
        clear hHeld
        have hq0 := far3 HB0.out HN01.out (.int .u8 kd) (.int .i64 m0) (.string ⟨#[]⟩)
        have hq1 := blk3_set HB1.out (.int .u8 kd) (.int .i64 m0) (.string ⟨#[]⟩)
        have hq2 := far3 HB2.out (fun e => HN12.out e.symm) (.int .u8 kd) (.int .i64 m0) (.string ⟨#[]⟩)
        have hq3 := far3 HB3.out (fun e => HN13.out e.symm) (.int .u8 kd) (.int .i64 m0) (.string ⟨#[]⟩)
        have hq4 := far3 HB4.out (fun e => HN14.out e.symm) (.int .u8 kd) (.int .i64 m0) (.string ⟨#[]⟩)
        have hq5 := far3 HB5.out (fun e => HN15.out e.symm) (.int .u8 kd) (.int .i64 m0) (.string ⟨#[]⟩)
        have hqy := cb_far HY2.out HO1.out (.int .u8 kd) (.int .i64 m0) (.string ⟨#[]⟩)
        generalize hW : ((W2.setCell ⟨g1, 0, none⟩ (.int .u8 kd)).setCell ⟨g1, 1, none⟩ (.int .i64 m0)).setCell ⟨g1, 2, none⟩ (.string ⟨#[]⟩) = W3 at *
        clear hW
        clear HY2 HB0 HB1 HB2 HB3 HB4 HB5
        have HB0 := Lib.hid hq0
        have HB1 := Lib.hid hq1
        have HB2 := Lib.hid hq2
        have HB3 := Lib.hid hq3
        have HB4 := Lib.hid hq4
        have HB5 := Lib.hid hq5
        have HY3 := Lib.hid hqy
        clear hqy hq0 hq1 hq2 hq3 hq4 hq5
        obtain ⟨m0_, m1_, m2_, f0_, f1_, f2_⟩ := cell3 HB2.out
        refine wpAnyH_ready (rs := [26]) (by kernel_rfl) (by simp) ?_
        refine AllReadyH.cons rfl (fun K hK => ?_) AllReadyH.nil
        go_simp
        refine hK.out _ _ (s18_far HSX.out HN2.out _ _ _) (fun hHeld => ?_)
        clear hK K m0_ m1_ m2_ f0_ f1_ f2_ HSX
        have HSX := Lib.hid hHeld
        clear hHeld
        have hq0 := far3 HB0.out HN02.out (.int .u8 kd) (.int .i64 n2) (.string ⟨#[]⟩)
        have hq1 := far3 HB1.out HN12.out (.int .u8 kd) (.int .i64 n2) (.string ⟨#[]⟩)
        have hq2 := blk3_set HB2.out (.int .u8 kd) (.int .i64 n2) (.string ⟨#[]⟩)
        have hq3 := far3 HB3.out (fun e => HN23.out e.symm) (.int .u8 kd) (.int .i64 n2) (.string ⟨#[]⟩)
        have hq4 := far3 HB4.out (fun e => HN24.out e.symm) (.int .u8 kd) (.int .i64 n2) (.string ⟨#[]⟩)
        have hq5 := far3 HB5.out (fun e => HN25.out e.symm) (.int .u8 kd) (.int .i64 n2) (.string ⟨#[]⟩)
        have hqy := cb_far HY3.out HO2.out (.int .u8 kd) (.int .i64 n2) (.string ⟨#[]⟩)
        generalize hW : ((W3.setCell ⟨g2, 0, none⟩ (.int .u8 kd)).setCell ⟨g2, 1, none⟩ (.int .i64 n2)).setCell ⟨g2, 2, none⟩ (.string ⟨#[]⟩) = W4 at *
        clear hW
        clear HY3 HB0 HB1 HB2 HB3 HB4 HB5
        have HB0 := Lib.hid hq0
        have HB1 := Lib.hid hq1
        have HB2 := Lib.hid hq2
        have HB3 := Lib.hid hq3
        have HB4 := Lib.hid hq4
        have HB5 := Lib.hid hq5
        have HY4 := Lib.hid hqy
        clear hqy hq0 hq1 hq2 hq3 hq4 hq5
        obtain ⟨m0_, m1_, m2_, f0_, f1_, f2_⟩ := cell3 HB3.out
        refine wpAnyH_ready (rs := [27]) (by kernel_rfl) (by simp) ?_
        refine AllReadyH.cons rfl (fun K hK => ?_) AllReadyH.nil
        go_simp
        refine hK.out _ _ (s18_far HSX.out HN3.out _ _ _) (fun hHeld => ?_)
        clear hK K m0_ m1_ m2_ f0_ f1_ f2_ HSX
        have HSX := Lib.hid hHeld
        clear hHeld
        have hq0 := far3 HB0.out HN03.out (.int .u8 kd) (.int .i64 m4) (.string ⟨#[]⟩)
        have hq1 := far3 HB1.out HN13.out (.int .u8 kd) (.int .i64 m4) (.string ⟨#[]⟩)
        have hq2 := far3 HB2.out HN23.out (.int .u8 kd) (.int .i64 m4) (.string ⟨#[]⟩)
        have hq3 := blk3_set HB3.out (.int .u8 kd) (.int .i64 m4) (.string ⟨#[]⟩)
        have hq4 := far3 HB4.out (fun e => HN34.out e.symm) (.int .u8 kd) (.int .i64 m4) (.string ⟨#[]⟩)
        have hq5 := far3 HB5.out (fun e => HN35.out e.symm) (.int .u8 kd) (.int .i64 m4) (.string ⟨#[]⟩)
        have hqy := cb_far HY4.out HO3.out (.int .u8 kd) (.int .i64 m4) (.string ⟨#[]⟩)
        generalize hW : ((W4.setCell ⟨g3, 0, none⟩ (.int .u8 kd)).setCell ⟨g3, 1, none⟩ (.int .i64 m4)).setCell ⟨g3, 2, none⟩ (.string ⟨#[]⟩) = W5 at *
        clear hW
        clear HY4 HB0 HB1 HB2 HB3 HB4 HB5
        have HB0 := Lib.hid hq0
        have HB1 := Lib.hid hq1
        have HB2 := Lib.hid hq2
        have HB3 := Lib.hid hq3
        have HB4 := Lib.hid hq4
        have HB5 := Lib.hid hq5
        have HY5 := Lib.hid hqy
        clear hqy hq0 hq1 hq2 hq3 hq4 hq5
        obtain ⟨m0_, m1_, m2_, f0_, f1_, f2_⟩ := cell3 HB4.out
        refine wpAnyH_ready (rs := [28]) (by kernel_rfl) (by simp) ?_
        refine AllReadyH.cons rfl (fun K hK => ?_) AllReadyH.nil
        go_simp
        refine hK.out _ _ (s18_far HSX.out HN4.out _ _ _) (fun hHeld => ?_)
        clear hK K m0_ m1_ m2_ f0_ f1_ f2_ HSX
        have HSX := Lib.hid hHeld
        clear hHeld
        have hq0 := far3 HB0.out HN04.out (.int .u8 kd) (.int .i64 n4) (.string ⟨#[]⟩)
        have hq1 := far3 HB1.out HN14.out (.int .u8 kd) (.int .i64 n4) (.string ⟨#[]⟩)
        have hq2 := far3 HB2.out HN24.out (.int .u8 kd) (.int .i64 n4) (.string ⟨#[]⟩)
        have hq3 := far3 HB3.out HN34.out (.int .u8 kd) (.int .i64 n4) (.string ⟨#[]⟩)
        have hq4 := blk3_set HB4.out (.int .u8 kd) (.int .i64 n4) (.string ⟨#[]⟩)
        have hq5 := far3 HB5.out (fun e => HN45.out e.symm) (.int .u8 kd) (.int .i64 n4) (.string ⟨#[]⟩)
        have hqy := cb_far HY5.out HO4.out (.int .u8 kd) (.int .i64 n4) (.string ⟨#[]⟩)
        generalize hW : ((W5.setCell ⟨g4, 0, none⟩ (.int .u8 kd)).setCell ⟨g4, 1, none⟩ (.int .i64 n4)).setCell ⟨g4, 2, none⟩ (.string ⟨#[]⟩) = W6 at *
        clear hW
        clear HY5 HB0 HB1 HB2 HB3 HB4 HB5
        have HB0 := Lib.hid hq0
        have HB1 := Lib.hid hq1
        have HB2 := Lib.hid hq2
        have HB3 := Lib.hid hq3
        have HB4 := Lib.hid hq4
        have HB5 := Lib.hid hq5
        have HY6 := Lib.hid hqy
        clear hqy hq0 hq1 hq2 hq3 hq4 hq5
        obtain ⟨m0_, m1_, m2_, f0_, f1_, f2_⟩ := cell3 HB5.out
        refine wpAnyH_ready (rs := [29]) (by kernel_rfl) (by simp) ?_
        refine AllReadyH.cons rfl (fun K hK => ?_) AllReadyH.nil
        go_simp
        refine hK.out _ _ (s18_far HSX.out HN5.out _ _ _) (fun hHeld => ?_)
        clear hK K m0_ m1_ m2_ f0_ f1_ f2_ HSX
        have HSX := Lib.hid hHeld
        clear hHeld
        have hq0 := far3 HB0.out HN05.out (.int .u8 kd) (.int .i64 m2) (.string ⟨#[]⟩)
        have hq1 := far3 HB1.out HN15.out (.int .u8 kd) (.int .i64 m2) (.string ⟨#[]⟩)
        have hq2 := far3 HB2.out HN25.out (.int .u8 kd) (.int .i64 m2) (.string ⟨#[]⟩)
        have hq3 := far3 HB3.out HN35.out (.int .u8 kd) (.int .i64 m2) (.string ⟨#[]⟩)
        have hq4 := far3 HB4.out HN45.out (.int .u8 kd) (.int .i64 m2) (.string ⟨#[]⟩)
        have hq5 := blk3_set HB5.out (.int .u8 kd) (.int .i64 m2) (.string ⟨#[]⟩)
        have hqy := cb_far HY6.out HO5.out (.int .u8 kd) (.int .i64 m2) (.string ⟨#[]⟩)
        generalize hW : ((W6.setCell ⟨g5, 0, none⟩ (.int .u8 kd)).setCell ⟨g5, 1, none⟩ (.int .i64 m2)).setCell ⟨g5, 2, none⟩ (.string ⟨#[]⟩) = W7 at *
        clear hW
        clear HY6 HB0 HB1 HB2 HB3 HB4 HB5
        have HB0 := Lib.hid hq0
        have HB1 := Lib.hid hq1
        have HB2 := Lib.hid hq2
        have HB3 := Lib.hid hq3
        have HB4 := Lib.hid hq4
        have HB5 := Lib.hid hq5
        have HY7 := Lib.hid hqy
        clear hqy hq0 hq1 hq2 hq3 hq4 hq5
        refine wpAnyH_done (by kernel_rfl) ?_ _
        refine NoPanic.normal ?_
        clear HSX HLT
        have HX := Lib.hid (And.intro HO0.out HY7.out.2.2)
        clear HN01 HN02 HN03 HN04 HN05 HN12 HN13 HN14 HN15 HN23 HN24 HN25 HN34 HN35 HN45 HO0 HO1 HO2 HO3 HO4 HO5 HN0 HN1 HN2 HN3 HN4 HN5 HC
        clear ca0 ca1 ca2 cb0 cb1 cb2
        rcases HCL.out with ⟨rfl, rfl, rfl, rfl, rfl, rfl, rfl, hp⟩ | ⟨rfl, hp, hp', hc⟩
        · obtain ⟨ca0, ca1, ca2, cb0, cb1, cb2⟩ := cb_cells HY7.out
          obtain ⟨c00, c01, c02, _, _, _⟩ := cell3 HB0.out
          obtain ⟨c10, c11, c12, _, _, _⟩ := cell3 HB1.out
          obtain ⟨c20, c21, c22, _, _, _⟩ := cell3 HB2.out
          obtain ⟨c30, c31, c32, _, _, _⟩ := cell3 HB3.out
          obtain ⟨c40, c41, c42, _, _, _⟩ := cell3 HB4.out
          obtain ⟨c50, c51, c52, _, _, _⟩ := cell3 HB5.out
          by_cases hp0 : p = 0
          · subst hp0
            clear hp
            go_wp2
            go_ret
            exact ⟨rfl, HX.out.2⟩
          · have hpb := beq_no hp0
            obtain rfl : p' = 0 := hp.resolve_left hp0
            clear hp hp0
            go_wp2
            go_ret
            exact ⟨rfl, HX.out.2⟩
        · have hpb := beq_no hp
          have hpb' := beq_no hp'
          obtain ⟨ca0, ca1, ca2, cb0, cb1, cb2⟩ := cb_cells HY7.out
          have HC := Lib.hid hc
          clear hp hp' hc HY7
          go_upto_region 17 with fail
          clear ca0 ca1 ca2 cb0 cb1 cb2 hpb hpb'
          have HBW : Hid (∀ W, Below W7.drew.heap.size W7.drew W → (Blk W g0 23 #[.int .u8 1, .int .i64 n0, .string ⟨#[]⟩] ∧ Blk W g1 23 #[.int .u8 1, .int .i64 m0, .string ⟨#[]⟩] ∧ Blk W g2 23 #[.int .u8 1, .int .i64 n2, .string ⟨#[]⟩] ∧ Blk W g3 23 #[.int .u8 1, .int .i64 m4, .string ⟨#[]⟩] ∧ Blk W g4 23 #[.int .u8 1, .int .i64 n4, .string ⟨#[]⟩] ∧ Blk W g5 23 #[.int .u8 1, .int .i64 m2, .string ⟨#[]⟩]) ∧ Below w.heap.size w W) := Lib.hid (fun W h => ⟨⟨blk_step HB0.out.drew h, blk_step HB1.out.drew h, blk_step HB2.out.drew h, blk_step HB3.out.drew h, blk_step HB4.out.drew h, blk_step HB5.out.drew h⟩, bj HX.out.2.drew h⟩)
          obtain ⟨u1, u2, u3, HNF0, HNF2, HNF4⟩ : IntKind.i64.wrap (n0 + n2) = n0 + n2 ∧ IntKind.i64.wrap (n0 + n2 + n4) = n0 + n2 + n4 ∧ (n0 + n2 + n4 == 1) = true ∧ NotC n0 m0 ∧ NotC n2 m2 ∧ NotC n4 m4 := cl_facts HC.out
          clear HB0 HB1 HB2 HB3 HB4 HB5 HX HC HCL HZ
          refine wp_region_noPanic ?_
          refine wp_region_any (by kernel_rfl) ?_
          refine facts_start (0 :: 1 :: 2 :: 3 :: 4 :: 5 :: 6 :: 7 :: 8 :: 9 :: 10 :: 11 :: 12 :: 13 :: 14 :: 15 :: 16 :: 17 :: 18 :: 19 :: 20 :: 21 :: 22 :: 23 :: 24 :: 25 :: 26 :: 27 :: 28 :: 29 :: 30 :: []) [] D17 (Ft (mk17 n0 m0 n2 m2 n4 m4 g0 g1 g2 g3 g4 g5) (fun _ _ _ _ => [])) _ _ _ 0 _ #[true, true, true, true, true, true, true, true, true, true, true, true, true, true, true, true, true, true, true, true, true, true, true, true, true, true, true, true, true, true, true] (by kernel_rfl) (by rfl) ft_step no_al' ?hstep17 ?hend17
          case hstep17 =>
            intro i hi x W hd hb K hK
            obtain ⟨⟨j0, j1, j2, j3, j4, j5⟩, jb⟩ := HBW.out W (show Below W7.drew.heap.size W7.drew W from hb)
            simp only [List.mem_cons, List.not_mem_nil, or_false] at hi
            rcases hi with rfl | rfl | rfl | rfl | rfl | rfl | rfl | rfl | rfl | rfl | rfl | rfl | rfl | rfl | rfl | rfl | rfl | rfl | rfl | rfl | rfl | rfl | rfl | rfl | rfl | rfl | rfl | rfl | rfl | rfl | rfl
            · generalize hA : putsA _ _ x (0 :: 1 :: 2 :: 3 :: 4 :: 5 :: 6 :: 7 :: 8 :: 9 :: 10 :: 11 :: 12 :: 13 :: 14 :: 15 :: 16 :: 17 :: 18 :: 19 :: 20 :: 21 :: 22 :: 23 :: 24 :: 25 :: 26 :: 27 :: 28 :: 29 :: 30 :: []) = A at *
              have e9 : A.tmps[9]? = some (.pointer (some ⟨g0, 0, none⟩)) := by rw [← hA]; exact putsA_at 9 _ (by decide +kernel)
              clear hA hd
              refine wpOp_step rfl (fun K' hK' => ?_)
              go_simp
              exact hK' _ _ (hK _ _ ⟨0, 0, 0, rfl, al0⟩ (Below.refl _ _) no_al)
            · generalize hA : putsA _ _ x (0 :: 1 :: 2 :: 3 :: 4 :: 5 :: 6 :: 7 :: 8 :: 9 :: 10 :: 11 :: 12 :: 13 :: 14 :: 15 :: 16 :: 17 :: 18 :: 19 :: 20 :: 21 :: 22 :: 23 :: 24 :: 25 :: 26 :: 27 :: 28 :: 29 :: 30 :: []) = A at *
              have e123 : A.tmps[123]? = some (x 0) := by rw [← hA]; exact putsA_in (i := 0) 123 (by rfl) (by show (123 : Nat) < 153; decide) _ (by decide +kernel) (by decide)
              obtain ⟨_, _, _, f0, _⟩ := hd 0 (by decide)
              replace f0 : x 0 = .pointer (some ⟨g0, 1, none⟩) := f0
              rw [f0] at e123
              clear hA hd
              obtain ⟨jc0, jc1, jc2, _, _, _⟩ := cell3 j0
              refine wpOp_step rfl (fun K' hK' => ?_)
              go_simp
              exact hK' _ _ (hK _ _ ⟨0, 0, 0, rfl, al0⟩ (Below.refl _ _) no_al)
            · generalize hA : putsA _ _ x (0 :: 1 :: 2 :: 3 :: 4 :: 5 :: 6 :: 7 :: 8 :: 9 :: 10 :: 11 :: 12 :: 13 :: 14 :: 15 :: 16 :: 17 :: 18 :: 19 :: 20 :: 21 :: 22 :: 23 :: 24 :: 25 :: 26 :: 27 :: 28 :: 29 :: 30 :: []) = A at *
              have e11 : A.tmps[11]? = some (.pointer (some ⟨g2, 0, none⟩)) := by rw [← hA]; exact putsA_at 11 _ (by decide +kernel)
              clear hA hd
              refine wpOp_step rfl (fun K' hK' => ?_)
              go_simp
              exact hK' _ _ (hK _ _ ⟨0, 0, 0, rfl, al0⟩ (Below.refl _ _) no_al)
            · generalize hA : putsA _ _ x (0 :: 1 :: 2 :: 3 :: 4 :: 5 :: 6 :: 7 :: 8 :: 9 :: 10 :: 11 :: 12 :: 13 :: 14 :: 15 :: 16 :: 17 :: 18 :: 19 :: 20 :: 21 :: 22 :: 23 :: 24 :: 25 :: 26 :: 27 :: 28 :: 29 :: 30 :: []) = A at *
              have e125 : A.tmps[125]? = some (x 2) := by rw [← hA]; exact putsA_in (i := 2) 125 (by rfl) (by show (125 : Nat) < 153; decide) _ (by decide +kernel) (by decide)
              obtain ⟨_, _, _, f2, _⟩ := hd 2 (by decide)
              replace f2 : x 2 = .pointer (some ⟨g2, 1, none⟩) := f2
              rw [f2] at e125
              clear hA hd
              obtain ⟨jc0, jc1, jc2, _, _, _⟩ := cell3 j2
              refine wpOp_step rfl (fun K' hK' => ?_)
              go_simp
              exact hK' _ _ (hK _ _ ⟨0, 0, 0, rfl, al0⟩ (Below.refl _ _) no_al)
            · generalize hA : putsA _ _ x (0 :: 1 :: 2 :: 3 :: 4 :: 5 :: 6 :: 7 :: 8 :: 9 :: 10 :: 11 :: 12 :: 13 :: 14 :: 15 :: 16 :: 17 :: 18 :: 19 :: 20 :: 21 :: 22 :: 23 :: 24 :: 25 :: 26 :: 27 :: 28 :: 29 :: 30 :: []) = A at *
              have e124 : A.tmps[124]? = some (x 1) := by rw [← hA]; exact putsA_in (i := 1) 124 (by rfl) (by show (124 : Nat) < 153; decide) _ (by decide +kernel) (by decide)
              obtain ⟨_, _, _, f1, _⟩ := hd 1 (by decide)
              replace f1 : x 1 = .int .i64 (n0) := f1
              rw [f1] at e124
              have e126 : A.tmps[126]? = some (x 3) := by rw [← hA]; exact putsA_in (i := 3) 126 (by rfl) (by show (126 : Nat) < 153; decide) _ (by decide +kernel) (by decide)
              obtain ⟨_, _, _, f3, _⟩ := hd 3 (by decide)
              replace f3 : x 3 = .int .i64 (n2) := f3
              rw [f3] at e126
              clear hA hd
              refine wpOp_step rfl (fun K' hK' => ?_)
              go_simp
              exact hK' _ _ (hK _ _ ⟨0, 0, 0, rfl, al0⟩ (Below.refl _ _) no_al)
            · generalize hA : putsA _ _ x (0 :: 1 :: 2 :: 3 :: 4 :: 5 :: 6 :: 7 :: 8 :: 9 :: 10 :: 11 :: 12 :: 13 :: 14 :: 15 :: 16 :: 17 :: 18 :: 19 :: 20 :: 21 :: 22 :: 23 :: 24 :: 25 :: 26 :: 27 :: 28 :: 29 :: 30 :: []) = A at *
              have e13 : A.tmps[13]? = some (.pointer (some ⟨g4, 0, none⟩)) := by rw [← hA]; exact putsA_at 13 _ (by decide +kernel)
              clear hA hd
              refine wpOp_step rfl (fun K' hK' => ?_)
              go_simp
              exact hK' _ _ (hK _ _ ⟨0, 0, 0, rfl, al0⟩ (Below.refl _ _) no_al)
            · generalize hA : putsA _ _ x (0 :: 1 :: 2 :: 3 :: 4 :: 5 :: 6 :: 7 :: 8 :: 9 :: 10 :: 11 :: 12 :: 13 :: 14 :: 15 :: 16 :: 17 :: 18 :: 19 :: 20 :: 21 :: 22 :: 23 :: 24 :: 25 :: 26 :: 27 :: 28 :: 29 :: 30 :: []) = A at *
              have e128 : A.tmps[128]? = some (x 5) := by rw [← hA]; exact putsA_in (i := 5) 128 (by rfl) (by show (128 : Nat) < 153; decide) _ (by decide +kernel) (by decide)
              obtain ⟨_, _, _, f5, _⟩ := hd 5 (by decide)
              replace f5 : x 5 = .pointer (some ⟨g4, 1, none⟩) := f5
              rw [f5] at e128
              clear hA hd
              obtain ⟨jc0, jc1, jc2, _, _, _⟩ := cell3 j4
              refine wpOp_step rfl (fun K' hK' => ?_)
              go_simp
              exact hK' _ _ (hK _ _ ⟨0, 0, 0, rfl, al0⟩ (Below.refl _ _) no_al)
            · generalize hA : putsA _ _ x (0 :: 1 :: 2 :: 3 :: 4 :: 5 :: 6 :: 7 :: 8 :: 9 :: 10 :: 11 :: 12 :: 13 :: 14 :: 15 :: 16 :: 17 :: 18 :: 19 :: 20 :: 21 :: 22 :: 23 :: 24 :: 25 :: 26 :: 27 :: 28 :: 29 :: 30 :: []) = A at *
              have e127 : A.tmps[127]? = some (x 4) := by rw [← hA]; exact putsA_in (i := 4) 127 (by rfl) (by show (127 : Nat) < 153; decide) _ (by decide +kernel) (by decide)
              obtain ⟨_, _, _, f4, _⟩ := hd 4 (by decide)
              replace f4 : x 4 = .int .i64 (n0 + n2) := f4
              rw [f4] at e127
              have e129 : A.tmps[129]? = some (x 6) := by rw [← hA]; exact putsA_in (i := 6) 129 (by rfl) (by show (129 : Nat) < 153; decide) _ (by decide +kernel) (by decide)
              obtain ⟨_, _, _, f6, _⟩ := hd 6 (by decide)
              replace f6 : x 6 = .int .i64 (n4) := f6
              rw [f6] at e129
              clear hA hd
              refine wpOp_step rfl (fun K' hK' => ?_)
              go_simp
              exact hK' _ _ (hK _ _ ⟨0, 0, 0, rfl, al0⟩ (Below.refl _ _) no_al)
            · generalize hA : putsA _ _ x (0 :: 1 :: 2 :: 3 :: 4 :: 5 :: 6 :: 7 :: 8 :: 9 :: 10 :: 11 :: 12 :: 13 :: 14 :: 15 :: 16 :: 17 :: 18 :: 19 :: 20 :: 21 :: 22 :: 23 :: 24 :: 25 :: 26 :: 27 :: 28 :: 29 :: 30 :: []) = A at *
              have e130 : A.tmps[130]? = some (x 7) := by rw [← hA]; exact putsA_in (i := 7) 130 (by rfl) (by show (130 : Nat) < 153; decide) _ (by decide +kernel) (by decide)
              obtain ⟨_, _, _, f7, _⟩ := hd 7 (by decide)
              replace f7 : x 7 = .int .i64 (n0 + n2 + n4) := f7
              rw [f7] at e130
              clear hA hd
              refine wpOp_step rfl (fun K' hK' => ?_)
              go_simp
              exact hK' _ _ (hK _ _ ⟨0, 0, 0, rfl, al0⟩ (Below.refl _ _) no_al)
            · generalize hA : putsA _ _ x (0 :: 1 :: 2 :: 3 :: 4 :: 5 :: 6 :: 7 :: 8 :: 9 :: 10 :: 11 :: 12 :: 13 :: 14 :: 15 :: 16 :: 17 :: 18 :: 19 :: 20 :: 21 :: 22 :: 23 :: 24 :: 25 :: 26 :: 27 :: 28 :: 29 :: 30 :: []) = A at *
              have e131 : A.tmps[131]? = some (x 8) := by rw [← hA]; exact putsA_in (i := 8) 131 (by rfl) (by show (131 : Nat) < 153; decide) _ (by decide +kernel) (by decide)
              obtain ⟨_, _, _, f8, _⟩ := hd 8 (by decide)
              replace f8 : x 8 = .bool true := f8
              rw [f8] at e131
              clear hA hd
              refine wpOp_step rfl (fun K' hK' => ?_)
              go_simp
              exact hK' _ _ (hK _ _ ⟨0, 0, 0, rfl, al0⟩ (Below.refl _ _) no_al)
            · generalize hA : putsA _ _ x (0 :: 1 :: 2 :: 3 :: 4 :: 5 :: 6 :: 7 :: 8 :: 9 :: 10 :: 11 :: 12 :: 13 :: 14 :: 15 :: 16 :: 17 :: 18 :: 19 :: 20 :: 21 :: 22 :: 23 :: 24 :: 25 :: 26 :: 27 :: 28 :: 29 :: 30 :: []) = A at *
              have e10 : A.tmps[10]? = some (.pointer (some ⟨g1, 0, none⟩)) := by rw [← hA]; exact putsA_at 10 _ (by decide +kernel)
              have e132 : A.tmps[132]? = some (x 9) := by rw [← hA]; exact putsA_in (i := 9) 132 (by rfl) (by show (132 : Nat) < 153; decide) _ (by decide +kernel) (by decide)
              obtain ⟨_, _, _, f9, _⟩ := hd 9 (by decide)
              replace f9 : x 9 = .bool true := f9
              rw [f9] at e132
              clear hA hd
              obtain ⟨jc0, jc1, jc2, _, _, _⟩ := cell3 j1
              refine wpOp_step rfl (fun K' hK' => ?_)
              go_simp
              exact hK' _ _ (hK _ _ ⟨0, 0, 0, rfl, al0⟩ (Below.refl _ _) no_al)
            · generalize hA : putsA _ _ x (0 :: 1 :: 2 :: 3 :: 4 :: 5 :: 6 :: 7 :: 8 :: 9 :: 10 :: 11 :: 12 :: 13 :: 14 :: 15 :: 16 :: 17 :: 18 :: 19 :: 20 :: 21 :: 22 :: 23 :: 24 :: 25 :: 26 :: 27 :: 28 :: 29 :: 30 :: []) = A at *
              have e15 : A.tmps[15]? = some (.func (.func 28) #[] #[]) := by rw [← hA]; exact putsA_at 15 _ (by decide +kernel)
              have e132 : A.tmps[132]? = some (x 9) := by rw [← hA]; exact putsA_in (i := 9) 132 (by rfl) (by show (132 : Nat) < 153; decide) _ (by decide +kernel) (by decide)
              obtain ⟨_, _, _, f9, _⟩ := hd 9 (by decide)
              replace f9 : x 9 = .bool true := f9
              rw [f9] at e132
              clear hA hd
              refine wpOp_step rfl (fun K' hK' => ?_)
              go_simp
              exact hK' _ _ (hK _ _ ⟨0, 0, 0, rfl, al0⟩ (Below.refl _ _) no_al)
            · generalize hA : putsA _ _ x (0 :: 1 :: 2 :: 3 :: 4 :: 5 :: 6 :: 7 :: 8 :: 9 :: 10 :: 11 :: 12 :: 13 :: 14 :: 15 :: 16 :: 17 :: 18 :: 19 :: 20 :: 21 :: 22 :: 23 :: 24 :: 25 :: 26 :: 27 :: 28 :: 29 :: 30 :: []) = A at *
              have e9 : A.tmps[9]? = some (.pointer (some ⟨g0, 0, none⟩)) := by rw [← hA]; exact putsA_at 9 _ (by decide +kernel)
              have e132 : A.tmps[132]? = some (x 9) := by rw [← hA]; exact putsA_in (i := 9) 132 (by rfl) (by show (132 : Nat) < 153; decide) _ (by decide +kernel) (by decide)
              obtain ⟨_, _, _, f9, _⟩ := hd 9 (by decide)
              replace f9 : x 9 = .bool true := f9
              rw [f9] at e132
              clear hA hd
              obtain ⟨jc0, jc1, jc2, _, _, _⟩ := cell3 j0
              refine wpOp_step rfl (fun K' hK' => ?_)
              go_simp
              exact hK' _ _ (hK _ _ ⟨0, 0, 0, rfl, al0⟩ (Below.refl _ _) no_al)
            · generalize hA : putsA _ _ x (0 :: 1 :: 2 :: 3 :: 4 :: 5 :: 6 :: 7 :: 8 :: 9 :: 10 :: 11 :: 12 :: 13 :: 14 :: 15 :: 16 :: 17 :: 18 :: 19 :: 20 :: 21 :: 22 :: 23 :: 24 :: 25 :: 26 :: 27 :: 28 :: 29 :: 30 :: []) = A at *
              have e132 : A.tmps[132]? = some (x 9) := by rw [← hA]; exact putsA_in (i := 9) 132 (by rfl) (by show (132 : Nat) < 153; decide) _ (by decide +kernel) (by decide)
              obtain ⟨_, _, _, f9, _⟩ := hd 9 (by decide)
              replace f9 : x 9 = .bool true := f9
              rw [f9] at e132
              have e134 : A.tmps[134]? = some (x 11) := by rw [← hA]; exact putsA_in (i := 11) 134 (by rfl) (by show (134 : Nat) < 153; decide) _ (by decide +kernel) (by decide)
              obtain ⟨_, _, _, f11, _⟩ := hd 11 (by decide)
              replace f11 : x 11 = .func (.func 28) #[] #[] := f11
              rw [f11] at e134
              have e135 : A.tmps[135]? = some (x 12) := by rw [← hA]; exact putsA_in (i := 12) 135 (by rfl) (by show (135 : Nat) < 153; decide) _ (by decide +kernel) (by decide)
              obtain ⟨_, _, _, f12, _⟩ := hd 12 (by decide)
              replace f12 : x 12 = .agg #[.int .u8 1, .int .i64 n0, .string ⟨#[]⟩] := f12
              rw [f12] at e135
              clear hA hd
              refine wpOp_step rfl (fun K' hK' => ?_)
              go_simp
              refine (HNF0 W).mono ?_
              rintro e w6 ⟨rfl, hb6⟩
              exact hK' _ _ (hK _ _ ⟨0, 0, 0, rfl, al0⟩ hb6 no_al)
            · generalize hA : putsA _ _ x (0 :: 1 :: 2 :: 3 :: 4 :: 5 :: 6 :: 7 :: 8 :: 9 :: 10 :: 11 :: 12 :: 13 :: 14 :: 15 :: 16 :: 17 :: 18 :: 19 :: 20 :: 21 :: 22 :: 23 :: 24 :: 25 :: 26 :: 27 :: 28 :: 29 :: 30 :: []) = A at *
              have e132 : A.tmps[132]? = some (x 9) := by rw [← hA]; exact putsA_in (i := 9) 132 (by rfl) (by show (132 : Nat) < 153; decide) _ (by decide +kernel) (by decide)
              obtain ⟨_, _, _, f9, _⟩ := hd 9 (by decide)
              replace f9 : x 9 = .bool true := f9
              rw [f9] at e132
              have e133 : A.tmps[133]? = some (x 10) := by rw [← hA]; exact putsA_in (i := 10) 133 (by rfl) (by show (133 : Nat) < 153; decide) _ (by decide +kernel) (by decide)
              obtain ⟨_, _, _, f10, _⟩ := hd 10 (by decide)
              replace f10 : x 10 = .agg #[.int .u8 1, .int .i64 m0, .string ⟨#[]⟩] := f10
              rw [f10] at e133
              have e136 : A.tmps[136]? = some (x 13) := by rw [← hA]; exact putsA_in (i := 13) 136 (by rfl) (by show (136 : Nat) < 153; decide) _ (by decide +kernel) (by decide)
              obtain ⟨_, _, _, f13, _⟩ := hd 13 (by decide)
              replace f13 : x 13 = .agg #[.int .u8 1, .int .i64 m0, .string ⟨#[]⟩] := f13
              rw [f13] at e136
              clear hA hd
              refine wpOp_step rfl (fun K' hK' => ?_)
              go_simp
              exact hK' _ _ (hK _ _ ⟨0, 0, 0, rfl, al0⟩ (Below.refl _ _) no_al)
            · generalize hA : putsA _ _ x (0 :: 1 :: 2 :: 3 :: 4 :: 5 :: 6 :: 7 :: 8 :: 9 :: 10 :: 11 :: 12 :: 13 :: 14 :: 15 :: 16 :: 17 :: 18 :: 19 :: 20 :: 21 :: 22 :: 23 :: 24 :: 25 :: 26 :: 27 :: 28 :: 29 :: 30 :: []) = A at *
              have e132 : A.tmps[132]? = some (x 9) := by rw [← hA]; exact putsA_in (i := 9) 132 (by rfl) (by show (132 : Nat) < 153; decide) _ (by decide +kernel) (by decide)
              obtain ⟨_, _, _, f9, _⟩ := hd 9 (by decide)
              replace f9 : x 9 = .bool true := f9
              rw [f9] at e132
              have e137 : A.tmps[137]? = some (x 14) := by rw [← hA]; exact putsA_in (i := 14) 137 (by rfl) (by show (137 : Nat) < 153; decide) _ (by decide +kernel) (by decide)
              obtain ⟨_, _, _, f14, _⟩ := hd 14 (by decide)
              replace f14 : x 14 = .bool true := f14
              rw [f14] at e137
              clear hA hd
              refine wpOp_step rfl (fun K' hK' => ?_)
              go_simp
              exact hK' _ _ (hK _ _ ⟨0, 0, 0, rfl, al0⟩ (Below.refl _ _) no_al)
            · generalize hA : putsA _ _ x (0 :: 1 :: 2 :: 3 :: 4 :: 5 :: 6 :: 7 :: 8 :: 9 :: 10 :: 11 :: 12 :: 13 :: 14 :: 15 :: 16 :: 17 :: 18 :: 19 :: 20 :: 21 :: 22 :: 23 :: 24 :: 25 :: 26 :: 27 :: 28 :: 29 :: 30 :: []) = A at *
              have e138 : A.tmps[138]? = some (x 15) := by rw [← hA]; exact putsA_in (i := 15) 138 (by rfl) (by show (138 : Nat) < 153; decide) _ (by decide +kernel) (by decide)
              obtain ⟨_, _, _, f15, _⟩ := hd 15 (by decide)
              replace f15 : x 15 = .bool true := f15
              rw [f15] at e138
              clear hA hd
              refine wpOp_step rfl (fun K' hK' => ?_)
              go_simp
              exact hK' _ _ (hK _ _ ⟨0, 0, 0, rfl, al0⟩ (Below.refl _ _) no_al)
            · generalize hA : putsA _ _ x (0 :: 1 :: 2 :: 3 :: 4 :: 5 :: 6 :: 7 :: 8 :: 9 :: 10 :: 11 :: 12 :: 13 :: 14 :: 15 :: 16 :: 17 :: 18 :: 19 :: 20 :: 21 :: 22 :: 23 :: 24 :: 25 :: 26 :: 27 :: 28 :: 29 :: 30 :: []) = A at *
              have e14 : A.tmps[14]? = some (.pointer (some ⟨g5, 0, none⟩)) := by rw [← hA]; exact putsA_at 14 _ (by decide +kernel)
              have e139 : A.tmps[139]? = some (x 16) := by rw [← hA]; exact putsA_in (i := 16) 139 (by rfl) (by show (139 : Nat) < 153; decide) _ (by decide +kernel) (by decide)
              obtain ⟨_, _, _, f16, _⟩ := hd 16 (by decide)
              replace f16 : x 16 = .bool true := f16
              rw [f16] at e139
              clear hA hd
              obtain ⟨jc0, jc1, jc2, _, _, _⟩ := cell3 j5
              refine wpOp_step rfl (fun K' hK' => ?_)
              go_simp
              exact hK' _ _ (hK _ _ ⟨0, 0, 0, rfl, al0⟩ (Below.refl _ _) no_al)
            · generalize hA : putsA _ _ x (0 :: 1 :: 2 :: 3 :: 4 :: 5 :: 6 :: 7 :: 8 :: 9 :: 10 :: 11 :: 12 :: 13 :: 14 :: 15 :: 16 :: 17 :: 18 :: 19 :: 20 :: 21 :: 22 :: 23 :: 24 :: 25 :: 26 :: 27 :: 28 :: 29 :: 30 :: []) = A at *
              have e15 : A.tmps[15]? = some (.func (.func 28) #[] #[]) := by rw [← hA]; exact putsA_at 15 _ (by decide +kernel)
              have e139 : A.tmps[139]? = some (x 16) := by rw [← hA]; exact putsA_in (i := 16) 139 (by rfl) (by show (139 : Nat) < 153; decide) _ (by decide +kernel) (by decide)
              obtain ⟨_, _, _, f16, _⟩ := hd 16 (by decide)
              replace f16 : x 16 = .bool true := f16
              rw [f16] at e139
              clear hA hd
              refine wpOp_step rfl (fun K' hK' => ?_)
              go_simp
              exact hK' _ _ (hK _ _ ⟨0, 0, 0, rfl, al0⟩ (Below.refl _ _) no_al)
            · generalize hA : putsA _ _ x (0 :: 1 :: 2 :: 3 :: 4 :: 5 :: 6 :: 7 :: 8 :: 9 :: 10 :: 11 :: 12 :: 13 :: 14 :: 15 :: 16 :: 17 :: 18 :: 19 :: 20 :: 21 :: 22 :: 23 :: 24 :: 25 :: 26 :: 27 :: 28 :: 29 :: 30 :: []) = A at *
              have e11 : A.tmps[11]? = some (.pointer (some ⟨g2, 0, none⟩)) := by rw [← hA]; exact putsA_at 11 _ (by decide +kernel)
              have e139 : A.tmps[139]? = some (x 16) := by rw [← hA]; exact putsA_in (i := 16) 139 (by rfl) (by show (139 : Nat) < 153; decide) _ (by decide +kernel) (by decide)
              obtain ⟨_, _, _, f16, _⟩ := hd 16 (by decide)
              replace f16 : x 16 = .bool true := f16
              rw [f16] at e139
              clear hA hd
              obtain ⟨jc0, jc1, jc2, _, _, _⟩ := cell3 j2
              refine wpOp_step rfl (fun K' hK' => ?_)
              go_simp
              exact hK' _ _ (hK _ _ ⟨0, 0, 0, rfl, al0⟩ (Below.refl _ _) no_al)
            · generalize hA : putsA _ _ x (0 :: 1 :: 2 :: 3 :: 4 :: 5 :: 6 :: 7 :: 8 :: 9 :: 10 :: 11 :: 12 :: 13 :: 14 :: 15 :: 16 :: 17 :: 18 :: 19 :: 20 :: 21 :: 22 :: 23 :: 24 :: 25 :: 26 :: 27 :: 28 :: 29 :: 30 :: []) = A at *
              have e139 : A.tmps[139]? = some (x 16) := by rw [← hA]; exact putsA_in (i := 16) 139 (by rfl) (by show (139 : Nat) < 153; decide) _ (by decide +kernel) (by decide)
              obtain ⟨_, _, _, f16, _⟩ := hd 16 (by decide)
              replace f16 : x 16 = .bool true := f16
              rw [f16] at e139
              have e141 : A.tmps[141]? = some (x 18) := by rw [← hA]; exact putsA_in (i := 18) 141 (by rfl) (by show (141 : Nat) < 153; decide) _ (by decide +kernel) (by decide)
              obtain ⟨_, _, _, f18, _⟩ := hd 18 (by decide)
              replace f18 : x 18 = .func (.func 28) #[] #[] := f18
              rw [f18] at e141
              have e142 : A.tmps[142]? = some (x 19) := by rw [← hA]; exact putsA_in (i := 19) 142 (by rfl) (by show (142 : Nat) < 153; decide) _ (by decide +kernel) (by decide)
              obtain ⟨_, _, _, f19, _⟩ := hd 19 (by decide)
              replace f19 : x 19 = .agg #[.int .u8 1, .int .i64 n2, .string ⟨#[]⟩] := f19
              rw [f19] at e142
              clear hA hd
              refine wpOp_step rfl (fun K' hK' => ?_)
              go_simp
              refine (HNF2 W).mono ?_
              rintro e w6 ⟨rfl, hb6⟩
              exact hK' _ _ (hK _ _ ⟨0, 0, 0, rfl, al0⟩ hb6 no_al)
            · generalize hA : putsA _ _ x (0 :: 1 :: 2 :: 3 :: 4 :: 5 :: 6 :: 7 :: 8 :: 9 :: 10 :: 11 :: 12 :: 13 :: 14 :: 15 :: 16 :: 17 :: 18 :: 19 :: 20 :: 21 :: 22 :: 23 :: 24 :: 25 :: 26 :: 27 :: 28 :: 29 :: 30 :: []) = A at *
              have e139 : A.tmps[139]? = some (x 16) := by rw [← hA]; exact putsA_in (i := 16) 139 (by rfl) (by show (139 : Nat) < 153; decide) _ (by decide +kernel) (by decide)
              obtain ⟨_, _, _, f16, _⟩ := hd 16 (by decide)
              replace f16 : x 16 = .bool true := f16
              rw [f16] at e139
              have e140 : A.tmps[140]? = some (x 17) := by rw [← hA]; exact putsA_in (i := 17) 140 (by rfl) (by show (140 : Nat) < 153; decide) _ (by decide +kernel) (by decide)
              obtain ⟨_, _, _, f17, _⟩ := hd 17 (by decide)
              replace f17 : x 17 = .agg #[.int .u8 1, .int .i64 m2, .string ⟨#[]⟩] := f17
              rw [f17] at e140
              have e143 : A.tmps[143]? = some (x 20) := by rw [← hA]; exact putsA_in (i := 20) 143 (by rfl) (by show (143 : Nat) < 153; decide) _ (by decide +kernel) (by decide)
              obtain ⟨_, _, _, f20, _⟩ := hd 20 (by decide)
              replace f20 : x 20 = .agg #[.int .u8 1, .int .i64 m2, .string ⟨#[]⟩] := f20
              rw [f20] at e143
              clear hA hd
              refine wpOp_step rfl (fun K' hK' => ?_)
              go_simp
              exact hK' _ _ (hK _ _ ⟨0, 0, 0, rfl, al0⟩ (Below.refl _ _) no_al)
            · generalize hA : putsA _ _ x (0 :: 1 :: 2 :: 3 :: 4 :: 5 :: 6 :: 7 :: 8 :: 9 :: 10 :: 11 :: 12 :: 13 :: 14 :: 15 :: 16 :: 17 :: 18 :: 19 :: 20 :: 21 :: 22 :: 23 :: 24 :: 25 :: 26 :: 27 :: 28 :: 29 :: 30 :: []) = A at *
              have e139 : A.tmps[139]? = some (x 16) := by rw [← hA]; exact putsA_in (i := 16) 139 (by rfl) (by show (139 : Nat) < 153; decide) _ (by decide +kernel) (by decide)
              obtain ⟨_, _, _, f16, _⟩ := hd 16 (by decide)
              replace f16 : x 16 = .bool true := f16
              rw [f16] at e139
              have e144 : A.tmps[144]? = some (x 21) := by rw [← hA]; exact putsA_in (i := 21) 144 (by rfl) (by show (144 : Nat) < 153; decide) _ (by decide +kernel) (by decide)
              obtain ⟨_, _, _, f21, _⟩ := hd 21 (by decide)
              replace f21 : x 21 = .bool true := f21
              rw [f21] at e144
              clear hA hd
              refine wpOp_step rfl (fun K' hK' => ?_)
              go_simp
              exact hK' _ _ (hK _ _ ⟨0, 0, 0, rfl, al0⟩ (Below.refl _ _) no_al)
            · generalize hA : putsA _ _ x (0 :: 1 :: 2 :: 3 :: 4 :: 5 :: 6 :: 7 :: 8 :: 9 :: 10 :: 11 :: 12 :: 13 :: 14 :: 15 :: 16 :: 17 :: 18 :: 19 :: 20 :: 21 :: 22 :: 23 :: 24 :: 25 :: 26 :: 27 :: 28 :: 29 :: 30 :: []) = A at *
              have e145 : A.tmps[145]? = some (x 22) := by rw [← hA]; exact putsA_in (i := 22) 145 (by rfl) (by show (145 : Nat) < 153; decide) _ (by decide +kernel) (by decide)
              obtain ⟨_, _, _, f22, _⟩ := hd 22 (by decide)
              replace f22 : x 22 = .bool true := f22
              rw [f22] at e145
              clear hA hd
              refine wpOp_step rfl (fun K' hK' => ?_)
              go_simp
              exact hK' _ _ (hK _ _ ⟨0, 0, 0, rfl, al0⟩ (Below.refl _ _) no_al)
            · generalize hA : putsA _ _ x (0 :: 1 :: 2 :: 3 :: 4 :: 5 :: 6 :: 7 :: 8 :: 9 :: 10 :: 11 :: 12 :: 13 :: 14 :: 15 :: 16 :: 17 :: 18 :: 19 :: 20 :: 21 :: 22 :: 23 :: 24 :: 25 :: 26 :: 27 :: 28 :: 29 :: 30 :: []) = A at *
              have e12 : A.tmps[12]? = some (.pointer (some ⟨g3, 0, none⟩)) := by rw [← hA]; exact putsA_at 12 _ (by decide +kernel)
              have e146 : A.tmps[146]? = some (x 23) := by rw [← hA]; exact putsA_in (i := 23) 146 (by rfl) (by show (146 : Nat) < 153; decide) _ (by decide +kernel) (by decide)
              obtain ⟨_, _, _, f23, _⟩ := hd 23 (by decide)
              replace f23 : x 23 = .bool true := f23
              rw [f23] at e146
              clear hA hd
              obtain ⟨jc0, jc1, jc2, _, _, _⟩ := cell3 j3
              refine wpOp_step rfl (fun K' hK' => ?_)
              go_simp
              exact hK' _ _ (hK _ _ ⟨0, 0, 0, rfl, al0⟩ (Below.refl _ _) no_al)
            · generalize hA : putsA _ _ x (0 :: 1 :: 2 :: 3 :: 4 :: 5 :: 6 :: 7 :: 8 :: 9 :: 10 :: 11 :: 12 :: 13 :: 14 :: 15 :: 16 :: 17 :: 18 :: 19 :: 20 :: 21 :: 22 :: 23 :: 24 :: 25 :: 26 :: 27 :: 28 :: 29 :: 30 :: []) = A at *
              have e15 : A.tmps[15]? = some (.func (.func 28) #[] #[]) := by rw [← hA]; exact putsA_at 15 _ (by decide +kernel)
              have e146 : A.tmps[146]? = some (x 23) := by rw [← hA]; exact putsA_in (i := 23) 146 (by rfl) (by show (146 : Nat) < 153; decide) _ (by decide +kernel) (by decide)
              obtain ⟨_, _, _, f23, _⟩ := hd 23 (by decide)
              replace f23 : x 23 = .bool true := f23
              rw [f23] at e146
              clear hA hd
              refine wpOp_step rfl (fun K' hK' => ?_)
              go_simp
              exact hK' _ _ (hK _ _ ⟨0, 0, 0, rfl, al0⟩ (Below.refl _ _) no_al)
            · generalize hA : putsA _ _ x (0 :: 1 :: 2 :: 3 :: 4 :: 5 :: 6 :: 7 :: 8 :: 9 :: 10 :: 11 :: 12 :: 13 :: 14 :: 15 :: 16 :: 17 :: 18 :: 19 :: 20 :: 21 :: 22 :: 23 :: 24 :: 25 :: 26 :: 27 :: 28 :: 29 :: 30 :: []) = A at *
              have e13 : A.tmps[13]? = some (.pointer (some ⟨g4, 0, none⟩)) := by rw [← hA]; exact putsA_at 13 _ (by decide +kernel)
              have e146 : A.tmps[146]? = some (x 23) := by rw [← hA]; exact putsA_in (i := 23) 146 (by rfl) (by show (146 : Nat) < 153; decide) _ (by decide +kernel) (by decide)
              obtain ⟨_, _, _, f23, _⟩ := hd 23 (by decide)
              replace f23 : x 23 = .bool true := f23
              rw [f23] at e146
              clear hA hd
              obtain ⟨jc0, jc1, jc2, _, _, _⟩ := cell3 j4
              refine wpOp_step rfl (fun K' hK' => ?_)
              go_simp
              exact hK' _ _ (hK _ _ ⟨0, 0, 0, rfl, al0⟩ (Below.refl _ _) no_al)
            · generalize hA : putsA _ _ x (0 :: 1 :: 2 :: 3 :: 4 :: 5 :: 6 :: 7 :: 8 :: 9 :: 10 :: 11 :: 12 :: 13 :: 14 :: 15 :: 16 :: 17 :: 18 :: 19 :: 20 :: 21 :: 22 :: 23 :: 24 :: 25 :: 26 :: 27 :: 28 :: 29 :: 30 :: []) = A at *
              have e146 : A.tmps[146]? = some (x 23) := by rw [← hA]; exact putsA_in (i := 23) 146 (by rfl) (by show (146 : Nat) < 153; decide) _ (by decide +kernel) (by decide)
              obtain ⟨_, _, _, f23, _⟩ := hd 23 (by decide)
              replace f23 : x 23 = .bool true := f23
              rw [f23] at e146
              have e148 : A.tmps[148]? = some (x 25) := by rw [← hA]; exact putsA_in (i := 25) 148 (by rfl) (by show (148 : Nat) < 153; decide) _ (by decide +kernel) (by decide)
              obtain ⟨_, _, _, f25, _⟩ := hd 25 (by decide)
              replace f25 : x 25 = .func (.func 28) #[] #[] := f25
              rw [f25] at e148
              have e149 : A.tmps[149]? = some (x 26) := by rw [← hA]; exact putsA_in (i := 26) 149 (by rfl) (by show (149 : Nat) < 153; decide) _ (by decide +kernel) (by decide)
              obtain ⟨_, _, _, f26, _⟩ := hd 26 (by decide)
              replace f26 : x 26 = .agg #[.int .u8 1, .int .i64 n4, .string ⟨#[]⟩] := f26
              rw [f26] at e149
              clear hA hd
              refine wpOp_step rfl (fun K' hK' => ?_)
              go_simp
              refine (HNF4 W).mono ?_
              rintro e w6 ⟨rfl, hb6⟩
              exact hK' _ _ (hK _ _ ⟨0, 0, 0, rfl, al0⟩ hb6 no_al)
            · generalize hA : putsA _ _ x (0 :: 1 :: 2 :: 3 :: 4 :: 5 :: 6 :: 7 :: 8 :: 9 :: 10 :: 11 :: 12 :: 13 :: 14 :: 15 :: 16 :: 17 :: 18 :: 19 :: 20 :: 21 :: 22 :: 23 :: 24 :: 25 :: 26 :: 27 :: 28 :: 29 :: 30 :: []) = A at *
              have e146 : A.tmps[146]? = some (x 23) := by rw [← hA]; exact putsA_in (i := 23) 146 (by rfl) (by show (146 : Nat) < 153; decide) _ (by decide +kernel) (by decide)
              obtain ⟨_, _, _, f23, _⟩ := hd 23 (by decide)
              replace f23 : x 23 = .bool true := f23
              rw [f23] at e146
              have e147 : A.tmps[147]? = some (x 24) := by rw [← hA]; exact putsA_in (i := 24) 147 (by rfl) (by show (147 : Nat) < 153; decide) _ (by decide +kernel) (by decide)
              obtain ⟨_, _, _, f24, _⟩ := hd 24 (by decide)
              replace f24 : x 24 = .agg #[.int .u8 1, .int .i64 m4, .string ⟨#[]⟩] := f24
              rw [f24] at e147
              have e150 : A.tmps[150]? = some (x 27) := by rw [← hA]; exact putsA_in (i := 27) 150 (by rfl) (by show (150 : Nat) < 153; decide) _ (by decide +kernel) (by decide)
              obtain ⟨_, _, _, f27, _⟩ := hd 27 (by decide)
              replace f27 : x 27 = .agg #[.int .u8 1, .int .i64 m4, .string ⟨#[]⟩] := f27
              rw [f27] at e150
              clear hA hd
              refine wpOp_step rfl (fun K' hK' => ?_)
              go_simp
              exact hK' _ _ (hK _ _ ⟨0, 0, 0, rfl, al0⟩ (Below.refl _ _) no_al)
            · generalize hA : putsA _ _ x (0 :: 1 :: 2 :: 3 :: 4 :: 5 :: 6 :: 7 :: 8 :: 9 :: 10 :: 11 :: 12 :: 13 :: 14 :: 15 :: 16 :: 17 :: 18 :: 19 :: 20 :: 21 :: 22 :: 23 :: 24 :: 25 :: 26 :: 27 :: 28 :: 29 :: 30 :: []) = A at *
              have e146 : A.tmps[146]? = some (x 23) := by rw [← hA]; exact putsA_in (i := 23) 146 (by rfl) (by show (146 : Nat) < 153; decide) _ (by decide +kernel) (by decide)
              obtain ⟨_, _, _, f23, _⟩ := hd 23 (by decide)
              replace f23 : x 23 = .bool true := f23
              rw [f23] at e146
              have e151 : A.tmps[151]? = some (x 28) := by rw [← hA]; exact putsA_in (i := 28) 151 (by rfl) (by show (151 : Nat) < 153; decide) _ (by decide +kernel) (by decide)
              obtain ⟨_, _, _, f28, _⟩ := hd 28 (by decide)
              replace f28 : x 28 = .bool true := f28
              rw [f28] at e151
              clear hA hd
              refine wpOp_step rfl (fun K' hK' => ?_)
              go_simp
              exact hK' _ _ (hK _ _ ⟨0, 0, 0, rfl, al0⟩ (Below.refl _ _) no_al)
            · generalize hA : putsA _ _ x (0 :: 1 :: 2 :: 3 :: 4 :: 5 :: 6 :: 7 :: 8 :: 9 :: 10 :: 11 :: 12 :: 13 :: 14 :: 15 :: 16 :: 17 :: 18 :: 19 :: 20 :: 21 :: 22 :: 23 :: 24 :: 25 :: 26 :: 27 :: 28 :: 29 :: 30 :: []) = A at *
              have e152 : A.tmps[152]? = some (x 29) := by rw [← hA]; exact putsA_in (i := 29) 152 (by rfl) (by show (152 : Nat) < 153; decide) _ (by decide +kernel) (by decide)
              obtain ⟨_, _, _, f29, _⟩ := hd 29 (by decide)
              replace f29 : x 29 = .bool true := f29
              rw [f29] at e152
              clear hA hd
              refine wpOp_step rfl (fun K' hK' => ?_)
              go_simp
              exact hK' _ _ (hK _ _ ⟨0, 0, 0, rfl, al0⟩ (Below.refl _ _) no_al)
          case hend17 =>
            intro x W hf hg hb
            have HBX := Lib.hid (HBW.out W (show Below W7.drew.heap.size W7.drew W from hb)).2
            have h30 : x 30 = .bool true := by
              obtain ⟨_, _, _, h, _⟩ := hf 30 (by decide)
              exact h
            rw [putsA_lit _ _ (0 :: 1 :: 2 :: 3 :: 4 :: 5 :: 6 :: 7 :: 8 :: 9 :: 10 :: 11 :: 12 :: 13 :: 14 :: 15 :: 16 :: 17 :: 18 :: 19 :: 20 :: 21 :: 22 :: 23 :: 24 :: 25 :: 26 :: 27 :: 28 :: 29 :: 30 :: []) ((4, 30) :: (123, 0) :: (124, 1) :: (125, 2) :: (126, 3) :: (127, 4) :: (128, 5) :: (129, 6) :: (130, 7) :: (131, 8) :: (132, 9) :: (133, 10) :: (134, 11) :: (135, 12) :: (136, 13) :: (137, 14) :: (138, 15) :: (139, 16) :: (140, 17) :: (141, 18) :: (142, 19) :: (143, 20) :: (144, 21) :: (145, 22) :: (146, 23) :: (147, 24) :: (148, 25) :: (149, 26) :: (150, 27) :: (151, 28) :: (152, 29) :: []) (by kernel_rfl)]
            simp only [setAll, ↓reduceIte, Nat.reduceAdd, Nat.reduceEqDiff]
            rw [h30]
            clear hf h30 hg hb HBW
            refine wpAny_done (by kernel_rfl) ?_ _
            refine NoPanic.normal ?_
            go_wp2
            go_ret
            exact ⟨rfl, HBX.out⟩
end Go.Proofs.Ytkgpcodccpckeaa
