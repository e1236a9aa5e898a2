/- Words for blocks and what lies below. Conditions: those of each lemma. -/
import Derived.Test.YthipaabjmlgjmaaBlk
import Derived.Test.YthipaabjmlgjmaaMem
import Derived.WalkKit
import Derived.WalkSpells
import Derived.WalkLawsBesides
import Derived.Lib.Hide
namespace Go.Proofs.Ythipaabjmlgjmaa
open Go.RowKit
theorem blk_new (w : World) (g : Nat) (t : TypeId) (cs : Array Value) (hg : w.heap.size = g) : Blk (w.alloc (.cells cs t)) g t cs := by
  subst hg; exact Blk.new w t cs
theorem bj {a b c : World} (h : Below a.heap.size a b) (k : Below b.heap.size b c) : Below a.heap.size a c := h.trans (k.mono h.size)
theorem bja {a b c : World} (o : Obj) (h : Below a.heap.size a b) (k : Below (b.alloc o).heap.size (b.alloc o) c) : Below a.heap.size a c := bj (h.alloc h.size o) k
theorem bjaa {a b c : World} (o q : Obj) (h : Below a.heap.size a b) (k : Below ((b.alloc o).alloc q).heap.size ((b.alloc o).alloc q) c) : Below a.heap.size a c :=
  bj ((h.alloc h.size o).alloc (h.alloc h.size o).size q) k
theorem blk_at {W w' : World} {cs : Array Value} {t : TypeId} (hb : Below (W.alloc (.cells cs t)).heap.size (W.alloc (.cells cs t)) w') : Blk w' W.heap.size t cs := (Blk.new W t cs).below hb (by simp)
theorem blk_at' {W w' : World} {cs : Array Value} {t : TypeId} (hb : Below (W.alloc (.cells cs t)).drew.heap.size (W.alloc (.cells cs t)).drew w') : Blk w' W.heap.size t cs := (Blk.new W t cs).drew.below hb (by simp)
theorem blk_step {W w' : World} {g : Nat} {cs : Array Value} {t : TypeId} (h : Blk W g t cs) (hb : Below W.heap.size W w') : Blk w' g t cs := h.below hb h.lt
theorem blk2 {W : World} {g : Nat} {t : TypeId} {a b x y : Value} (h : Blk W g t #[a, b]) : Blk ((W.setCell ⟨g, 0, none⟩ x).setCell ⟨g, 1, none⟩ y) g t #[x, y] := (h.set_ 0 x).set_ 1 y
theorem below_drewN {B : Nat} {a w : World} (h : Below B a w) (n : Nat) : Below B a (w.drewN n) := ⟨h.os, h.tape, h.output, h.size, h.block⟩
theorem pair_at {W : World} {g : Nat} {t : TypeId} {a b : Value} (h : Blk W g t #[a, b]) : W.cell? ⟨g, 0, none⟩ = some a ∧ W.cell? ⟨g, 1, none⟩ = some b := ⟨h.cell 0, h.cell 1⟩
theorem trip_at {W : World} {g : Nat} {t : TypeId} {a b c : Value} (h : Blk W g t #[a, b, c]) : W.cell? ⟨g, 0, none⟩ = some a ∧ W.cell? ⟨g, 1, none⟩ = some b ∧ W.cell? ⟨g, 2, none⟩ = some c := ⟨h.cell 0, h.cell 1, h.cell 2⟩
theorem rstr {a b : ByteArray} (h : a = b) : Ending.returned (.string a) = .returned (.string b) := by rw [h]
theorem ne_pair {x y x' y' : Int} (h : ¬ (x = x' ∧ y = y')) {P : Prop} (h1 : (x == x') = false → P) (h2 : (x == x') = true → (y == y') = false → P) : P := by
  by_cases e : x = x'
  · exact h2 (by simp [e]) (by simp; exact fun e2 => h ⟨e, e2⟩)
  · exact h1 (by simp [e])
theorem int_zero {n : Nat} (h : n ≠ 0) : ((n : Int) == 0) = false := by rw [beq_eq_false_iff_ne]; omega
end Go.Proofs.Ythipaabjmlgjmaa
