/- ship.Take, its numbers. Conditions: a text is no longer than a machine has addresses. -/
import Derived.Test.YtkocdaillkhkfaaShipTake2
import Derived.Laws.EntriesVeiled
import Derived.Deep.RegionHeld3
namespace Go.Proofs.Ytkocdaillkhkfaa
open Go.RowKit
set_option linter.unusedVariables false
abbrev nextV (g6 : Nat) : Value := .func (.func 27) #[] #[.pointer (some ⟨g6, 0, none⟩)]
def Tm (w : World) (g6 g7 g8 : Nat) (x : ByteArray) (b : Bool) (W : World) : Prop :=
  Blk W g6 9 #[.string x] ∧ Blk W g7 4 #[.bool b] ∧ Blk W g8 63 #[nextV g6] ∧ Tz w W ∧ w.heap.size < g6 ∧ g6 < g7 ∧ g7 < g8
/-- all blocks but two stand -/
def Kp (g6 g7 : Nat) (W W' : World) : Prop := W'.heap.size = W.heap.size ∧ ∀ g t cs, g ≠ g6 → g ≠ g7 → Blk W g t cs → Blk W' g t cs
theorem tm_step {w W W' : World} {g6 g7 g8 : Nat} {x : ByteArray} {b : Bool} (hb : Below W.heap.size W W') (h : Tm w g6 g7 g8 x b W) : Tm w g6 g7 g8 x b W' := ⟨blk_step h.1 hb, blk_step h.2.1 hb, blk_step h.2.2.1 hb, tz_step hb h.2.2.2.1, h.2.2.2.2⟩
theorem tm_alloc {w W : World} {g6 g7 g8 : Nat} {x : ByteArray} {b : Bool} (o : Obj) (h : Tm w g6 g7 g8 x b W) : Tm w g6 g7 g8 x b (W.alloc o) := tm_step ((Below.refl _ _).alloc (Nat.le_refl _) _) h
theorem tm_drew {w W : World} {g6 g7 g8 : Nat} {x : ByteArray} {b : Bool} (h : Tm w g6 g7 g8 x b W) : Tm w g6 g7 g8 x b W.drew := tm_step (Below.refl _ _).drew h
theorem tm_set6 {w W : World} {g6 g7 g8 : Nat} {x : ByteArray} {b : Bool} (y : ByteArray) (h : Tm w g6 g7 g8 x b W) : Tm w g6 g7 g8 y b (W.setCell ⟨g6, 0, none⟩ (.string y)) := by
  obtain ⟨h6, h7, h8, hz, l1, l2, l3⟩ := h
  exact ⟨h6.set_ 0 _, h7.far (by simp; omega) _, h8.far (by simp; omega) _, ⟨hz.1.far (by simp; omega) _, hz.2.setCell (by simp; omega) _⟩, l1, l2, l3⟩
theorem tm_set7 {w W : World} {g6 g7 g8 : Nat} {x : ByteArray} {b : Bool} (c : Bool) (h : Tm w g6 g7 g8 x b W) : Tm w g6 g7 g8 x c (W.setCell ⟨g7, 0, none⟩ (.bool c)) := by
  obtain ⟨h6, h7, h8, hz, l1, l2, l3⟩ := h
  exact ⟨h6.far (by simp; omega) _, h7.set_ 0 _, h8.far (by simp; omega) _, ⟨hz.1.far (by simp; omega) _, hz.2.setCell (by simp; omega) _⟩, l1, l2, l3⟩
theorem next_tm {w W : World} {g6 g7 g8 : Nat} {x : ByteArray} {b : Bool} (h : Tm w g6 g7 g8 x b W) (h8 : 8 ≤ x.size) (hz : x.size ≤ 140737488351232) :
    Calls Try.prog 27 #[.pointer (some ⟨g6, 0, none⟩)] W fun e w' => e = .returned (.int .u64 (take8 x)) ∧ Tm w g6 g7 g8 (x.extract 8 x.size) b w' ∧ Kp g6 g7 W w' := by
  refine (next_any g6 x W (h.1.cell 0) (h.1.frozen 0) h8 hz).mono fun e w' he => ⟨he.1, ?_, ?_⟩
  · rw [he.2]; exact tm_set6 _ h
  · rw [he.2]; exact ⟨by simp [World.setCell], fun g t cs n6 _ hB => hB.far n6 _⟩
theorem upTo_tm {w W : World} {g6 g7 g8 : Nat} {x : ByteArray} {b : Bool} (most : Nat) (h : Tm w g6 g7 g8 x b W) (hm : most ≤ 256) (h8 : 8 ≤ x.size) (hz : x.size ≤ 140737488351232) :
    Calls Try.prog 29 #[.int .u64 most, .pointer (some ⟨g8, 0, none⟩), .pointer (some ⟨g7, 0, none⟩)] W fun e w' => e = .returned (.int .i64 (wrap64 (take8 x))) ∧ Tm w g6 g7 g8 (x.extract 8 x.size) (b && decide (take8 x ≤ most)) w' ∧ Kp g6 g7 W w' := by
  obtain ⟨h6, h7, h8', hz', l1, l2, l3⟩ := h
  refine (upTo_any most g6 g7 g8 b x W (h6.cell 0) (h6.frozen 0) (h7.cell 0) (h7.frozen 0) (h8'.cell 0) (by omega) (by omega) hm h8 hz).mono fun e w' he => ⟨he.1, ?_, ?_⟩
  · rw [he.2]; exact tm_set7 _ (tm_set6 _ ⟨h6, h7, h8', hz', l1, l2, l3⟩)
  · rw [he.2]; exact ⟨by simp [World.setCell], fun g t cs n6 n7 hB => (hB.far n6 _).far n7 _⟩
theorem tmK {w W : World} {g6 g7 g8 : Nat} {x : ByteArray} {b : Bool} (h : Tm w g6 g7 g8 x b W) : W.cell? ⟨g8, 0, none⟩ = some (nextV g6) ∧ g8 < W.heap.size := ⟨h.2.2.1.cell 0, h.2.2.1.lt⟩
theorem kp_new {w Wp W' : World} {g6 g7 g8 : Nat} {x : ByteArray} {b : Bool} {cs : Array Value} {t : TypeId} (h : Tm w g6 g7 g8 x b Wp) (k : Kp g6 g7 (Wp.alloc (.cells cs t)) W') : Blk W' Wp.heap.size t cs ∧ g8 < Wp.heap.size := by
  have l := h.2.2.1.lt
  have l1 := h.2.2.2.2.2.1
  have l2 := h.2.2.2.2.2.2
  exact ⟨k.2 _ _ _ (by omega) (by omega) (blk_new _ _ _ _ rfl), l⟩
theorem kp_newg {w Wp W' : World} {g6 g7 g8 : Nat} {x : ByteArray} {b : Bool} {cs : Array Value} {t : TypeId} (h : Tm w g6 g7 g8 x b Wp) (k : Kp g6 g7 (Wp.alloc (.cells cs t)).drew W') (g : Nat) (hg : Wp.heap.size = g) : Blk W' g t cs ∧ g8 < g := by
  subst hg; exact kp_new h k
theorem zR {W : World} {g g8 : Nat} (h : Blk W g 28 #[.int .u8 0, .int .u64 0, .int .u64 0, .bool false, .int .i64 0, .slice none 0 0] ∧ g8 < g) : W.cell? ⟨g, 0, none⟩ = some (.int .u8 0) ∧ W.cell? ⟨g, 1, none⟩ = some (.int .u64 0) ∧ W.cell? ⟨g, 2, none⟩ = some (.int .u64 0) ∧ W.cell? ⟨g, 3, none⟩ = some (.bool false) ∧ W.cell? ⟨g, 4, none⟩ = some (.int .i64 0) ∧ W.cell? ⟨g, 5, none⟩ = some (.slice none 0 0) ∧
    W.frozen? ⟨g, 0, none⟩ = false ∧ W.frozen? ⟨g, 1, none⟩ = false ∧ W.frozen? ⟨g, 2, none⟩ = false ∧ W.frozen? ⟨g, 3, none⟩ = false ∧ W.frozen? ⟨g, 4, none⟩ = false ∧ W.frozen? ⟨g, 5, none⟩ = false :=
  ⟨h.1.cell 0, h.1.cell 1, h.1.cell 2, h.1.cell 3, h.1.cell 4, h.1.cell 5, h.1.frozen 0, h.1.frozen 1, h.1.frozen 2, h.1.frozen 3, h.1.frozen 4, h.1.frozen 5⟩
theorem kp_keep {w W W' : World} {g g6 g7 g8 : Nat} {x : ByteArray} {b : Bool} {cs : Array Value} {t : TypeId} (h : Tm w g6 g7 g8 x b W') (k : Kp g6 g7 W W') (q : Blk W g t cs ∧ g8 < g) : Blk W' g t cs ∧ g8 < g := by
  have l1 := h.2.2.2.2.2.1
  have l2 := h.2.2.2.2.2.2
  have l3 := q.2
  exact ⟨k.2 _ _ _ (by omega) (by omega) q.1, l3⟩
theorem tmS {w W : World} {g6 g7 g8 : Nat} {x : ByteArray} {b : Bool} (h : Tm w g6 g7 g8 x b W) : W.cell? ⟨g6, 0, none⟩ = some (.string x) ∧ W.cell? ⟨g7, 0, none⟩ = some (.bool b) ∧ W.cell? ⟨g8, 0, none⟩ = some (nextV g6) := ⟨h.1.cell 0, h.2.1.cell 0, h.2.2.1.cell 0⟩
theorem blk_row {W : World} {g : Nat} {t : TypeId} {a b : Array Value} (h : Blk W g t a) : Blk (W.setRow g b) g t b := by
  exact setRow_heap W g a b t (0, 0) h
theorem st_row {W : World} {g g8 : Nat} (h : Blk W g 28 #[.int .u8 0, .int .u64 0, .int .u64 0, .bool false, .int .i64 0, .slice none 0 0] ∧ g8 < g) (a b c e : Int) (d : Bool) :
    (storeCells ⟨g, 0, none⟩ [.int .u8 a, .int .u64 b, .int .u64 c, .bool d, .int .i64 e, .slice none 0 0] 0).run Try.prog W = .ok () (W.setRow g #[.int .u8 a, .int .u64 b, .int .u64 c, .bool d, .int .i64 e, .slice none 0 0]) := by
  have h2 := run_storeCells_from (P := Try.prog) g 28 [.int .u8 a, .int .u64 b, .int .u64 c, .bool d, .int .i64 e, .slice none 0 0] 0 _ W h.1 rfl (by intro v hv; simp at hv; rcases hv with rfl | rfl | rfl | rfl | rfl | rfl <;> rfl)
  simpa using h2
abbrev set6 (W : World) (g : Nat) (a b c d e f : Value) : World := (((((W.setCell ⟨g, 0, none⟩ a).setCell ⟨g, 1, none⟩ b).setCell ⟨g, 2, none⟩ c).setCell ⟨g, 3, none⟩ d).setCell ⟨g, 4, none⟩ e).setCell ⟨g, 5, none⟩ f
theorem tm_far {w W : World} {g g6 g7 g8 : Nat} {x : ByteArray} {b : Bool} (o : Nat) (v : Value) (hg : g8 < g) (h : Tm w g6 g7 g8 x b W) : Tm w g6 g7 g8 x b (W.setCell ⟨g, o, none⟩ v) := by
  obtain ⟨h6, h7, h8, hz, l1, l2, l3⟩ := h
  exact ⟨h6.far (by simp; omega) _, h7.far (by simp; omega) _, h8.far (by simp; omega) _, ⟨hz.1.far (by simp; omega) _, hz.2.setCell (by simp; omega) _⟩, l1, l2, l3⟩
theorem tm_far6 {w W : World} {g g6 g7 g8 : Nat} {x : ByteArray} {b : Bool} {t : TypeId} {cs : Array Value} (h : Tm w g6 g7 g8 x b W) (q : Blk W g t cs ∧ g8 < g) (v0 v1 v2 v3 v4 v5 : Value) : Tm w g6 g7 g8 x b (set6 W g v0 v1 v2 v3 v4 v5) :=
  tm_far _ _ q.2 (tm_far _ _ q.2 (tm_far _ _ q.2 (tm_far _ _ q.2 (tm_far _ _ q.2 (tm_far _ _ q.2 h)))))
theorem tmK6 {w W : World} {g g6 g7 g8 : Nat} {x : ByteArray} {b : Bool} {t : TypeId} {cs : Array Value} (h : Tm w g6 g7 g8 x b W) (q : Blk W g t cs ∧ g8 < g) (v0 v1 v2 v3 v4 v5 : Value) : (set6 W g v0 v1 v2 v3 v4 v5).cell? ⟨g8, 0, none⟩ = some (nextV g6) ∧ g8 < (set6 W g v0 v1 v2 v3 v4 v5).heap.size :=
  tmK (tm_far6 h q v0 v1 v2 v3 v4 v5)
theorem blk6 {W : World} {g : Nat} {t : TypeId} {a b c d e f : Value} (h : Blk W g t #[a, b, c, d, e, f]) (v0 v1 v2 v3 v4 v5 : Value) : Blk (set6 W g v0 v1 v2 v3 v4 v5) g t #[v0, v1, v2, v3, v4, v5] :=
  (((((h.set_ 0 v0).set_ 1 v1).set_ 2 v2).set_ 3 v3).set_ 4 v4).set_ 5 v5
end Go.Proofs.Ytkocdaillkhkfaa
