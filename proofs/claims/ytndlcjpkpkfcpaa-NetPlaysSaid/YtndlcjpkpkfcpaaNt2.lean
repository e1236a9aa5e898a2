/- The net in memory; net.New, isNode, add. Conditions: those of each lemma. -/
import Derived.Test.YtndlcjpkpkfcpaaProg
import Derived.Test.YtndlcjpkpkfcpaaBase
import Derived.Test.YtndlcjpkpkfcpaaNumMath
import Derived.Test.YtndlcjpkpkfcpaaNt1
import Derived.Maps.Own
import Derived.Below
namespace Go.Proofs.Ytndlcjpkpkfcpaa
open Go.RowKit Go
set_option linter.unusedVariables false
set_option linter.unusedSimpArgs false
theorem one_alloc {w : World} {o : Obj} : Below w.heap.size w (w.alloc o) := (Below.refl _ _).alloc (Nat.le_refl _) _
/-- but for the blocks a and b, what was there is as it was -/
structure But (a b : Nat) (w w' : World) : Prop where
  os : w'.os = w.os
  tape : w'.tape = w.tape
  output : w'.output = w.output
  size : w.heap.size ≤ w'.heap.size
  block : ∀ k, k < w.heap.size → k ≠ a → k ≠ b → w'.heap[k]? = w.heap[k]?
theorem but_refl (a b : Nat) (w : World) : But a b w w := ⟨rfl, rfl, rfl, Nat.le_refl _, fun _ _ _ _ => rfl⟩
theorem but_trans {a b : Nat} {u v w : World} (h : But a b u v) (k : But a b v w) : But a b u w := ⟨k.os.trans h.os, k.tape.trans h.tape, k.output.trans h.output, Nat.le_trans h.size k.size, fun i hi ha hb => (k.block i (Nat.lt_of_lt_of_le hi h.size) ha hb).trans (h.block i hi ha hb)⟩
theorem but_of {a b : Nat} {w w' : World} (h : Below w.heap.size w w') : But a b w w' := ⟨h.os, h.tape, h.output, h.size, fun k hk _ _ => h.block k hk⟩
theorem but_grown {a b : Nat} {w w' : World} {row : Option Nat} (h : w.grownBy w' row) (hr : ∀ z, row = some z → z = a ∨ z = b) : But a b w w' := ⟨h.os, h.tape, h.output, h.size, fun k hk ha hb => h.block k hk (fun e => by rcases hr k e.symm with e | e; exact ha e; exact hb e)⟩
theorem but_set {a b : Nat} {w : World} {p : Addr} (h : p.block = a ∨ p.block = b) (u : Value) : But a b w (w.setCell p u) := ⟨rfl, rfl, rfl, by simp [World.setCell], fun k _ ha hb => Below.heap_setCell _ _ _ _ (by rcases h with e | e <;> omega)⟩
theorem but_far {a b : Nat} {u w : World} (h : But a b u w) {p : Addr} (hp : u.heap.size ≤ p.block) (x : Value) : But a b u (w.setCell p x) := ⟨h.os, h.tape, h.output, by simpa [World.setCell] using h.size, fun k hk ha hb => (Below.heap_setCell _ _ _ _ (by omega)).trans (h.block k hk ha hb)⟩
theorem but_below {a b B : Nat} {w w' : World} (h : But a b w w') (ha : B ≤ a) (hb : B ≤ b) (hB : B ≤ w.heap.size) : Below B w w' := ⟨h.os, h.tape, h.output, h.size, fun k hk => h.block k (by omega) (by omega) (by omega)⟩
theorem but_blk {a b : Nat} {w w' : World} (h : But a b w w') {g : Nat} {t : TypeId} {cs : Array Value} (hg : Blk w g t cs) (ha : g ≠ a) (hb : g ≠ b) : Blk w' g t cs := by
  have hl := hg.lt
  exact (h.block g hl ha hb).trans hg
/-- the net's numbers -/
def NOk (L : List Lt) (N : Int) : Prop := Up L ∧ (∀ x ∈ L, 1 ≤ x.id ∧ x.id ≤ N) ∧ L.length ≤ 64 ∧ 0 ≤ N
/-- the net at gn, its map at gm -/
def NetS (gn gm : Nat) (L : List Lt) (N : Int) (W : World) : Prop := Blk W gn 49 #[.map (some gm), .int .i64 N] ∧ W.ownsMap Try.prog 3 heldR gm L.length (mapOf L) ∧ gn ≠ gm ∧ NOk L N
theorem owns_tight {W : World} {b n : Nat} {L : List Lt} (h : W.ownsMap Try.prog 3 heldR b n (mapOf L)) : W.ownsMap Try.prog 3 heldR b L.length (mapOf L) := by
  obtain ⟨es, clock, hb, F, hs, hD⟩ := h
  refine ⟨es, clock, hb, F, ?_, hD⟩
  have h1 := length_read (P := Try.prog) (k := 3) (R0 := heldR) es
  have h2 := congrArg Maps.size hD
  rw [map_size] at h2
  simp only [Maps.size] at h2
  omega
theorem owns_block {W W' : World} {b n : Nat} {D : DataW Value} (h : W.ownsMap Try.prog 3 heldR b n D) (hb : W'.heap[b]? = W.heap[b]?) : W'.ownsMap Try.prog 3 heldR b n D := by
  obtain ⟨es, clock, h1, F, hs, hD⟩ := h
  exact ⟨es, clock, hb.trans h1, F, hs, hD⟩
theorem net_step {gn gm : Nat} {L : List Lt} {N : Int} {W W' : World} (h : NetS gn gm L N W) (hb : Below W.heap.size W W') : NetS gn gm L N W' := ⟨blk_step h.1 hb, owns_block h.2.1 (hb.block gm h.2.1.lt), h.2.2.1, h.2.2.2⟩
theorem net_but {gn gm a b : Nat} {L : List Lt} {N : Int} {W W' : World} (h : NetS gn gm L N W) (hb : But a b W W') (h1 : gn ≠ a) (h2 : gn ≠ b) (h3 : gm ≠ a) (h4 : gm ≠ b) : NetS gn gm L N W' := ⟨but_blk hb h.1 h1 h2, owns_block h.2.1 (hb.block gm h.2.1.lt h3 h4), h.2.2.1, h.2.2.2⟩
theorem keyed : Go.Maps.Keyed Try.prog 3 := Go.Maps.int_keyed Try.underlying3
set_option maxRecDepth 100000 in
set_option maxHeartbeats 4000000 in
theorem new_any (w : World) : Calls Try.prog 6 #[] w fun e w' => ∃ gn gm, e = .returned (.pointer (some ⟨gn, 0, none⟩)) ∧ NetS gn gm [] 0 w' ∧ w.heap.size ≤ gn ∧ w.heap.size ≤ gm ∧ Below w.heap.size w w' := by
  have hmm := @run_makeMap Try.prog
  go_enter Try.func6, Try.ntmps6
  go_wp2
  go_ret
  refine ⟨w.heap.size + 1, w.heap.size, rfl, ⟨blk_new _ _ _ _ (by simp), ?_, by omega, List.Pairwise.nil, by simp, by simp, by omega⟩, by omega, by omega, bj one_alloc one_alloc⟩
  exact (World.ownsMap_made w Try.prog 3 heldR).alloc _
set_option maxRecDepth 100000 in
set_option maxHeartbeats 4000000 in
theorem isNode_any (n : Int) (w : World) : Calls Try.prog 21 #[.int .i64 n] w fun e w' => e = .returned (.bool (decide (0 ≤ n) && decide (n < 4))) ∧ w = w' := by
  by_cases h0 : 0 ≤ n
  · by_cases h1 : n < 4
    · have HR := Lib.hid (show (decide (0 ≤ n) && decide (n < 4)) = true by simp [h0, h1])
      go_enter Try.func21, Try.ntmps21
      go_wp2
      go_ret
      first | exact ⟨rfl, rfl⟩ | exact ⟨rbool HR.out.symm, rfl⟩
    · have HR := Lib.hid (show (decide (0 ≤ n) && decide (n < 4)) = false by simp [h1])
      have h2 : decide (n < 4) = false := decide_eq_false h1
      go_enter Try.func21, Try.ntmps21
      go_wp2
      go_ret
      first | exact ⟨rfl, rfl⟩ | exact ⟨rbool HR.out.symm, rfl⟩
  · have HR := Lib.hid (show (decide (0 ≤ n) && decide (n < 4)) = false by simp [h0])
    have h2 : decide (0 ≤ n) = false := decide_eq_false h0
    go_enter Try.func21, Try.ntmps21
    go_wp2
    go_ret
    first | exact ⟨rfl, rfl⟩ | exact ⟨rbool HR.out.symm, rfl⟩
end Go.Proofs.Ytndlcjpkpkfcpaa
