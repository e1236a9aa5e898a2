/- Layer 3: a map of sectors in memory: looked up, written, struck. Conditions: those of each lemma. -/
import Derived.Test.YtffojihhjiogpaaProg
import Derived.Test.YtffojihhjiogpaaFi1
namespace Go.Proofs.Ytffojihhjiogpaa
open Go.RowKit Go Go.Maps
set_option linter.unusedVariables false
set_option linter.unusedSimpArgs false
theorem keyed : Go.Maps.Keyed Try.prog 3 := Go.Maps.int_keyed Try.underlying3
theorem key_int (a : Int) (h0 : -9223372036854775808 ≤ a) (h1 : a ≤ 9223372036854775807) : keyOf Try.prog 3 (.int .i64 a) = some (ki a) := keyOf_int_mk Try.underlying3 (by
  have e3 : IntKind.i64.min = -9223372036854775808 := rfl
  have e4 : IntKind.i64.max = 9223372036854775807 := rfl
  simp [Lit.wf, e3, e4]; omega)
theorem zeroSec (w : World) : (zeroValue 72).run Try.prog w = .ok (secV zS) w := by kernel_rfl
theorem owns_tight {W : World} {b n : Nat} {D : DataW Value} (h : W.ownsMap Try.prog 3 heldR b n D) : W.ownsMap Try.prog 3 heldR b (Maps.size D) D := by
  obtain ⟨es, clock, hb, F, hs, hD⟩ := h
  refine ⟨es, clock, hb, F, ?_, hD⟩
  have h1 := length_read (P := Try.prog) (k := 3) (R0 := heldR) es
  rw [hD]
  simp only [Maps.size]
  omega
/-- the map of a file: nil, or a block -/
def FM (W : World) (m : Option Nat) (pres : Nat → Prop) (val : Nat → Sec) : Prop :=
  match m with
  | none => ∀ j, pres j → val j = zS
  | some b => ∃ D n, W.ownsMap Try.prog 3 heldR b n D ∧ KM D pres val
theorem fm_lt {W : World} {b : Nat} {pres : Nat → Prop} {val : Nat → Sec} (h : FM W (some b) pres val) : b < W.heap.size := by
  obtain ⟨D, n, h1, _⟩ := h
  exact h1.lt
theorem fm_keep {W W' : World} {m : Option Nat} {pres : Nat → Prop} {val : Nat → Sec} (h : FM W m pres val) (hb : ∀ b, m = some b → W'.heap[b]? = W.heap[b]?) : FM W' m pres val := by
  cases m with
  | none => exact h
  | some b =>
    obtain ⟨D, n, ⟨es, clock, h1, F, hs, hD⟩, hk⟩ := h
    exact ⟨D, n, ⟨es, clock, (hb b rfl).trans h1, F, hs, hD⟩, hk⟩
theorem fm_more {W : World} {m : Option Nat} {pres pres' : Nat → Prop} {val val' : Nat → Sec} (h : FM W m pres val) (h1 : ∀ j, pres j → pres' j ∧ val' j = val j) (h2 : ∀ j, pres' j → ¬ pres j → val' j = zS) : FM W m pres' val' := by
  cases m with
  | none => exact fun j hj => Classical.byCases (fun hp : pres j => by rw [(h1 j hp).2]; exact h j hp) (fun hp => h2 j hj hp)
  | some b =>
    obtain ⟨D, n, hown, hk⟩ := h
    exact ⟨D, n, hown, km_more hk h1 h2⟩
theorem fm_is {W : World} {m : Option Nat} {pres pres' : Nat → Prop} {val val' : Nat → Sec} (h : FM W m pres val) (h1 : ∀ j, pres j ↔ pres' j) (h2 : ∀ j, pres j → val' j = val j) : FM W m pres' val' :=
  fm_more h (fun j hj => ⟨(h1 j).1 hj, h2 j hj⟩) (fun j hj hn => absurd ((h1 j).2 hj) hn)
theorem fm_look {W : World} {m : Option Nat} {pres : Nat → Prop} {val : Nat → Sec} (h : FM W m pres val) {j : Nat} (hj : pres j) (hb : (j : Int) ≤ 9223372036854775807) (z : Int) (hz : z = j) :
    (Instr.lookup 64 (.map m) (.int .i64 z) false).run Try.prog W = .ok (secV (val j)) W := by
  subst hz
  cases m with
  | none =>
    rw [Maps.look_nil false keyed Try.underlying64 (zeroSec W) (key_int j (by omega) hb), h j hj]
    rfl
  | some b =>
    obtain ⟨D, n, hown, hk⟩ := h
    obtain ⟨v, ps, hrun, hv⟩ := hown.lookup keyed Try.underlying64 (zeroSec W) (zd := .held (secV zS)) (zp := []) rfl (key_int j (by omega) hb)
    rw [hk.2.2 j hj] at hv
    rw [hrun]
    have : v = secV (val j) := by
      generalize secV (val j) = u at hv ⊢
      simp only [heldR, Option.some.injEq, Prod.mk.injEq, DataW.held.injEq] at hv
      exact hv.1
    rw [this]
theorem fm_del {W : World} {m : Option Nat} {pres : Nat → Prop} {val : Nat → Sec} (h : FM W m pres val) (j : Nat) (hb : (j : Int) ≤ 9223372036854775807) (ty : TypeId) :
    ∃ W', (Builtin.delete_ #[64, 3] ty #[.map m, .int .i64 j]).run Try.prog W = .ok (.tuple #[]) W' ∧ FM W' m (fun k => pres k ∧ k ≠ j) val ∧ Fr (fun b => m = some b) W W' ∧ W'.heap.size = W.heap.size := by
  cases m with
  | none => exact ⟨W, Maps.drop_nil keyed Try.underlying64 (key_int j (by omega) hb) ty, fun k hk => h k hk.1, fr_refl _ _, rfl⟩
  | some b =>
    obtain ⟨D, n, hown, hk⟩ := h
    obtain ⟨W', hrun, hown', hT⟩ := hown.drop keyed Try.underlying64 (key_int j (by omega) hb) ty
    have hsz : W'.heap.size = W.heap.size := by
      obtain ⟨es, clock, es', clock', _, rfl⟩ := hT
      simp [Go.ChangeMaps.setBlock]
    exact ⟨W', hrun, ⟨_, n, hown', km_del hk j⟩, fr_grown (fr_refl _ _) hT.grown (fun z hz => .inl hz), hsz⟩
open Classical in
theorem fm_put {W : World} {b : Nat} {pres : Nat → Prop} {val : Nat → Sec} (h : FM W (some b) pres val) {N : Nat} (hp : ∀ j, pres j → j < N) (hN : N ≤ 100000) (i : Nat) (hi : (i : Int) ≤ 9223372036854775807) (s : Sec) :
    ∃ W', (Instr.mapUpdate 64 (.map (some b)) (.int .i64 i) (secV s)).run Try.prog W = .ok () W' ∧ FM W' (some b) (fun j => pres j ∨ j = i) (fun j => if j = i then s else val j) ∧ Fr (fun c => some b = some c) W W' ∧ W'.heap.size = W.heap.size := by
  obtain ⟨D, n, hown, hk⟩ := h
  have hs : Maps.size D ≤ N := by
    have hc := hown.canon keyed
    have hk2 : KM D (· < N) (fun j => if pres j then val j else zS) := km_more hk (fun j hj => ⟨hp j hj, if_pos hj⟩) (fun j _ hn => if_neg hn)
    exact km_size hc hk2
  obtain ⟨W', hrun, hown', hT⟩ := (owns_tight hown).store keyed Try.underlying64 (by unfold maxLen; omega) (key := .int .i64 i) (val := secV s) (key_int i (by omega) hi) (d := .held (secV s)) (ps := []) rfl
  have hsz : W'.heap.size = W.heap.size := by
    obtain ⟨es, clock, es', clock', _, rfl⟩ := hT
    simp [Go.ChangeMaps.setBlock]
  exact ⟨W', hrun, ⟨_, _, hown', km_put hk i s⟩, fr_grown (fr_refl _ _) hT.grown (fun z hz => .inl hz), hsz⟩
theorem fm_made (W : World) {pres : Nat → Prop} {val : Nat → Sec} (h : ∀ j, pres j → val j = zS) : FM (W.alloc (.map #[] 0)) (some W.heap.size) pres val :=
  ⟨_, _, World.ownsMap_made W Try.prog 3 heldR, km_empty h⟩
/-- a file's map: its sectors -/
def FL (W : World) (m : Option Nat) (l : Fl) : Prop := FM W m (· < l.length) (fun j => l.getD j zS)
end Go.Proofs.Ytffojihhjiogpaa
