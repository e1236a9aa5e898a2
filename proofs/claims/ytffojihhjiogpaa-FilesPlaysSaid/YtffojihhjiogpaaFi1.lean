/- Layer 3: the maps of sectors as they are read; what stands but for some blocks. Plain mathematics. Conditions: those of each lemma. -/
import Derived.Test.YtffojihhjiogpaaBase
import Derived.Test.YtffojihhjiogpaaNumMath
import Derived.Maps.OwnSet
import Derived.Maps.OwnOps
import Derived.Maps.Views
import Derived.Maps.Ext
namespace Go.Proofs.Ytffojihhjiogpaa
open Go.RowKit Go
set_option linter.unusedVariables false
set_option linter.unusedSimpArgs false
/-- each element of the map is held as it is -/
def heldR (v : Value) : Option (DataW Value × List MemPlace) := some (.held v, [])
abbrev Sec := List Nat
abbrev Fl := List Sec
def vals8 (l : List Nat) : List Value := l.map fun (x : Nat) => Value.int .u8 (x : Int)
theorem vals8_length (l : List Nat) : (vals8 l).length = l.length := by simp [vals8]
theorem vals8_one (l : List Nat) : ∀ u ∈ vals8 l, u.oneCell' = true := by
  intro u h; simp only [vals8, List.mem_map] at h; obtain ⟨x, _, rfl⟩ := h; rfl
def secV (s : Sec) : Value := .agg (vals8 s).toArray
def zS : Sec := List.replicate 64 0
def ki (j : Int) : Lit := .int .i64 j
theorem ki_inj {a b : Int} (h : ki a = ki b) : a = b := by unfold ki at h; injection h
theorem ki_key (a : Int) : Go.WideAt.IsKeyLit (ki a) := trivial
/-- a map of sectors as it is read: no other keys than those of pres, and at each of them what val tells -/
def KM (D : DataW Value) (pres : Nat → Prop) (val : Nat → Sec) : Prop :=
  Maps.IsMap D ∧ (∀ k, Maps.has D k = true → ∃ j : Nat, pres j ∧ k = ki j) ∧ ∀ j : Nat, pres j → D.atKey (ki j) (.held (secV zS)) = .held (secV (val j))
theorem km_empty {pres : Nat → Prop} {val : Nat → Sec} (h : ∀ j, pres j → val j = zS) : KM (.map []) pres val :=
  ⟨Maps.isMap_empty, fun k hk => by simp [Maps.has] at hk, fun j hj => by rw [h j hj]; rfl⟩
theorem km_no {D : DataW Value} {pres : Nat → Prop} {val : Nat → Sec} (h : KM D pres val) {j : Nat} (hj : ¬ pres j) (z : DataW Value) : D.atKey (ki j) z = z := by
  apply Maps.atKey_of_not_has
  cases hh : Maps.has D (ki j) with
  | false => rfl
  | true =>
    obtain ⟨i, hi, e⟩ := h.2.1 _ hh
    have := ki_inj e
    have : j = i := by omega
    subst this
    exact absurd hi hj
theorem km_put {D : DataW Value} {pres : Nat → Prop} {val : Nat → Sec} (h : KM D pres val) (i : Nat) (s : Sec) :
    KM (D.put (ki i) (.held (secV s))) (fun j => pres j ∨ j = i) (fun j => if j = i then s else val j) := by
  refine ⟨h.1.put _ _, fun k hk => ?_, fun j hj => ?_⟩
  · by_cases e : k = ki i
    · exact ⟨i, .inr rfl, e⟩
    · rw [Maps.has_put_other e] at hk
      obtain ⟨j, hj, e2⟩ := h.2.1 k hk
      exact ⟨j, .inl hj, e2⟩
  · by_cases e : j = i
    · subst e
      rw [Maps.atKey_put_same h.1 (ki_key _)]
      show _ = DataW.held (secV (if j = j then s else val j))
      rw [if_pos rfl]
    · rw [Maps.atKey_put_other (fun e2 => e (by have := ki_inj e2; omega))]
      show _ = DataW.held (secV (if j = i then s else val j))
      rw [if_neg e]
      rcases hj with hj | hj
      · exact h.2.2 j hj
      · exact absurd hj e
theorem km_del {D : DataW Value} {pres : Nat → Prop} {val : Nat → Sec} (h : KM D pres val) (i : Nat) : KM (D.del (ki i)) (fun j => pres j ∧ j ≠ i) val := by
  refine ⟨h.1.del _, fun k hk => ?_, fun j hj => ?_⟩
  · by_cases e : k = ki i
    · subst e; rw [Maps.has_del_same] at hk; cases hk
    · rw [Maps.has_del_other e] at hk
      obtain ⟨j, hj, e2⟩ := h.2.1 k hk
      exact ⟨j, ⟨hj, fun e3 => e (by rw [e2, e3])⟩, e2⟩
  · rw [Maps.atKey_del_other (fun e2 => hj.2 (by have := ki_inj e2; omega))]
    exact h.2.2 j hj.1
theorem km_more {D : DataW Value} {pres pres' : Nat → Prop} {val val' : Nat → Sec} (h : KM D pres val) (h1 : ∀ j, pres j → pres' j ∧ val' j = val j) (h2 : ∀ j, pres' j → ¬ pres j → val' j = zS) : KM D pres' val' := by
  refine ⟨h.1, fun k hk => ?_, fun j hj => ?_⟩
  · obtain ⟨j, hj, e⟩ := h.2.1 k hk
    exact ⟨j, (h1 j hj).1, e⟩
  · by_cases hp : pres j
    · rw [(h1 j hp).2]; exact h.2.2 j hp
    · rw [h2 j hj hp]; exact km_no h hp _
/-- numbers below n, all unlike, are at most n -/
theorem below_len : ∀ (n : Nat) (l : List Nat), l.Pairwise (· ≠ ·) → (∀ x ∈ l, x < n) → l.length ≤ n
  | 0, l, _, h => by cases l with | nil => exact Nat.le_refl _ | cons a r => exact absurd (h a (by simp)) (by omega)
  | n + 1, l, hp, h => by
    have h1 := below_len n (l.filter (fun x => decide (x ≠ n))) (hp.filter _) (fun x hx => by
      obtain ⟨a, b⟩ := List.mem_filter.1 hx
      have := h x a
      have := of_decide_eq_true b
      omega)
    have h2 : l.length ≤ (l.filter (fun x => decide (x ≠ n))).length + 1 := by
      clear h1 h
      induction l with
      | nil => simp
      | cons a r ih =>
        obtain ⟨ha, hr⟩ := List.pairwise_cons.1 hp
        by_cases e : a = n
        · subst e
          have h3 : r.filter (fun x => !decide (x = a)) = r := List.filter_eq_self.2 (fun x hx => by have := ha x hx; simp; exact fun e => this e.symm)
          simp [h3]
        · simp [e]
          have := ih hr
          simpa using this
    omega
theorem km_size {D : DataW Value} {n : Nat} {val : Nat → Sec} (hT : Maps.Canon D) (h : KM D (· < n) val) : Maps.size D ≤ n := by
  obtain ⟨es, rfl, hr, hK⟩ := hT
  have hp := Maps.apart_of_rising hr
  have hk : ∀ p ∈ es, ∃ j : Nat, j < n ∧ p.1 = ki j := fun p hpm => h.2.1 p.1 (by
    simp only [Maps.has, List.any_eq_true]
    exact ⟨p, hpm, WideAt.sameKey_self (hK p hpm)⟩)
  let num : Lit × DataW Value → Nat := fun p => match p.1 with | .int _ a => a.toNat | _ => 0
  have hn : ∀ p ∈ es, num p < n ∧ p.1 = ki (num p) := fun p hpm => by
    obtain ⟨j, hj, e⟩ := hk p hpm
    have : num p = j := by
      show (match p.1 with | .int _ a => a.toNat | _ => 0) = j
      rw [e]
      show ((j : Int)).toNat = j
      omega
    rw [this]
    exact ⟨hj, e⟩
  have hl := below_len n (es.map num) (by
    rw [List.pairwise_map]
    exact hp.imp_of_mem (fun {a b} ha hb hab e => hab (by rw [(hn a ha).2, (hn b hb).2, e]))) (fun x hx => by
    obtain ⟨p, hpm, rfl⟩ := List.mem_map.1 hx
    exact (hn p hpm).1)
  rw [List.length_map] at hl
  exact hl
/-- but for the blocks of S, what was there is as it was -/
structure Fr (S : Nat → Prop) (w w' : World) : Prop where
  os : w'.os = w.os
  tape : w'.tape = w.tape
  output : w'.output = w.output
  size : w.heap.size ≤ w'.heap.size
  block : ∀ k, k < w.heap.size → ¬ S k → w'.heap[k]? = w.heap[k]?
theorem fr_refl (S : Nat → Prop) (w : World) : Fr S w w := ⟨rfl, rfl, rfl, Nat.le_refl _, fun _ _ _ => rfl⟩
theorem fr_trans {S T : Nat → Prop} {u v w : World} (h : Fr S u v) (k : Fr T v w) (hT : ∀ b, T b → S b ∨ u.heap.size ≤ b) : Fr S u w :=
  ⟨k.os.trans h.os, k.tape.trans h.tape, k.output.trans h.output, Nat.le_trans h.size k.size, fun i hi hS => (k.block i (Nat.lt_of_lt_of_le hi h.size) (fun ht => by rcases hT i ht with h1 | h1; exact hS h1; omega)).trans (h.block i hi hS)⟩
theorem fr_of {S : Nat → Prop} {w w' : World} (h : Below w.heap.size w w') : Fr S w w' := ⟨h.os, h.tape, h.output, h.size, fun k hk _ => h.block k hk⟩
theorem fr_step {S : Nat → Prop} {u v w : World} (h : Fr S u v) (k : Below v.heap.size v w) : Fr S u w := fr_trans h (fr_of (S := S) k) (fun b hb => .inl hb)
theorem fr_set {S : Nat → Prop} {u w : World} (h : Fr S u w) {p : Addr} (hp : S p.block ∨ u.heap.size ≤ p.block) (x : Value) : Fr S u (w.setCell p x) :=
  ⟨h.os, h.tape, h.output, by simpa [World.setCell] using h.size, fun k hk hS => (Below.heap_setCell _ _ _ _ (by rintro rfl; rcases hp with h1 | h1; exact hS h1; omega)).trans (h.block k hk hS)⟩
theorem fr_grown {S : Nat → Prop} {u w w' : World} {row : Option Nat} (h : Fr S u w) (hg : w.grownBy w' row) (hr : ∀ z, row = some z → S z ∨ u.heap.size ≤ z) : Fr S u w' :=
  ⟨hg.os.trans h.os, hg.tape.trans h.tape, hg.output.trans h.output, Nat.le_trans h.size hg.size, fun k hk hS => (hg.block k (Nat.lt_of_lt_of_le hk h.size) (fun e => by rcases hr k e.symm with h1 | h1; exact hS h1; omega)).trans (h.block k hk hS)⟩
theorem fr_below {S : Nat → Prop} {B : Nat} {u w : World} (h : Fr S u w) (hS : ∀ k, S k → B ≤ k) (hB : B ≤ u.heap.size) : Below B u w :=
  ⟨h.os, h.tape, h.output, h.size, fun k hk => h.block k (by omega) (fun h1 => by have := hS k h1; omega)⟩
theorem fr_blk {S : Nat → Prop} {w w' : World} (h : Fr S w w') {g : Nat} {t : TypeId} {cs : Array Value} (hg : Blk w g t cs) (hS : ¬ S g) : Blk w' g t cs := (h.block g hg.lt hS).trans hg
theorem fr_mono {S T : Nat → Prop} {w w' : World} (h : Fr S w w') (hT : ∀ b, S b → T b ∨ w.heap.size ≤ b) : Fr T w w' :=
  ⟨h.os, h.tape, h.output, h.size, fun k hk hS => h.block k hk (fun h1 => by rcases hT k h1 with h2 | h2; exact hS h2; omega)⟩
end Go.Proofs.Ytffojihhjiogpaa
