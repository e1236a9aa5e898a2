/- Layer 5: maps of sectors, a file, a disk in memory. Conditions: those of each lemma. -/
import Derived.Test.YthipaabjmlgjmaaBase
import Derived.Test.YthipaabjmlgjmaaNumMath
import Derived.Maps.OwnSet
import Derived.Maps.OwnOps
import Derived.Maps.Views
import Derived.Maps.Ext
import Derived.Test.YthipaabjmlgjmaaProg
namespace Go.Proofs.Ythipaabjmlgjmaa
open Go.RowKit Go
set_option linter.unusedVariables false
set_option linter.unusedSimpArgs false
/-- each element of the map is held as it is -/
def heldR (v : Value) : Option (DataW Value × List MemPlace) := some (.held v, [])
abbrev Sec := List Nat
abbrev Fl := List Sec
def vals8 (l : List Nat) : List Value := l.map fun (x : Nat) => Value.int .u8 (x : Int)
theorem vals8_length (l : List Nat) : (vals8 l).length = l.length := by simp [vals8]
theorem vals8_one (l : List Nat) : ∀ u ∈ vals8 l, u.oneCell' = true := by
  intro u h; simp only [vals8, List.mem_map] at h; obtain ⟨x, _, rfl⟩ := h; rfl
def secV (s : Sec) : Value := .agg (vals8 s).toArray
def zS : Sec := List.replicate 64 0
def ki (j : Int) : Lit := .int .i64 j
theorem ki_inj {a b : Int} (h : ki a = ki b) : a = b := by unfold ki at h; injection h
theorem ki_key (a : Int) : Go.WideAt.IsKeyLit (ki a) := trivial
/-- a map of sectors as it is read: no other keys than those of pres, and at each of them what val tells -/
def KM (D : DataW Value) (pres : Nat → Prop) (val : Nat → Sec) : Prop :=
  Maps.IsMap D ∧ (∀ k, Maps.has D k = true → ∃ j : Nat, pres j ∧ k = ki j) ∧ ∀ j : Nat, pres j → D.atKey (ki j) (.held (secV zS)) = .held (secV (val j))
theorem km_empty {pres : Nat → Prop} {val : Nat → Sec} (h : ∀ j, pres j → val j = zS) : KM (.map []) pres val :=
  ⟨Maps.isMap_empty, fun k hk => by simp [Maps.has] at hk, fun j hj => by rw [h j hj]; rfl⟩
theorem km_no {D : DataW Value} {pres : Nat → Prop} {val : Nat → Sec} (h : KM D pres val) {j : Nat} (hj : ¬ pres j) (z : DataW Value) : D.atKey (ki j) z = z := by
  apply Maps.atKey_of_not_has
  cases hh : Maps.has D (ki j) with
  | false => rfl
  | true =>
    obtain ⟨i, hi, e⟩ := h.2.1 _ hh
    have := ki_inj e
    have : j = i := by omega
    subst this
    exact absurd hi hj
theorem km_put {D : DataW Value} {pres : Nat → Prop} {val : Nat → Sec} (h : KM D pres val) (i : Nat) (s : Sec) :
    KM (D.put (ki i) (.held (secV s))) (fun j => pres j ∨ j = i) (fun j => if j = i then s else val j) := by
  refine ⟨h.1.put _ _, fun k hk => ?_, fun j hj => ?_⟩
  · by_cases e : k = ki i
    · exact ⟨i, .inr rfl, e⟩
    · rw [Maps.has_put_other e] at hk
      obtain ⟨j, hj, e2⟩ := h.2.1 k hk
      exact ⟨j, .inl hj, e2⟩
  · by_cases e : j = i
    · subst e
      rw [Maps.atKey_put_same h.1 (ki_key _)]
      show _ = DataW.held (secV (if j = j then s else val j))
      rw [if_pos rfl]
    · rw [Maps.atKey_put_other (fun e2 => e (by have := ki_inj e2; omega))]
      show _ = DataW.held (secV (if j = i then s else val j))
      rw [if_neg e]
      rcases hj with hj | hj
      · exact h.2.2 j hj
      · exact absurd hj e
theorem km_del {D : DataW Value} {pres : Nat → Prop} {val : Nat → Sec} (h : KM D pres val) (i : Nat) : KM (D.del (ki i)) (fun j => pres j ∧ j ≠ i) val := by
  refine ⟨h.1.del _, fun k hk => ?_, fun j hj => ?_⟩
  · by_cases e : k = ki i
    · subst e; rw [Maps.has_del_same] at hk; cases hk
    · rw [Maps.has_del_other e] at hk
      obtain ⟨j, hj, e2⟩ := h.2.1 k hk
      exact ⟨j, ⟨hj, fun e3 => e (by rw [e2, e3])⟩, e2⟩
  · rw [Maps.atKey_del_other (fun e2 => hj.2 (by have := ki_inj e2; omega))]
    exact h.2.2 j hj.1
theorem km_more {D : DataW Value} {pres pres' : Nat → Prop} {val val' : Nat → Sec} (h : KM D pres val) (h1 : ∀ j, pres j → pres' j ∧ val' j = val j) (h2 : ∀ j, pres' j → ¬ pres j → val' j = zS) : KM D pres' val' := by
  refine ⟨h.1, fun k hk => ?_, fun j hj => ?_⟩
  · obtain ⟨j, hj, e⟩ := h.2.1 k hk
    exact ⟨j, (h1 j hj).1, e⟩
  · by_cases hp : pres j
    · rw [(h1 j hp).2]; exact h.2.2 j hp
    · rw [h2 j hj hp]; exact km_no h hp _
/-- numbers below n, all unlike, are at most n -/
theorem below_len : ∀ (n : Nat) (l : List Nat), l.Pairwise (· ≠ ·) → (∀ x ∈ l, x < n) → l.length ≤ n
  | 0, l, _, h => by cases l with | nil => exact Nat.le_refl _ | cons a r => exact absurd (h a (by simp)) (by omega)
  | n + 1, l, hp, h => by
    have h1 := below_len n (l.filter (fun x => decide (x ≠ n))) (hp.filter _) (fun x hx => by
      obtain ⟨a, b⟩ := List.mem_filter.1 hx
      have := h x a
      have := of_decide_eq_true b
      omega)
    have h2 : l.length ≤ (l.filter (fun x => decide (x ≠ n))).length + 1 := by
      clear h1 h
      induction l with
      | nil => simp
      | cons a r ih =>
        obtain ⟨ha, hr⟩ := List.pairwise_cons.1 hp
        by_cases e : a = n
        · subst e
          have h3 : r.filter (fun x => !decide (x = a)) = r := List.filter_eq_self.2 (fun x hx => by have := ha x hx; simp; exact fun e => this e.symm)
          simp [h3]
        · simp [e]
          have := ih hr
          simpa using this
    omega
theorem km_size {D : DataW Value} {n : Nat} {val : Nat → Sec} (hT : Maps.Canon D) (h : KM D (· < n) val) : Maps.size D ≤ n := by
  obtain ⟨es, rfl, hr, hK⟩ := hT
  have hp := Maps.apart_of_rising hr
  have hk : ∀ p ∈ es, ∃ j : Nat, j < n ∧ p.1 = ki j := fun p hpm => h.2.1 p.1 (by
    simp only [Maps.has, List.any_eq_true]
    exact ⟨p, hpm, WideAt.sameKey_self (hK p hpm)⟩)
  let num : Lit × DataW Value → Nat := fun p => match p.1 with | .int _ a => a.toNat | _ => 0
  have hn : ∀ p ∈ es, num p < n ∧ p.1 = ki (num p) := fun p hpm => by
    obtain ⟨j, hj, e⟩ := hk p hpm
    have : num p = j := by
      show (match p.1 with | .int _ a => a.toNat | _ => 0) = j
      rw [e]
      show ((j : Int)).toNat = j
      omega
    rw [this]
    exact ⟨hj, e⟩
  have hl := below_len n (es.map num) (by
    rw [List.pairwise_map]
    exact hp.imp_of_mem (fun {a b} ha hb hab e => hab (by rw [(hn a ha).2, (hn b hb).2, e]))) (fun x hx => by
    obtain ⟨p, hpm, rfl⟩ := List.mem_map.1 hx
    exact (hn p hpm).1)
  rw [List.length_map] at hl
  exact hl
/-- but for the blocks of S, what was there is as it was -/
structure Fr (S : Nat → Prop) (w w' : World) : Prop where
  os : w'.os = w.os
  tape : w'.tape = w.tape
  output : w'.output = w.output
  size : w.heap.size ≤ w'.heap.size
  block : ∀ k, k < w.heap.size → ¬ S k → w'.heap[k]? = w.heap[k]?
theorem fr_refl (S : Nat → Prop) (w : World) : Fr S w w := ⟨rfl, rfl, rfl, Nat.le_refl _, fun _ _ _ => rfl⟩
theorem fr_trans {S T : Nat → Prop} {u v w : World} (h : Fr S u v) (k : Fr T v w) (hT : ∀ b, T b → S b ∨ u.heap.size ≤ b) : Fr S u w :=
  ⟨k.os.trans h.os, k.tape.trans h.tape, k.output.trans h.output, Nat.le_trans h.size k.size, fun i hi hS => (k.block i (Nat.lt_of_lt_of_le hi h.size) (fun ht => by rcases hT i ht with h1 | h1; exact hS h1; omega)).trans (h.block i hi hS)⟩
theorem fr_of {S : Nat → Prop} {w w' : World} (h : Below w.heap.size w w') : Fr S w w' := ⟨h.os, h.tape, h.output, h.size, fun k hk _ => h.block k hk⟩
theorem fr_step {S : Nat → Prop} {u v w : World} (h : Fr S u v) (k : Below v.heap.size v w) : Fr S u w := fr_trans h (fr_of (S := S) k) (fun b hb => .inl hb)
theorem fr_set {S : Nat → Prop} {u w : World} (h : Fr S u w) {p : Addr} (hp : S p.block ∨ u.heap.size ≤ p.block) (x : Value) : Fr S u (w.setCell p x) :=
  ⟨h.os, h.tape, h.output, by simpa [World.setCell] using h.size, fun k hk hS => (Below.heap_setCell _ _ _ _ (by rintro rfl; rcases hp with h1 | h1; exact hS h1; omega)).trans (h.block k hk hS)⟩
theorem fr_grown {S : Nat → Prop} {u w w' : World} {row : Option Nat} (h : Fr S u w) (hg : w.grownBy w' row) (hr : ∀ z, row = some z → S z ∨ u.heap.size ≤ z) : Fr S u w' :=
  ⟨hg.os.trans h.os, hg.tape.trans h.tape, hg.output.trans h.output, Nat.le_trans h.size hg.size, fun k hk hS => (hg.block k (Nat.lt_of_lt_of_le hk h.size) (fun e => by rcases hr k e.symm with h1 | h1; exact hS h1; omega)).trans (h.block k hk hS)⟩
theorem fr_below {S : Nat → Prop} {B : Nat} {u w : World} (h : Fr S u w) (hS : ∀ k, S k → B ≤ k) (hB : B ≤ u.heap.size) : Below B u w :=
  ⟨h.os, h.tape, h.output, h.size, fun k hk => h.block k (by omega) (fun h1 => by have := hS k h1; omega)⟩
theorem fr_blk {S : Nat → Prop} {w w' : World} (h : Fr S w w') {g : Nat} {t : TypeId} {cs : Array Value} (hg : Blk w g t cs) (hS : ¬ S g) : Blk w' g t cs := (h.block g hg.lt hS).trans hg
theorem fr_mono {S T : Nat → Prop} {w w' : World} (h : Fr S w w') (hT : ∀ b, S b → T b ∨ w.heap.size ≤ b) : Fr T w w' :=
  ⟨h.os, h.tape, h.output, h.size, fun k hk hS => h.block k hk (fun h1 => by rcases hT k h1 with h2 | h2; exact hS h2; omega)⟩
end Go.Proofs.Ythipaabjmlgjmaa
namespace Go.Proofs.Ythipaabjmlgjmaa
open Go.RowKit Go Go.Maps
set_option linter.unusedVariables false
set_option linter.unusedSimpArgs false
theorem keyed : Go.Maps.Keyed Try.prog 3 := Go.Maps.int_keyed Try.underlying3
theorem key_int (a : Int) (h0 : -9223372036854775808 ≤ a) (h1 : a ≤ 9223372036854775807) : keyOf Try.prog 3 (.int .i64 a) = some (ki a) := keyOf_int_mk Try.underlying3 (by
  have e3 : IntKind.i64.min = -9223372036854775808 := rfl
  have e4 : IntKind.i64.max = 9223372036854775807 := rfl
  simp [Lit.wf, e3, e4]; omega)
theorem zeroSec (w : World) : (zeroValue 97).run Try.prog w = .ok (secV zS) w := by kernel_rfl
theorem owns_tight {W : World} {b n : Nat} {D : DataW Value} (h : W.ownsMap Try.prog 3 heldR b n D) : W.ownsMap Try.prog 3 heldR b (Maps.size D) D := by
  obtain ⟨es, clock, hb, F, hs, hD⟩ := h
  refine ⟨es, clock, hb, F, ?_, hD⟩
  have h1 := length_read (P := Try.prog) (k := 3) (R0 := heldR) es
  rw [hD]
  simp only [Maps.size]
  omega
/-- the map of a file: nil, or a block -/
def FM (W : World) (m : Option Nat) (pres : Nat → Prop) (val : Nat → Sec) : Prop :=
  match m with
  | none => ∀ j, pres j → val j = zS
  | some b => ∃ D n, W.ownsMap Try.prog 3 heldR b n D ∧ KM D pres val
theorem fm_lt {W : World} {b : Nat} {pres : Nat → Prop} {val : Nat → Sec} (h : FM W (some b) pres val) : b < W.heap.size := by
  obtain ⟨D, n, h1, _⟩ := h
  exact h1.lt
theorem fm_keep {W W' : World} {m : Option Nat} {pres : Nat → Prop} {val : Nat → Sec} (h : FM W m pres val) (hb : ∀ b, m = some b → W'.heap[b]? = W.heap[b]?) : FM W' m pres val := by
  cases m with
  | none => exact h
  | some b =>
    obtain ⟨D, n, ⟨es, clock, h1, F, hs, hD⟩, hk⟩ := h
    exact ⟨D, n, ⟨es, clock, (hb b rfl).trans h1, F, hs, hD⟩, hk⟩
theorem fm_more {W : World} {m : Option Nat} {pres pres' : Nat → Prop} {val val' : Nat → Sec} (h : FM W m pres val) (h1 : ∀ j, pres j → pres' j ∧ val' j = val j) (h2 : ∀ j, pres' j → ¬ pres j → val' j = zS) : FM W m pres' val' := by
  cases m with
  | none => exact fun j hj => Classical.byCases (fun hp : pres j => by rw [(h1 j hp).2]; exact h j hp) (fun hp => h2 j hj hp)
  | some b =>
    obtain ⟨D, n, hown, hk⟩ := h
    exact ⟨D, n, hown, km_more hk h1 h2⟩
theorem fm_is {W : World} {m : Option Nat} {pres pres' : Nat → Prop} {val val' : Nat → Sec} (h : FM W m pres val) (h1 : ∀ j, pres j ↔ pres' j) (h2 : ∀ j, pres j → val' j = val j) : FM W m pres' val' :=
  fm_more h (fun j hj => ⟨(h1 j).1 hj, h2 j hj⟩) (fun j hj hn => absurd ((h1 j).2 hj) hn)
theorem fm_look {W : World} {m : Option Nat} {pres : Nat → Prop} {val : Nat → Sec} (h : FM W m pres val) {j : Nat} (hj : pres j) (hb : (j : Int) ≤ 9223372036854775807) (z : Int) (hz : z = j) :
    (Instr.lookup 64 (.map m) (.int .i64 z) false).run Try.prog W = .ok (secV (val j)) W := by
  subst hz
  cases m with
  | none =>
    rw [Maps.look_nil false keyed Try.underlying64 (zeroSec W) (key_int j (by omega) hb), h j hj]
    rfl
  | some b =>
    obtain ⟨D, n, hown, hk⟩ := h
    obtain ⟨v, ps, hrun, hv⟩ := hown.lookup keyed Try.underlying64 (zeroSec W) (zd := .held (secV zS)) (zp := []) rfl (key_int j (by omega) hb)
    rw [hk.2.2 j hj] at hv
    rw [hrun]
    have : v = secV (val j) := by
      generalize secV (val j) = u at hv ⊢
      simp only [heldR, Option.some.injEq, Prod.mk.injEq, DataW.held.injEq] at hv
      exact hv.1
    rw [this]
theorem fm_del {W : World} {m : Option Nat} {pres : Nat → Prop} {val : Nat → Sec} (h : FM W m pres val) (j : Nat) (hb : (j : Int) ≤ 9223372036854775807) (ty : TypeId) :
    ∃ W', (Builtin.delete_ #[64, 3] ty #[.map m, .int .i64 j]).run Try.prog W = .ok (.tuple #[]) W' ∧ FM W' m (fun k => pres k ∧ k ≠ j) val ∧ Fr (fun b => m = some b) W W' ∧ W'.heap.size = W.heap.size := by
  cases m with
  | none => exact ⟨W, Maps.drop_nil keyed Try.underlying64 (key_int j (by omega) hb) ty, fun k hk => h k hk.1, fr_refl _ _, rfl⟩
  | some b =>
    obtain ⟨D, n, hown, hk⟩ := h
    obtain ⟨W', hrun, hown', hT⟩ := hown.drop keyed Try.underlying64 (key_int j (by omega) hb) ty
    have hsz : W'.heap.size = W.heap.size := by
      obtain ⟨es, clock, es', clock', _, rfl⟩ := hT
      simp [Go.ChangeMaps.setBlock]
    exact ⟨W', hrun, ⟨_, n, hown', km_del hk j⟩, fr_grown (fr_refl _ _) hT.grown (fun z hz => .inl hz), hsz⟩
open Classical in
theorem fm_put {W : World} {b : Nat} {pres : Nat → Prop} {val : Nat → Sec} (h : FM W (some b) pres val) {N : Nat} (hp : ∀ j, pres j → j < N) (hN : N ≤ 100000) (i : Nat) (hi : (i : Int) ≤ 9223372036854775807) (s : Sec) :
    ∃ W', (Instr.mapUpdate 64 (.map (some b)) (.int .i64 i) (secV s)).run Try.prog W = .ok () W' ∧ FM W' (some b) (fun j => pres j ∨ j = i) (fun j => if j = i then s else val j) ∧ Fr (fun c => some b = some c) W W' ∧ W'.heap.size = W.heap.size := by
  obtain ⟨D, n, hown, hk⟩ := h
  have hs : Maps.size D ≤ N := by
    have hc := hown.canon keyed
    have hk2 : KM D (· < N) (fun j => if pres j then val j else zS) := km_more hk (fun j hj => ⟨hp j hj, if_pos hj⟩) (fun j _ hn => if_neg hn)
    exact km_size hc hk2
  obtain ⟨W', hrun, hown', hT⟩ := (owns_tight hown).store keyed Try.underlying64 (by unfold maxLen; omega) (key := .int .i64 i) (val := secV s) (key_int i (by omega) hi) (d := .held (secV s)) (ps := []) rfl
  have hsz : W'.heap.size = W.heap.size := by
    obtain ⟨es, clock, es', clock', _, rfl⟩ := hT
    simp [Go.ChangeMaps.setBlock]
  exact ⟨W', hrun, ⟨_, _, hown', km_put hk i s⟩, fr_grown (fr_refl _ _) hT.grown (fun z hz => .inl hz), hsz⟩
theorem fm_made (W : World) {pres : Nat → Prop} {val : Nat → Sec} (h : ∀ j, pres j → val j = zS) : FM (W.alloc (.map #[] 0)) (some W.heap.size) pres val :=
  ⟨_, _, World.ownsMap_made W Try.prog 3 heldR, km_empty h⟩
/-- a file's map: its sectors -/
def FL (W : World) (m : Option Nat) (l : Fl) : Prop := FM W m (· < l.length) (fun j => l.getD j zS)
end Go.Proofs.Ythipaabjmlgjmaa
namespace Go.Proofs.Ythipaabjmlgjmaa
open Go.RowKit Go Go.Maps
set_option linter.unusedVariables false
set_option linter.unusedSimpArgs false
/-- a change -/
structure Ch where
  file : Nat
  pl : Nat
  cut : Bool
  bytes : Sec
def SecOk (s : Sec) : Prop := s.length = 64 ∧ ∀ x ∈ s, x < 256
def ChOk (c : Ch) : Prop := c.file < 8 ∧ c.pl ≤ 8192 ∧ (c.cut = false → c.pl < 8192) ∧ SecOk c.bytes
def chL (c : Ch) : List Value := .int .i64 c.file :: .int .i64 c.pl :: .bool c.cut :: vals8 c.bytes
theorem chL_length {c : Ch} (h : ChOk c) : (chL c).length = 67 := by
  unfold chL
  simp [vals8_length, h.2.2.2.1]
theorem zS_ok : SecOk zS := ⟨by simp [zS], fun x hx => by simp [zS] at hx; omega⟩
/-- a sector is written to a file -/
def putS (l : Fl) (i : Nat) (s : Sec) : Fl := (l ++ List.replicate (i + 1 - l.length) zS).set i s
theorem putS_length (l : Fl) (i : Nat) (s : Sec) : (putS l i s).length = max l.length (i + 1) := by
  unfold putS; simp; omega
theorem putS_get (l : Fl) (i : Nat) (s : Sec) (j : Nat) : (putS l i s).getD j zS = if j = i then s else l.getD j zS := by
  unfold putS
  simp only [List.getD_eq_getElem?_getD]
  by_cases h : j = i
  · subst h
    rw [if_pos rfl, List.getElem?_set_self (by simp; omega)]
    rfl
  · rw [if_neg h, List.getElem?_set_ne (fun e => h e.symm)]
    by_cases h2 : j < l.length
    · rw [List.getElem?_append_left h2]
    · rw [List.getElem?_append_right (by omega), List.getElem?_eq_none (l := l) (by omega)]
      rw [List.getElem?_replicate]
      split <;> rfl
def doneF (l : Fl) (c : Ch) : Fl := if c.cut then l.take c.pl else putS l c.pl c.bytes
def FlOk (l : Fl) : Prop := l.length ≤ 8192 ∧ ∀ s ∈ l, SecOk s
theorem doneF_ok {l : Fl} {c : Ch} (h : FlOk l) (hc : ChOk c) : FlOk (doneF l c) := by
  unfold doneF
  cases hcut : c.cut with
  | true => exact ⟨by simp; have := h.1; omega, fun s hs => h.2 s (List.mem_of_mem_take hs)⟩
  | false =>
    have h1 := hc.2.2.1 hcut
    have h2 := h.1
    refine ⟨by simp [putS_length]; omega, fun s hs => ?_⟩
    rcases List.mem_or_eq_of_mem_set hs with h3 | h3
    · rcases List.mem_append.1 h3 with h4 | h4
      · exact h.2 s h4
      · rw [List.eq_of_mem_replicate h4]; exact zS_ok
    · rw [h3]; exact hc.2.2.2
/-- the disk: what its files are (0 to 7: now; 8 to 15: sure), what is loose, what is armed -/
structure Dk where
  fl : Nat → Fl
  loose : List Ch
  armed : Int → Int
  power : Int
  ops : Nat
  off : Bool
/-- where it lies -/
structure Mm where
  M : Nat → Option Nat
  ga : Nat
  A : Option Addr
  cap : Nat
def dkCell (d : Dk) (m : Mm) (j : Nat) : Value :=
  if j < 32 then (if j % 2 = 0 then .int .i64 ((d.fl (j / 2)).length : Nat) else .map (m.M (j / 2)))
  else if j = 32 then .slice m.A d.loose.length m.cap
  else if j = 33 then .map (some m.ga)
  else if j = 34 then .int .i64 d.power
  else if j = 35 then .int .i64 d.ops
  else .bool d.off
def dkA (d : Dk) (m : Mm) : Array Value := ((List.range 37).map (dkCell d m)).toArray
theorem dkA_get (d : Dk) (m : Mm) {j : Nat} (h : j < 37) : (dkA d m)[j]? = some (dkCell d m j) := by
  simp [dkA, h]
theorem dkA_set {d d' : Dk} {m m' : Mm} (j : Nat) (v : Value) (h : ∀ k, k < 37 → dkCell d' m' k = if k = j then v else dkCell d m k) : (dkA d m).setIfInBounds j v = dkA d' m' := by
  unfold dkA
  rw [List.setIfInBounds_toArray]
  congr 1
  apply List.ext_getElem?
  intro k
  rw [List.getElem?_set]
  simp only [List.length_map, List.length_range, List.getElem?_map]
  by_cases hk : k < 37
  · rw [List.getElem?_range hk]
    by_cases e : j = k
    · subst e; simp [hk, h j hk]
    · have e' : ¬ k = j := fun e2 => e e2.symm
      simp [e, h k hk, e']
  · rw [List.getElem?_eq_none (l := List.range 37) (by simp; omega)]
    by_cases e : j = k
    · subst e; simp [hk]
    · simp [e]
theorem cell_len (d : Dk) (m : Mm) {i : Nat} (h : i < 16) : dkCell d m (2 * i) = .int .i64 ((d.fl i).length : Nat) := by
  unfold dkCell
  rw [if_pos (by omega), if_pos (by omega), show 2 * i / 2 = i by omega]
theorem cell_map (d : Dk) (m : Mm) {i : Nat} (h : i < 16) : dkCell d m (2 * i + 1) = .map (m.M i) := by
  unfold dkCell
  rw [if_pos (by omega), if_neg (by omega), show (2 * i + 1) / 2 = i by omega]
/-- the loose changes' cells -/
def chsL (l : List Ch) : List Value := l.flatMap chL
structure DkAt (W : World) (S : Nat → Prop) (g : Nat) (m : Mm) (d : Dk) (N : Nat) : Prop where
  blk : Blk W g 70 (dkA d m)
  fl : ∀ i, i < 16 → FL W (m.M i) (d.fl i)
  ok : ∀ i, i < 16 → FlOk (d.fl i)
  ap : ∀ i j, i < 16 → j < 16 → i ≠ j → ∀ b, m.M i = some b → m.M j ≠ some b
  arm : ∃ D n, n ≤ N ∧ W.ownsMap (H := Value) Try.prog 3 (plainElem Try.prog 25) m.ga n D ∧ ∀ k : Int, D.atKey (ki k) (.lit (.int .i64 0)) = .lit (.int .i64 (d.armed k))
  ga : ∀ i, i < 16 → m.M i ≠ some m.ga
  loo : W.ownsRow 0 99 67 (.slice m.A d.loose.length m.cap) d.loose.length (chsL d.loose)
  chs : ∀ c ∈ d.loose, ChOk c
  ng : ∀ z, (Value.slice m.A d.loose.length m.cap).ownBlock = some z → z ≠ g
  sg : S g
  sm : ∀ i, i < 16 → ∀ b, m.M i = some b → S b
  sa : S m.ga
  sl : ∀ z, (Value.slice m.A d.loose.length m.cap).ownBlock = some z → S z
  lt : ∀ b, S b → b < W.heap.size
  cN : d.ops ≤ N ∧ d.loose.length ≤ 8192 * N ∧ N ≤ 1000000
  pw : -1 ≤ d.power ∧ d.power ≤ 2000000000000
def DkS (W : World) (S : Nat → Prop) (g : Nat) (d : Dk) (N : Nat) : Prop := ∃ m, DkAt W S g m d N
/-- what a call on the disk leaves -/
def DkR (w : World) (S : Nat → Prop) (g : Nat) (d : Dk) (N : Nat) (w' : World) : Prop := ∃ S', DkS w' S' g d N ∧ Fr S w w' ∧ ∀ b, S' b → S b ∨ w.heap.size ≤ b
theorem own_block {W W' : World} {base : Nat} {e : TypeId} {size : Nat} {v : Value} {n : Nat} {xs : List Value} (h : W.ownsRow base e size v n xs) (hb : ∀ z, v.ownBlock = some z → W'.heap[z]? = W.heap[z]?) : W'.ownsRow base e size v n xs := by
  refine ⟨h.1, ?_⟩
  rcases h.2 with hn | ⟨g, cap, cur, hv, hg, hh, rest⟩
  · exact .inl hn
  · exact .inr ⟨g, cap, cur, hv, hg, (hb g (by rw [hv]; rfl)).trans hh, rest⟩
theorem arm_block {W W' : World} {b n : Nat} {R : Value → Option (DataW Value × List MemPlace)} {D : DataW Value} (h : W.ownsMap Try.prog 3 R b n D) (hb : W'.heap[b]? = W.heap[b]?) : W'.ownsMap Try.prog 3 R b n D := by
  obtain ⟨es, clock, h1, F, hs, hD⟩ := h
  exact ⟨es, clock, hb.trans h1, F, hs, hD⟩
theorem dkAt_keep {W W' : World} {S T : Nat → Prop} {g : Nat} {m : Mm} {d : Dk} {N : Nat} (h : DkAt W S g m d N) (hf : Fr T W W') (hd : ∀ b, S b → ¬ T b) : DkAt W' S g m d N := by
  have hb : ∀ b, S b → W'.heap[b]? = W.heap[b]? := fun b hs => hf.block b (h.lt b hs) (hd b hs)
  obtain ⟨D, n, hn, ho, hk⟩ := h.arm
  exact { h with
    blk := (hb g h.sg).trans h.blk
    fl := fun i hi => fm_keep (h.fl i hi) (fun b e => hb b (h.sm i hi b e))
    arm := ⟨D, n, hn, arm_block ho (hb _ h.sa), hk⟩
    loo := own_block h.loo (fun z hz => hb z (h.sl z hz))
    lt := fun b hs => Nat.lt_of_lt_of_le (h.lt b hs) hf.size }
theorem dkS_keep {W W' : World} {S T : Nat → Prop} {g : Nat} {d : Dk} {N : Nat} (h : DkS W S g d N) (hf : Fr T W W') (hd : ∀ b, S b → ¬ T b) : DkS W' S g d N := by
  obtain ⟨m, hm⟩ := h
  exact ⟨m, dkAt_keep hm hf hd⟩
theorem dkAt_below {W W' : World} {S : Nat → Prop} {g : Nat} {m : Mm} {d : Dk} {N : Nat} (h : DkAt W S g m d N) (hb : Below W.heap.size W W') : DkAt W' S g m d N := dkAt_keep (T := fun _ => False) h (fr_of hb) (fun _ _ h => h)
theorem dkS_below {W W' : World} {S : Nat → Prop} {g : Nat} {d : Dk} {N : Nat} (h : DkS W S g d N) (hb : Below W.heap.size W W') : DkS W' S g d N := dkS_keep (T := fun _ => False) h (fr_of hb) (fun _ _ h => h)
theorem dkAt_m_g {W : World} {S : Nat → Prop} {g : Nat} {m : Mm} {d : Dk} {N : Nat} (h : DkAt W S g m d N) {i : Nat} (hi : i < 16) : m.M i ≠ some g := fun e => by
  have h1 := h.fl i hi
  rw [e] at h1
  obtain ⟨D, n, ⟨es, clock, hb, _⟩, _⟩ := h1
  have := h.blk
  unfold Blk at this
  rw [this] at hb
  cases hb
theorem dkAt_m_l {W : World} {S : Nat → Prop} {g : Nat} {m : Mm} {d : Dk} {N : Nat} (h : DkAt W S g m d N) {i z : Nat} (hi : i < 16) (hz : (Value.slice m.A d.loose.length m.cap).ownBlock = some z) : m.M i ≠ some z := fun e => by
  have h1 := h.fl i hi
  rw [e] at h1
  obtain ⟨D, n, ⟨es, clock, hb, _⟩, _⟩ := h1
  rcases h.loo.2 with ⟨hn, _⟩ | ⟨g', cap, cur, hv, _, hg, _⟩
  · rw [hn] at hz; cases hz
  · rw [hv] at hz
    injection hz with hz
    subst hz
    rw [hg] at hb
    cases hb
def Dk.setF (d : Dk) (i : Nat) (l : Fl) : Dk := { d with fl := fun j => if j = i then l else d.fl j }
def Mm.setM (m : Mm) (i : Nat) (b : Option Nat) : Mm := { m with M := fun j => if j = i then b else m.M j }
theorem dkAt_ga {W : World} {S : Nat → Prop} {g : Nat} {m : Mm} {d : Dk} {N : Nat} (h : DkAt W S g m d N) : m.ga ≠ g := fun e => by
  obtain ⟨D, n, _, ⟨es, clock, hb, _⟩, _⟩ := h.arm
  have := h.blk
  unfold Blk at this
  rw [e, this] at hb
  cases hb
theorem setF_same (d : Dk) (i : Nat) (l : Fl) : (d.setF i l).fl i = l := if_pos rfl
theorem setF_other (d : Dk) {i j : Nat} (l : Fl) (h : j ≠ i) : (d.setF i l).fl j = d.fl j := if_neg h
theorem setM_same (m : Mm) (i : Nat) (b : Option Nat) : (m.setM i b).M i = b := if_pos rfl
theorem setM_other (m : Mm) {i j : Nat} (b : Option Nat) (h : j ≠ i) : (m.setM i b).M j = m.M j := if_neg h
/-- the file i is another list, its map another one -/
theorem dkAt_file {W W' : World} {S : Nat → Prop} {g : Nat} {m : Mm} {d : Dk} {N : Nat} (h : DkAt W S g m d N) {i : Nat} (hi : i < 16) (l' : Fl) (b' : Option Nat)
    (hblk : Blk W' g 70 (dkA (d.setF i l') (m.setM i b'))) (hfl : FL W' b' l') (hok : FlOk l')
    (hf : Fr (fun b => b = g ∨ m.M i = some b) W W') (hnew : ∀ b, b' = some b → m.M i = some b ∨ W.heap.size ≤ b) : DkAt W' (fun b => S b ∨ b' = some b) g (m.setM i b') (d.setF i l') N := by
  have hb : ∀ b, S b → b ≠ g → m.M i ≠ some b → W'.heap[b]? = W.heap[b]? := fun b hs h1 h2 => hf.block b (h.lt b hs) (fun h3 => by rcases h3 with h3 | h3; exact h1 h3; exact h2 h3)
  obtain ⟨D, n, hn, ho, hk⟩ := h.arm
  refine ⟨hblk, fun j hj => ?_, fun j hj => ?_, fun a c ha hc hac z hz => ?_, ?_, fun j hj => ?_, ?_, h.chs, h.ng, .inl h.sg, fun j hj b e => ?_, .inl h.sa, fun z hz => .inl (h.sl z hz), fun b hs => ?_, h.cN, h.pw⟩
  · by_cases e : j = i
    · subst e; rw [setM_same, setF_same]; exact hfl
    · rw [setM_other _ _ e, setF_other _ _ e]
      exact fm_keep (h.fl j hj) (fun b hb2 => hb b (h.sm j hj b hb2) (fun e2 => dkAt_m_g h hj (by rw [hb2, e2])) (fun e2 => h.ap i j hi hj (fun e3 => e e3.symm) b e2 hb2))
  · by_cases e : j = i
    · subst e; rw [setF_same]; exact hok
    · rw [setF_other _ _ e]; exact h.ok j hj
  · by_cases e : a = i
    · subst e
      rw [setM_same] at hz
      rw [setM_other _ _ (fun e2 => hac e2.symm)]
      intro h2
      rcases hnew z hz with h3 | h3
      · exact h.ap a c ha hc hac z h3 h2
      · have := h.lt z (h.sm c hc z h2); omega
    · rw [setM_other _ _ e] at hz
      by_cases e2 : c = i
      · subst e2
        rw [setM_same]
        intro h2
        rcases hnew z h2 with h3 | h3
        · exact h.ap a c ha hc hac z hz h3
        · have := h.lt z (h.sm a ha z hz); omega
      · rw [setM_other _ _ e2]
        exact h.ap a c ha hc hac z hz
  · exact ⟨D, n, hn, arm_block ho (hb m.ga h.sa (dkAt_ga h) (h.ga i hi)), hk⟩
  · by_cases e : j = i
    · subst e
      rw [setM_same]
      intro h2
      rcases hnew _ h2 with h3 | h3
      · exact h.ga j hj h3
      · have := h.lt _ h.sa
        have h4 : (m.setM j b').ga = m.ga := rfl
        rw [h4] at h3
        omega
    · rw [setM_other _ _ e]; exact h.ga j hj
  · exact own_block h.loo (fun z hz => hb z (h.sl z hz) (h.ng z hz) (dkAt_m_l h hi hz))
  · by_cases e2 : j = i
    · subst e2; rw [setM_same] at e; exact .inr e
    · rw [setM_other _ _ e2] at e; exact .inl (h.sm j hj b e)
  · rcases hs with hs | hs
    · exact Nat.lt_of_lt_of_le (h.lt b hs) hf.size
    · rw [hs] at hfl; exact fm_lt hfl
theorem dkA_len (d : Dk) (m : Mm) {i : Nat} (hi : i < 16) (l' : Fl) (v : Value) (hv : v = .int .i64 (l'.length : Nat)) : (dkA d m).setIfInBounds (2 * i) v = dkA (d.setF i l') m := by
  subst hv
  refine dkA_set _ _ fun k hk => ?_
  by_cases e : k = 2 * i
  · subst e; rw [if_pos rfl, cell_len _ _ hi, setF_same]
  · rw [if_neg e]
    unfold dkCell
    by_cases h1 : k < 32
    · rw [if_pos h1, if_pos h1]
      by_cases h2 : k % 2 = 0
      · rw [if_pos h2, if_pos h2, setF_other _ _ (by omega)]
      · rw [if_neg h2, if_neg h2]
    · rw [if_neg h1, if_neg h1]; rfl
theorem dkA_map (d : Dk) (m : Mm) {i : Nat} (hi : i < 16) (b' : Option Nat) : (dkA d m).setIfInBounds (2 * i + 1) (.map b') = dkA d (m.setM i b') := by
  refine dkA_set _ _ fun k hk => ?_
  by_cases e : k = 2 * i + 1
  · subst e; rw [if_pos rfl, cell_map _ _ hi, setM_same]
  · rw [if_neg e]
    unfold dkCell
    by_cases h1 : k < 32
    · rw [if_pos h1, if_pos h1]
      by_cases h2 : k % 2 = 0
      · rw [if_pos h2, if_pos h2]
      · rw [if_neg h2, if_neg h2, setM_other _ _ (by omega)]
    · rw [if_neg h1, if_neg h1]; rfl
theorem setM_id (m : Mm) (i : Nat) : m.setM i (m.M i) = m := by
  unfold Mm.setM
  congr 1
  funext j
  split
  · rename_i e; rw [e]
  · rfl
end Go.Proofs.Ythipaabjmlgjmaa
