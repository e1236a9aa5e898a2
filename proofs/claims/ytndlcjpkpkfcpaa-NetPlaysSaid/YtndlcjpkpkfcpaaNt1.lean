/- Letters by their numbers: plain mathematics of lists, and of the map that holds them. Nothing of the program is named here. Conditions: those of each lemma. -/
import Derived.Maps.OwnSet
import Derived.Maps.OwnOps
import Derived.Maps.Views
import Derived.Lib.SlKeysI
namespace Go.Proofs.Ytndlcjpkpkfcpaa
open Go.RowKit Go
set_option linter.unusedVariables false
set_option linter.unusedSimpArgs false
/-- a letter -/
structure Lt where
  id : Int
  fr : Int
  to : Int
  bytes : ByteArray
  sp : Bool
abbrev ltC (x : Lt) : Array Value := #[.int .i64 x.id, .int .i64 x.fr, .int .i64 x.to, .string x.bytes, .bool x.sp]
abbrev ltV (x : Lt) : Value := .agg #[.int .i64 x.id, .int .i64 x.fr, .int .i64 x.to, .string x.bytes, .bool x.sp]
/-- each element of the map is held as it is -/
def heldR (v : Value) : Option (DataW Value × List MemPlace) := some (.held v, [])
def mapOf (L : List Lt) : DataW Value := .map (L.map fun x => (Lit.int .i64 x.id, DataW.held (ltV x)))
theorem same_key (a b : Int) : (Lit.int .i64 a).sameKey (.int .i64 b) = decide (a = b) := by simp [Lit.sameKey]
theorem before_key (a b : Int) : (Lit.int .i64 a).before (.int .i64 b) = decide (a < b) := rfl
theorem map_size (L : List Lt) : Maps.size (mapOf L) = L.length := by simp [mapOf, Maps.size]
theorem map_keys (L : List Lt) : Go.intKeys (mapOf L) = L.map (·.id) := by simp [mapOf, Go.intKeys, Go.intOf]
theorem map_has (L : List Lt) (k : Int) : Maps.has (mapOf L) (.int .i64 k) = L.any (fun x => decide (x.id = k)) := by
  simp only [mapOf, Maps.has, List.any_map]
  congr 1
  funext x
  exact same_key _ _
theorem map_at (L : List Lt) (k : Int) (z : DataW Value) : (mapOf L).atKey (.int .i64 k) z = match L.find? (fun x => decide (x.id = k)) with | some x => .held (ltV x) | none => z := by
  induction L with
  | nil => rfl
  | cons a L ih =>
    simp only [mapOf, DataW.atKey, List.map_cons, List.find?_cons, same_key] at ih ⊢
    by_cases h : a.id = k
    · simp [h]
    · simp only [h, decide_false]
      exact ih
theorem map_del (L : List Lt) (k : Int) : (mapOf L).del (.int .i64 k) = mapOf (L.filter fun x => decide (x.id ≠ k)) := by
  simp only [mapOf, DataW.del, List.filter_map]
  congr 2
  apply List.filter_congr
  intro x _
  simp [same_key, Function.comp]
theorem insert_last (a : Lt) : ∀ L : List Lt, (∀ x ∈ L, x.id < a.id) → DataW.insert (Lit.int .i64 a.id, DataW.held (ltV a)) (L.map fun x => (Lit.int .i64 x.id, DataW.held (ltV x))) = (L ++ [a]).map fun x => (Lit.int .i64 x.id, DataW.held (ltV x))
  | [], _ => rfl
  | b :: L, h => by
    have hb := h b (List.mem_cons_self ..)
    rw [List.map_cons, DataW.insert, before_key, if_neg (by simp; omega), insert_last a L (fun x hx => h x (List.mem_cons_of_mem _ hx))]
    rfl
theorem map_put_new (L : List Lt) (a : Lt) (h : ∀ x ∈ L, x.id < a.id) : (mapOf L).put (.int .i64 a.id) (.held (ltV a)) = mapOf (L ++ [a]) := by
  have e : (L.map fun x => (Lit.int .i64 x.id, DataW.held (ltV x))).filter (fun p => !p.1.sameKey (.int .i64 a.id)) = L.map fun x => (Lit.int .i64 x.id, DataW.held (ltV x)) := by
    rw [List.filter_eq_self]
    intro p hp
    obtain ⟨x, hx, rfl⟩ := List.mem_map.1 hp
    have := h x hx
    simp [same_key]
    omega
  show DataW.map (DataW.insert _ (List.filter _ _)) = _
  rw [e, insert_last a L h]
  rfl
/-- rising numbers -/
def Up (L : List Lt) : Prop := L.Pairwise fun x y => x.id < y.id
def setLt (L : List Lt) (k : Int) (a : Lt) : List Lt := L.map fun x => if x.id = k then a else x
theorem insert_mid (a : Lt) : ∀ L : List Lt, Up L → L.any (fun x => decide (x.id = a.id)) = true → DataW.insert (Lit.int .i64 a.id, DataW.held (ltV a)) ((L.map fun x => (Lit.int .i64 x.id, DataW.held (ltV x))).filter (fun p => !p.1.sameKey (.int .i64 a.id))) = (setLt L a.id a).map fun x => (Lit.int .i64 x.id, DataW.held (ltV x))
  | [], _, h => by simp at h
  | b :: L, hu, h => by
    obtain ⟨hb, hu'⟩ := List.pairwise_cons.1 hu
    by_cases e : b.id = a.id
    · have hf : (L.map fun x => (Lit.int .i64 x.id, DataW.held (ltV x))).filter (fun p => !p.1.sameKey (.int .i64 a.id)) = L.map fun x => (Lit.int .i64 x.id, DataW.held (ltV x)) := by
        rw [List.filter_eq_self]
        intro p hp
        obtain ⟨x, hx, rfl⟩ := List.mem_map.1 hp
        have := hb x hx
        simp [same_key]
        omega
      have hp : setLt L a.id a = L := by
        unfold setLt
        conv => rhs; rw [← List.map_id L]
        apply List.map_congr_left
        intro x hx
        have := hb x hx
        rw [if_neg (by omega)]
        rfl
      rw [List.map_cons, List.filter_cons_of_neg (by simp [same_key, e]), hf]
      have e2 : setLt (b :: L) a.id a = a :: L := by
        show (if b.id = a.id then a else b) :: setLt L a.id a = _
        rw [if_pos e, hp]
      rw [e2, List.map_cons]
      cases L with
      | nil => rfl
      | cons c L =>
        have := hb c (List.mem_cons_self ..)
        rw [List.map_cons, DataW.insert, before_key, if_pos (by simp; omega)]
    · rw [List.any_cons, decide_eq_false e, Bool.false_or] at h
      obtain ⟨c, hc, hce⟩ := List.any_eq_true.1 h
      have hlt := hb c hc
      have hce' : c.id = a.id := by simpa using hce
      have e2 : setLt (b :: L) a.id a = b :: setLt L a.id a := by
        show (if b.id = a.id then a else b) :: setLt L a.id a = _
        rw [if_neg e]
      rw [List.map_cons, List.filter_cons_of_pos (by simp [same_key, e]), DataW.insert, before_key, if_neg (by simp; omega), insert_mid a L hu' h, e2]
      rfl
theorem map_put_old (L : List Lt) (a : Lt) (hu : Up L) (h : L.any (fun x => decide (x.id = a.id)) = true) : (mapOf L).put (.int .i64 a.id) (.held (ltV a)) = mapOf (setLt L a.id a) := by
  show DataW.map (DataW.insert _ (List.filter _ _)) = _
  rw [insert_mid a L hu h]
  rfl
theorem up_snoc {L : List Lt} {a : Lt} (hu : Up L) (h : ∀ x ∈ L, x.id < a.id) : Up (L ++ [a]) := by
  unfold Up
  rw [List.pairwise_append]
  exact ⟨hu, List.pairwise_singleton _ _, fun x hx y hy => by rw [List.mem_singleton.1 hy]; exact h x hx⟩
theorem up_filter {L : List Lt} (hu : Up L) (f : Lt → Bool) : Up (L.filter f) := hu.sublist List.filter_sublist
theorem up_put {L : List Lt} (hu : Up L) (a : Lt) : Up (setLt L a.id a) := by
  unfold Up setLt
  rw [List.pairwise_map]
  refine hu.imp ?_
  intro x y hxy
  by_cases h1 : x.id = a.id
  · rw [if_pos h1]
    by_cases h2 : y.id = a.id
    · omega
    · rw [if_neg h2]; omega
  · rw [if_neg h1]
    by_cases h2 : y.id = a.id
    · rw [if_pos h2]; omega
    · rw [if_neg h2]; exact hxy
theorem keys_sorted {L : List Lt} (hu : Up L) {ss : List Int} (h : ss.Perm (L.map (·.id))) : ss.mergeSort (fun x y => decide (x ≤ y)) = L.map (·.id) := by
  have h1 : (ss.mergeSort (fun x y => decide (x ≤ y))).Perm (L.map (·.id)) := (List.mergeSort_perm _ _).trans h
  have h2 : (ss.mergeSort (fun x y => decide (x ≤ y))).Pairwise (fun x y => x ≤ y) := by
    have := List.pairwise_mergeSort (le := fun x y : Int => decide (x ≤ y)) (fun a b c => by simp; omega) (fun a b => by simp; omega) ss
    simpa using this
  have h3 : (L.map (·.id)).Pairwise (fun x y => x ≤ y) := by
    rw [List.pairwise_map]
    exact hu.imp (fun h => by omega)
  exact h1.eq_of_pairwise (fun a b _ _ h1 h2 => by omega) h2 h3
end Go.Proofs.Ytndlcjpkpkfcpaa
