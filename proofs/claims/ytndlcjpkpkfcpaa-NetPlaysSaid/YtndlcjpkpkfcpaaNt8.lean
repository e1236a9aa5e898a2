/- What was sent, by its numbers; letters that differ in one byte: plain mathematics. Nothing of the program is named here. Conditions: those of each lemma. -/
import Derived.Test.YtndlcjpkpkfcpaaNt1
import Derived.Test.YtndlcjpkpkfcpaaNumMath
import Derived.Test.YtndlcjpkpkfcpaaWords
namespace Go.Proofs.Ytndlcjpkpkfcpaa
open Go.RowKit Go Go.Maps
set_option linter.unusedVariables false
set_option linter.unusedSimpArgs false
/-- what was sent: numbers, and letters -/
def mapE (es : List (Int × Lt)) : DataW Value := .map (es.map fun x => (Lit.int .i64 x.1, DataW.held (ltV x.2)))
theorem mape_size (es : List (Int × Lt)) : Maps.size (mapE es) = es.length := by simp [mapE, Maps.size]
def getE (es : List (Int × Lt)) (k : Int) : Option Lt := (es.find? (fun x => decide (x.1 = k))).map (·.2)
theorem mape_has (es : List (Int × Lt)) (k : Int) : Maps.has (mapE es) (.int .i64 k) = (getE es k).isSome := by
  induction es with
  | nil => rfl
  | cons a L ih =>
    simp only [mapE, Maps.has, getE, List.map_cons, List.any_cons, List.find?_cons, same_key] at ih ⊢
    by_cases h : a.1 = k
    · simp [h]
    · simp only [h, decide_false, Bool.false_or]
      exact ih
theorem mape_at (es : List (Int × Lt)) (k : Int) (z : DataW Value) : (mapE es).atKey (.int .i64 k) z = match getE es k with | some x => .held (ltV x) | none => z := by
  induction es with
  | nil => rfl
  | cons a L ih =>
    simp only [mapE, DataW.atKey, getE, List.map_cons, List.find?_cons, same_key] at ih ⊢
    by_cases h : a.1 = k
    · simp [h]
    · simp only [h, decide_false]
      exact ih
theorem inserte_last (k : Int) (a : Lt) : ∀ es : List (Int × Lt), (∀ x ∈ es, x.1 < k) → DataW.insert (Lit.int .i64 k, DataW.held (ltV a)) (es.map fun x => (Lit.int .i64 x.1, DataW.held (ltV x.2))) = (es ++ [(k, a)]).map fun x => (Lit.int .i64 x.1, DataW.held (ltV x.2))
  | [], _ => rfl
  | b :: L, h => by
    have hb := h b (List.mem_cons_self ..)
    rw [List.map_cons, DataW.insert, before_key, if_neg (by simp; omega), inserte_last k a L (fun x hx => h x (List.mem_cons_of_mem _ hx))]
    rfl
theorem mape_put (es : List (Int × Lt)) (k : Int) (a : Lt) (h : ∀ x ∈ es, x.1 < k) : (mapE es).put (.int .i64 k) (.held (ltV a)) = mapE (es ++ [(k, a)]) := by
  have e : (es.map fun x => (Lit.int .i64 x.1, DataW.held (ltV x.2))).filter (fun p => !p.1.sameKey (.int .i64 k)) = es.map fun x => (Lit.int .i64 x.1, DataW.held (ltV x.2)) := by
    rw [List.filter_eq_self]
    intro p hp
    obtain ⟨x, hx, rfl⟩ := List.mem_map.1 hp
    have := h x hx
    simp [same_key]
    omega
  show DataW.map (DataW.insert _ (List.filter _ _)) = _
  rw [e, inserte_last k a es h]
  rfl
/-- at how many places two texts differ, ahead of one -/
def diffN (a b : ByteArray) : Nat → Nat
  | 0 => 0
  | n + 1 => diffN a b n + (if (bts b).getD n 0 = (bts a).getD n 0 then 0 else 1)
theorem diff_self (a : ByteArray) : ∀ n, diffN a a n = 0
  | 0 => rfl
  | n + 1 => by rw [diffN, diff_self a n, if_pos rfl]
/-- one letter told by another one: the same but for one byte, if it is spoilt -/
def Near (o x : Lt) : Prop := o.fr = x.fr ∧ o.to = x.to ∧ o.bytes.size = x.bytes.size ∧ diffN o.bytes x.bytes x.bytes.size = (if x.sp = true then 1 else 0) ∧ (x.sp = false → o.bytes = x.bytes)
/-- the net, what was sent, how many came -/
def Inv (L : List Lt) (N : Int) (es : List (Int × Lt)) (came : Int) : Prop := (∀ x ∈ es, x.1 ≤ N) ∧ (es.length : Int) = N ∧ came + L.length = N ∧ 0 ≤ came ∧ (∀ x ∈ L, x.bytes.size ≤ 262144 ∧ ∃ o, getE es x.id = some o ∧ Near o x)
theorem getE_old {es : List (Int × Lt)} {k : Int} {o : Lt} (h : getE es k = some o) (k' : Int) (a : Lt) : getE (es ++ [(k', a)]) k = some o := by
  unfold getE at h ⊢
  rw [List.find?_append]
  cases hf : es.find? (fun x => decide (x.1 = k)) with
  | none => rw [hf] at h; cases h
  | some y => rw [hf] at h; exact h
theorem getE_new {es : List (Int × Lt)} {k : Int} (a : Lt) (h : ∀ x ∈ es, x.1 < k) : getE (es ++ [(k, a)]) k = some a := by
  unfold getE
  rw [List.find?_append, List.find?_eq_none.2 (fun x hx => by have := h x hx; simp; omega)]
  simp
theorem inv_new {L : List Lt} {N : Int} {es : List (Int × Lt)} {came : Int} (h : Inv L N es came) (x : Lt) (o : Lt) (hx : x.id = N + 1) (hs : x.bytes.size ≤ 262144) (hn : Near o x) : Inv (L ++ [x]) (N + 1) (es ++ [(N + 1, o)]) came := by
  obtain ⟨h1, h2, h3, h4, h5⟩ := h
  refine ⟨fun y hy => ?_, by simp; omega, by simp; omega, h4, fun y hy => ?_⟩
  · rcases List.mem_append.1 hy with hy | hy
    · have := h1 y hy; omega
    · rw [List.mem_singleton.1 hy]; exact Int.le_refl _
  · rcases List.mem_append.1 hy with hy | hy
    · obtain ⟨g1, o', g2, g3⟩ := h5 y hy
      exact ⟨g1, o', getE_old g2 _ _, g3⟩
    · rw [List.mem_singleton.1 hy, hx]
      exact ⟨hs, o, getE_new o (fun z hz => by have := h1 z hz; omega), hn⟩
theorem filter_len {L : List Lt} {k : Int} (hu : Up L) (h : ∃ x ∈ L, x.id = k) : (L.filter fun x => decide (x.id ≠ k)).length + 1 = L.length := by
  induction L with
  | nil => obtain ⟨x, hx, _⟩ := h; cases hx
  | cons a L ih =>
    obtain ⟨ha, hu'⟩ := List.pairwise_cons.1 hu
    by_cases e : a.id = k
    · rw [List.filter_cons_of_neg (by simp [e]), List.filter_eq_self.2 (fun x hx => by have := ha x hx; simp; omega)]
      rfl
    · obtain ⟨x, hx, hk⟩ := h
      rw [List.filter_cons_of_pos (by simp [e])]
      rcases List.mem_cons.1 hx with rfl | hx
      · exact absurd hk e
      · have := ih hu' ⟨x, hx, hk⟩
        simp only [List.length_cons]
        omega
theorem inv_drop {L : List Lt} {N : Int} {es : List (Int × Lt)} {came : Int} (h : Inv L N es came) (hu : Up L) {k : Int} (hk : ∃ x ∈ L, x.id = k) : Inv (L.filter fun x => decide (x.id ≠ k)) N es (came + 1) := by
  obtain ⟨h1, h2, h3, h4, h5⟩ := h
  have := filter_len hu hk
  exact ⟨h1, h2, by omega, by omega, fun x hx => h5 x (List.mem_filter.1 hx).1⟩
theorem diff_one {b b' : ByteArray} {p c : Nat} (h : ∀ j, (bts b').getD j 0 = if j = p then c else (bts b).getD j 0) (hc : c ≠ (bts b).getD p 0) : ∀ n, diffN b b' n = if p < n then 1 else 0
  | 0 => rfl
  | n + 1 => by
    rw [diffN, diff_one h hc n, h n]
    by_cases e : n = p
    · subst e
      rw [if_pos rfl, if_neg hc, if_neg (by omega), if_pos (by omega)]
    · rw [if_neg e, if_pos rfl]
      by_cases g : p < n
      · rw [if_pos g, if_pos (by omega)]
      · rw [if_neg g, if_neg (by omega)]
end Go.Proofs.Ytndlcjpkpkfcpaa
