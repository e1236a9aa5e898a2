/- Plain mathematics: texts that differ in one block alone have unlike sums. Conditions: those of each lemma. -/
import Derived.Test.YthipaabjmlgjmaaSum
namespace Go.Proofs.Ythipaabjmlgjmaa
theorem stepA_same {p : Int × Int} {L M : List Nat} {k : Nat} (h1 : wd L (8 * k) = wd M (8 * k)) (h2 : wd L (8 * k + 4) = wd M (8 * k + 4)) : stepA p L k = stepA p M k := by
  unfold stepA; rw [h1, h2]
theorem stepB_same {p : Int × Int} {L M : List Nat} {k : Nat} (h1 : wd L (8 * k) = wd M (8 * k)) (h2 : wd L (8 * k + 4) = wd M (8 * k + 4)) : stepB p L k = stepB p M k := by
  unfold stepB; rw [h1, h2]
theorem stepA_words {p : Int × Int} {L M : List Nat} {k : Nat} (hp : Fit p) (a1 : wd L (8 * k) < 4294967296) (a2 : wd L (8 * k + 4) < 4294967296) (b1 : wd M (8 * k) < 4294967296) (b2 : wd M (8 * k + 4) < 4294967296)
    (h : stepA p L k = stepA p M k) : wd L (8 * k) = wd M (8 * k) ∧ wd L (8 * k + 4) = wd M (8 * k + 4) := by
  obtain ⟨a, b⟩ := p
  unfold Fit at hp
  simp only [stepA, addA, addB, Prod.mk.injEq] at h hp
  generalize wd L (8 * k) = x at *
  generalize wd M (8 * k) = x' at *
  generalize wd L (8 * k + 4) = y at *
  generalize wd M (8 * k + 4) = y' at *
  omega
def Near (L M : List Nat) (k0 : Nat) : Prop := ∀ i, i < 8 * k0 ∨ 8 * k0 + 8 ≤ i → L.getD i 0 = M.getD i 0
theorem near_words {L M : List Nat} {k0 k : Nat} (h : Near L M k0) (hk : k ≠ k0) : wd L (8 * k) = wd M (8 * k) ∧ wd L (8 * k + 4) = wd M (8 * k + 4) := by
  have g : ∀ j, j < 8 → L.getD (8 * k + j) 0 = M.getD (8 * k + j) 0 := fun j hj => h _ (by omega)
  unfold wd
  have g0 := g 0 (by omega)
  have g1 := g 1 (by omega)
  have g2 := g 2 (by omega)
  have g3 := g 3 (by omega)
  have g4 := g 4 (by omega)
  have g5 := g 5 (by omega)
  have g6 := g 6 (by omega)
  have g7 := g 7 (by omega)
  simp only [Nat.add_zero, Nat.add_assoc] at *
  rw [g0, g1, g2, g3, g4, g5, g6, g7]
  exact ⟨rfl, rfl⟩
theorem addN_ahead {L M : List Nat} {k0 : Nat} (h : Near L M k0) (p : Int × Int) : ∀ k, k ≤ k0 → addN L k p = addN M k p
  | 0, _ => rfl
  | k + 1, hk => by
    obtain ⟨e1, e2⟩ := near_words h (k := k) (by omega)
    show stepA (addN L k p) L k = stepA (addN M k p) M k
    rw [addN_ahead h p k (by omega), stepA_same e1 e2]
theorem addN_behind {L M : List Nat} {k0 : Nat} (h : Near L M k0) (p : Int × Int) (hp : Fit p) : ∀ j, addN L (k0 + 1 + j) p = addN M (k0 + 1 + j) p ↔ addN L (k0 + 1) p = addN M (k0 + 1) p
  | 0 => Iff.rfl
  | j + 1 => by
    obtain ⟨e1, e2⟩ := near_words h (k := k0 + 1 + j) (by omega)
    rw [← addN_behind h p hp j]
    show stepA (addN L (k0 + 1 + j) p) L (k0 + 1 + j) = stepA (addN M (k0 + 1 + j) p) M (k0 + 1 + j) ↔ _
    constructor
    · intro he
      have h1 := back_add_step (addN L (k0 + 1 + j) p) L (k0 + 1 + j) (fit_addN hp _)
      have h2 := back_add_step (addN M (k0 + 1 + j) p) M (k0 + 1 + j) (fit_addN hp _)
      rw [he, stepB_same e1 e2, h2] at h1
      exact h1.symm
    · intro he; rw [he, stepA_same e1 e2]
theorem bytes_of_wd {L M : List Nat} {i : Nat} (hL : ∀ k, L.getD k 0 < 256) (hM : ∀ k, M.getD k 0 < 256) (h : wd L i = wd M i) : L.getD i 0 = M.getD i 0 ∧ L.getD (i + 1) 0 = M.getD (i + 1) 0 ∧ L.getD (i + 2) 0 = M.getD (i + 2) 0 ∧ L.getD (i + 3) 0 = M.getD (i + 3) 0 := by
  unfold wd at h
  have a0 := hL i
  have a1 := hL (i + 1)
  have a2 := hL (i + 2)
  have a3 := hL (i + 3)
  have b0 := hM i
  have b1 := hM (i + 1)
  have b2 := hM (i + 2)
  have b3 := hM (i + 3)
  omega
theorem list_of_getD {L M : List Nat} (hl : L.length = M.length) (h : ∀ i, L.getD i 0 = M.getD i 0) : L = M := by
  apply List.ext_getElem hl
  intro i h1 h2
  have := h i
  rw [List.getD_eq_getElem?_getD, List.getD_eq_getElem?_getD, List.getElem?_eq_getElem h1, List.getElem?_eq_getElem h2] at this
  exact this
theorem addL_near {L M : List Nat} {k0 : Nat} (hn : Near L M k0) (hl : L.length = M.length) (hk : 8 * k0 < L.length) (hL : ∀ k, L.getD k 0 < 256) (hM : ∀ k, M.getD k 0 < 256) (p : Int × Int) (hp : Fit p) :
    addL L p = addL M p ↔ L = M := by
  constructor
  · intro h
    unfold addL at h
    rw [← hl] at h
    obtain ⟨j, hj⟩ : ∃ j, nb L.length = k0 + 1 + j := ⟨nb L.length - (k0 + 1), by unfold nb; omega⟩
    rw [hj, addN_behind hn p hp j] at h
    have hs : stepA (addN L k0 p) L k0 = stepA (addN L k0 p) M k0 := by
      have h' : stepA (addN L k0 p) L k0 = stepA (addN M k0 p) M k0 := h
      rw [h', addN_ahead hn p k0 (Nat.le_refl _)]
    have wb : ∀ (X : List Nat), (∀ k, X.getD k 0 < 256) → ∀ i, wd X i < 4294967296 := fun X hX i => by
      unfold wd
      have a0 := hX i
      have a1 := hX (i + 1)
      have a2 := hX (i + 2)
      have a3 := hX (i + 3)
      omega
    obtain ⟨e1, e2⟩ := stepA_words (fit_addN hp k0) (wb L hL _) (wb L hL _) (wb M hM _) (wb M hM _) hs
    obtain ⟨f0, f1, f2, f3⟩ := bytes_of_wd hL hM e1
    obtain ⟨f4, f5, f6, f7⟩ := bytes_of_wd hL hM e2
    simp only [Nat.add_assoc] at f4 f5 f6 f7
    apply list_of_getD hl
    intro i
    by_cases hi : i < 8 * k0 ∨ 8 * k0 + 8 ≤ i
    · exact hn i hi
    · obtain ⟨q, rfl⟩ : ∃ q, i = 8 * k0 + q := ⟨i - 8 * k0, by omega⟩
      obtain rfl | rfl | rfl | rfl | rfl | rfl | rfl | rfl : q = 0 ∨ q = 1 ∨ q = 2 ∨ q = 3 ∨ q = 4 ∨ q = 5 ∨ q = 6 ∨ q = 7 := by omega
      · exact f0
      · exact f1
      · exact f2
      · exact f3
      · exact f4
      · exact f5
      · exact f6
      · exact f7
  · intro h; rw [h]
theorem near_cut {L B : List Nat} {k0 n : Nat} (hfn : 8 * k0 + n ≤ L.length) (hB : B.length = n) (h8 : n = 8 ∨ 8 * k0 + n = L.length) (hn8 : n ≤ 8) :
    Near (L.take (8 * k0) ++ B ++ L.drop (8 * k0 + n)) L k0 ∧ (L.take (8 * k0) ++ B ++ L.drop (8 * k0 + n)).length = L.length := by
  have hlt : (L.take (8 * k0)).length = 8 * k0 := by rw [List.length_take]; omega
  have hlab : (L.take (8 * k0) ++ B).length = 8 * k0 + n := by rw [List.length_append, hlt, hB]
  refine ⟨fun i hi => ?_, ?_⟩
  · simp only [List.getD_eq_getElem?_getD]
    by_cases h1 : i < 8 * k0
    · rw [List.append_assoc, List.getElem?_append_left (by omega), List.getElem?_take, if_pos h1]
    · have h2 : 8 * k0 + 8 ≤ i := by omega
      rw [List.getElem?_append_right (by omega), hlab, List.getElem?_drop]
      rcases h8 with h8 | h8
      · rw [show 8 * k0 + n + (i - (8 * k0 + n)) = i from by omega]
      · rw [List.getElem?_eq_none (by omega), List.getElem?_eq_none (by omega)]
  · rw [List.length_append, hlab, List.length_drop]; omega
theorem bts_inj {s t : ByteArray} (h : bts s = bts t) : s = t := by rw [← bstr_bts s, h, bstr_bts]
theorem getD_of_lt {L : List Nat} (h : ∀ x ∈ L, x < 256) (k : Nat) : L.getD k 0 < 256 := by
  rw [List.getD_eq_getElem?_getD]
  rcases Nat.lt_or_ge k L.length with h1 | h1
  · rw [List.getElem?_eq_getElem h1]; exact h _ (List.getElem_mem h1)
  · rw [List.getElem?_eq_none h1]; decide
theorem cut_sums {s t : ByteArray} {B : List Nat} {k0 n : Nat} {p : Int × Int} (hp : Fit p) (hfn : 8 * k0 + n ≤ s.size) (hk : 8 * k0 < s.size) (hB : B.length = n) (h8 : n = 8 ∨ 8 * k0 + n = s.size) (hn8 : n ≤ 8)
    (ht : bts t = (bts s).take (8 * k0) ++ B ++ (bts s).drop (8 * k0 + n)) : (addL (bts t) p = addL (bts s) p ↔ t = s) ∧ t.size = s.size := by
  have hl := bts_length s
  obtain ⟨h1, h2⟩ := near_cut (L := bts s) (B := B) (k0 := k0) (n := n) (by omega) hB (by omega) hn8
  rw [← ht] at h1 h2
  refine ⟨⟨fun h => ?_, fun h => by rw [h]⟩, by rw [← bts_length t, h2, hl]⟩
  exact bts_inj ((addL_near h1 h2 (by omega) (bts_getD_lt t) (bts_getD_lt s) p hp).1 h)
end Go.Proofs.Ythipaabjmlgjmaa
