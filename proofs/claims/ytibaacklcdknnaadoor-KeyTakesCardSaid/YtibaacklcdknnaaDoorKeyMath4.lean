/- Plain mathematics of keys: the document's own First. Conditions: those of each lemma. -/
import Derived.Test.YtibaacklcdknnaaDoorKeyMath3
namespace Go.Proofs.YtibaacklcdknnaaDoor
open Go.RowKit
set_option linter.unusedVariables false
/-- what the document's own loop tells of a text, and how many bytes it goes through -/
def unt : List Nat → List Nat × Nat
  | a :: b :: r => if a = 0 ∧ b = 0 then ([], 0) else if a = 0 then (0 :: (unt r).1, 2 + (unt r).2) else (a :: (unt (b :: r)).1, 1 + (unt (b :: r)).2)
  | _ => ([], 0)
theorem unt_of : ∀ (n : Nat) (L : List Nat), L.length ≤ n → ∀ t k, textF L = some (t, k) → unt L = (t, k - 2) ∧ 2 ≤ k
  | 0, L, hn, t, k, h => by
    obtain rfl : L = [] := List.eq_nil_of_length_eq_zero (by omega)
    simp [textF] at h
  | n + 1, [], hn, t, k, h => by simp [textF] at h
  | n + 1, [_], hn, t, k, h => by simp [textF] at h
  | n + 1, a :: b :: r, hn, t, k, h => by
    simp only [textF] at h
    split at h
    · rename_i ha
      subst ha
      split at h
      · rename_i hb
        subst hb
        simp only [Option.some.injEq, Prod.mk.injEq] at h
        obtain ⟨rfl, rfl⟩ := h
        exact ⟨by simp [unt], by omega⟩
      · rename_i hb
        split at h
        · split at h
          · rename_i t' k' h2
            simp only [Option.some.injEq, Prod.mk.injEq] at h
            obtain ⟨rfl, rfl⟩ := h
            obtain ⟨e1, e2⟩ := unt_of n r (by simp at hn; omega) _ _ h2
            refine ⟨?_, by omega⟩
            simp only [unt, hb, and_false, ↓reduceIte, e1]
            congr 1
            omega
          · cases h
        · cases h
    · rename_i ha
      split at h
      · rename_i t' k' h2
        simp only [Option.some.injEq, Prod.mk.injEq] at h
        obtain ⟨rfl, rfl⟩ := h
        obtain ⟨e1, e2⟩ := unt_of n (b :: r) (by simp at hn ⊢; omega) _ _ h2
        refine ⟨?_, by omega⟩
        simp only [unt, ha, false_and, ↓reduceIte, e1]
        congr 1
        omega
      · cases h
/-- what the document's own First tells, ahead of its test -/
def preF (L : List Nat) : Option (Val × Nat) :=
  match L with
  | [] => none
  | c :: r =>
    if c = 1 then some ((0, 0, bstr []), 1)
    else if c = 2 then (if r.length < 8 then none else some ((1, (val 0 (r.take 8) : Int) - 9223372036854775808, bstr []), 9))
    else if c = 3 ∨ c = 4 then some (((c : Int) - 1, 0, bstr (unt r).1), 1 + (unt r).2 + 2)
    else none
theorem oneT_pre {L : List Nat} {v : Val} {k : Nat} (h : oneT L = some (v, k)) : preF L = some (v, k) := by
  unfold oneT at h
  unfold preF
  split at h
  · cases h
  · rename_i c r
    simp only
    split at h
    · rename_i hc
      rw [if_pos hc]; exact h
    · rename_i hc
      rw [if_neg hc]
      split at h
      · rename_i hc2
        rw [if_pos hc2]; exact h
      · rename_i hc2
        rw [if_neg hc2]
        split at h
        · rename_i hc34
          rw [if_pos hc34]
          split at h
          · rename_i t k' htf
            split at h
            · obtain ⟨e1, e2⟩ := unt_of _ r (Nat.le_refl _) _ _ htf
              rw [e1]
              simp only [Option.some.injEq, Prod.mk.injEq] at h
              obtain ⟨rfl, rfl⟩ := h
              simp only [Option.some.injEq, Prod.mk.injEq, true_and]
              omega
            · cases h
          · cases h
        · cases h
theorem preF_fits {L : List Nat} (hl : ∀ x ∈ L, x < 256) {v : Val} {k : Nat} (h : preF L = some (v, k)) : Fits v := by
  unfold preF at h
  split at h
  · cases h
  · rename_i c r
    have hc := hl c (by simp)
    split at h
    · simp only [Option.some.injEq, Prod.mk.injEq] at h
      obtain ⟨rfl, _⟩ := h
      exact ⟨by simp, by simp, by simp, by simp⟩
    · split at h
      · split at h
        · cases h
        · rename_i h8
          simp only [Option.some.injEq, Prod.mk.injEq] at h
          obtain ⟨rfl, _⟩ := h
          have hv := val_lt 0 (r.take 8) (fun x hx => hl x (by simp [List.mem_of_mem_take hx]))
          rw [List.length_take, Nat.min_eq_left (by omega)] at hv
          have e256 : (256 : Nat) ^ 8 = 18446744073709551616 := by decide
          rw [e256] at hv
          exact ⟨by simp, by simp, by simp only; omega, by simp only; omega⟩
      · split at h
        · rename_i hc34
          simp only [Option.some.injEq, Prod.mk.injEq] at h
          obtain ⟨rfl, _⟩ := h
          exact ⟨by simp only; omega, by simp only; omega, by simp, by simp⟩
        · cases h
/-- the test: the value is one that may be, and its key stands ahead -/
theorem oneT_test {L : List Nat} (hl : ∀ x ∈ L, x < 256) {v : Val} {k : Nat} (h : preF L = some (v, k)) :
    (oneT L = some (v, k) ∧ k ≤ L.length ∧ chk v = 0 ∧ oneK v = L.take k) ∨ (oneT L = none ∧ (L.length < k ∨ chk v ≠ 0 ∨ oneK v ≠ L.take k)) := by
  cases ho : oneT L with
  | some p =>
    obtain ⟨v', k'⟩ := p
    have h2 := oneT_pre ho
    rw [h] at h2
    simp only [Option.some.injEq, Prod.mk.injEq] at h2
    obtain ⟨rfl, rfl⟩ := h2
    exact .inl ⟨rfl, (oneT_le ho).2, (oneT_fits hl ho).2, (oneT_back hl ho).symm⟩
  | none =>
    refine .inr ⟨rfl, ?_⟩
    by_cases h1 : L.length < k
    · exact .inl h1
    · by_cases h2 : chk v = 0
      · refine .inr (.inr fun h3 => ?_)
        have h4 := oneT_put (preF_fits hl h) h2 (L.drop k)
        rw [h3, List.take_append_drop, ho] at h4
        cases h4
      · exact .inr (.inl h2)
end Go.Proofs.YtibaacklcdknnaaDoor
