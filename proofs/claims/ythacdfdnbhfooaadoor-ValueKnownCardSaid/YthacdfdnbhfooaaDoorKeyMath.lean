/- Plain mathematics of keys: a row as bytes that stand in the rows' order, and back. Conditions: those of each lemma. -/
import Derived.Test.YthacdfdnbhfooaaDoorWords
import Derived.Test.YthacdfdnbhfooaaDoorRecMath
namespace Go.Proofs.YthacdfdnbhfooaaDoor
/-- a text's bytes, its noughts escaped -/
def escL : List Nat → List Nat
  | [] => []
  | c :: r => if c = 0 then 0 :: 255 :: escL r else c :: escL r
def turnN (n : Int) : Nat := (n + 9223372036854775808).toNat
def oneK (x : Val) : List Nat := if x.1 = 0 then [1] else if x.1 = 1 then 2 :: eightL (turnN x.2.1) else (x.1.toNat + 1) :: (escL (bts x.2.2) ++ [0, 0])
def keyL (l : List Val) : List Nat := l.flatMap oneK
/-- a text's bytes up to its end, and how many they are with it -/
def textF : List Nat → Option (List Nat × Nat)
  | [] => none
  | [_] => none
  | a :: b :: r => if a = 0 then (if b = 0 then some ([], 2) else if b = 255 then (match textF r with | some (t, k) => some (0 :: t, k + 2) | none => none) else none)
    else (match textF (b :: r) with | some (t, k) => some (a :: t, k + 1) | none => none)
def oneT (L : List Nat) : Option (Val × Nat) :=
  match L with
  | [] => none
  | c :: r =>
    if c = 1 then some ((0, 0, bstr []), 1)
    else if c = 2 then (if r.length < 8 then none else some ((1, (val 0 (r.take 8) : Int) - 9223372036854775808, bstr []), 9))
    else if c = 3 ∨ c = 4 then (match textF r with
      | some (t, k) => if t.length ≤ 1000 then some (((c : Int) - 1, 0, bstr t), 1 + k) else none
      | none => none)
    else none
def takeKA : Nat → List Nat → Option (List Val)
  | 0, _ => some []
  | f + 1, L => if L = [] then some [] else match oneT L with
    | some (v, k) => (takeKA f (L.drop k)).map (v :: ·)
    | none => none
/-- the row whose key L is -/
def takeK (L : List Nat) : Option (List Val) := takeKA (L.length + 1) L
theorem escL_lt {L : List Nat} (h : ∀ x ∈ L, x < 256) : ∀ x ∈ escL L, x < 256 := by
  induction L with
  | nil => intro x hx; cases hx
  | cons c r ih =>
    have ih' := ih (fun x hx => h x (by simp [hx]))
    intro x hx
    unfold escL at hx
    split at hx
    · simp at hx
      rcases hx with rfl | rfl | hx
      · omega
      · omega
      · exact ih' x hx
    · simp at hx
      rcases hx with rfl | hx
      · exact h _ (by simp)
      · exact ih' x hx
theorem textF_esc (L more : List Nat) : textF (escL L ++ 0 :: 0 :: more) = some (L, (escL L).length + 2) := by
  induction L with
  | nil => simp [escL, textF]
  | cons c r ih =>
    by_cases hc : c = 0
    · subst hc
      simp only [escL, ↓reduceIte, List.cons_append, textF]
      rw [if_neg (by omega), ih]
      simp
    · simp only [escL, if_neg hc, List.cons_append]
      have : ∃ b t, escL r ++ 0 :: 0 :: more = b :: t := by
        cases hh : escL r ++ 0 :: 0 :: more with
        | nil => simp at hh
        | cons b t => exact ⟨b, t, rfl⟩
      obtain ⟨b, t, e⟩ := this
      rw [e] at ih ⊢
      simp only [textF, if_neg hc]
      rw [ih]
      simp
theorem textF_some : ∀ (n : Nat) (L : List Nat), L.length ≤ n → ∀ (t : List Nat) (k : Nat), textF L = some (t, k) → L.take k = escL t ++ [0, 0] ∧ k ≤ L.length ∧ k = (escL t).length + 2 ∧ (∀ x ∈ t, x ∈ L)
  | 0, L, hn, t, k, h => by
    obtain rfl : L = [] := List.eq_nil_of_length_eq_zero (by omega)
    simp [textF] at h
  | n + 1, L, hn, t, k, h => by
    match L, hn, h with
    | [], _, h => simp [textF] at h
    | [_], _, h => simp [textF] at h
    | a :: b :: r, hn, h =>
      simp only [textF] at h
      split at h
      · rename_i ha
        subst ha
        split at h
        · rename_i hb
          subst hb
          simp only [Option.some.injEq, Prod.mk.injEq] at h
          obtain ⟨rfl, rfl⟩ := h
          exact ⟨by simp [escL], by simp, by simp [escL], fun x hx => by cases hx⟩
        · split at h
          · rename_i hb
            subst hb
            split at h
            · rename_i t' k' h2
              simp only [Option.some.injEq, Prod.mk.injEq] at h
              obtain ⟨rfl, rfl⟩ := h
              obtain ⟨e1, e2, e3, e4⟩ := textF_some n r (by simp at hn; omega) _ _ h2
              refine ⟨?_, by simp; omega, by simp [escL]; omega, fun x hx => ?_⟩
              · simp only [List.take_succ_cons, escL, ↓reduceIte, List.cons_append, e1]
              · rcases List.mem_cons.1 hx with rfl | hx
                · simp
                · simp [e4 x hx]
            · cases h
          · cases h
      · rename_i ha
        split at h
        · rename_i t' k' h2
          simp only [Option.some.injEq, Prod.mk.injEq] at h
          obtain ⟨rfl, rfl⟩ := h
          obtain ⟨e1, e2, e3, e4⟩ := textF_some n (b :: r) (by simp at hn ⊢; omega) _ _ h2
          refine ⟨?_, by simp at e2 ⊢; omega, by simp [escL, ha]; omega, fun x hx => ?_⟩
          · rw [List.take_succ_cons, e1]
            simp [escL, ha]
          · rcases List.mem_cons.1 hx with rfl | hx
            · simp
            · exact List.mem_cons_of_mem _ (e4 x hx)
        · cases h
end Go.Proofs.YthacdfdnbhfooaaDoor
