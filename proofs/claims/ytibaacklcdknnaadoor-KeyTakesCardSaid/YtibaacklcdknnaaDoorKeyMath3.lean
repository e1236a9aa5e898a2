/- Plain mathematics of keys: what is taken is put. Conditions: those of each lemma. -/
import Derived.Test.YtibaacklcdknnaaDoorKeyMath2
namespace Go.Proofs.YtibaacklcdknnaaDoor
open Go.RowKit
set_option linter.unusedVariables false
theorem eight_val {M : List Nat} (h8 : M.length = 8) (hl : ∀ x ∈ M, x < 256) : eightL (val 0 M) = M := by
  match M, h8 with
  | [a, b, c, d, e, f, g, h], _ =>
    have h1 := hl a (by simp)
    have h2 := hl b (by simp)
    have h3 := hl c (by simp)
    have h4 := hl d (by simp)
    have h5 := hl e (by simp)
    have h6 := hl f (by simp)
    have h7 := hl g (by simp)
    have h9 := hl h (by simp)
    clear hl
    simp only [val, List.foldl, eightL, fourL, List.cons_append, List.nil_append, List.cons.injEq, and_true]
    refine ⟨?_, ?_, ?_, ?_, ?_, ?_, ?_, ?_⟩ <;> omega
theorem oneT_back {L : List Nat} (hl : ∀ x ∈ L, x < 256) {v : Val} {k : Nat} (h : oneT L = some (v, k)) : L.take k = oneK v := by
  unfold oneT at h
  split at h
  · cases h
  · rename_i c r
    split at h
    · rename_i hc
      simp only [Option.some.injEq, Prod.mk.injEq] at h
      obtain ⟨rfl, rfl⟩ := h
      subst hc
      rfl
    · split at h
      · rename_i hc
        split at h
        · cases h
        · rename_i h8
          simp only [Option.some.injEq, Prod.mk.injEq] at h
          obtain ⟨rfl, rfl⟩ := h
          subst hc
          have h8' : (r.take 8).length = 8 := by rw [List.length_take]; omega
          have he := eight_val h8' (fun x hx => hl x (by simp [List.mem_of_mem_take hx]))
          have ht : turnN ((val 0 (r.take 8) : Int) - 9223372036854775808) = val 0 (r.take 8) := by unfold turnN; omega
          unfold oneK
          simp only
          rw [if_neg (by omega), if_pos trivial, ht, he]
          rfl
      · split at h
        · rename_i hc34
          split at h
          · rename_i t k' htf
            split at h
            · simp only [Option.some.injEq, Prod.mk.injEq] at h
              obtain ⟨rfl, rfl⟩ := h
              obtain ⟨e1, e2, e3, e4⟩ := textF_some _ r (Nat.le_refl _) t k' htf
              rw [show 1 + k' = k' + 1 by omega, List.take_succ_cons, e1]
              unfold oneK
              simp only
              rw [if_neg (by omega), if_neg (by omega), bts_bstr _ (fun x hx => hl x (by simp [e4 x hx]))]
              have : ((c : Int) - 1).toNat + 1 = c := by omega
              rw [this]
            · cases h
          · cases h
        · cases h
theorem takeK_back : ∀ (n : Nat) (L : List Nat), L.length ≤ n → (∀ x ∈ L, x < 256) → ∀ l, takeK L = some l → keyL l = L
  | n, [], _, _, l, h => by
    rw [takeK_nil] at h
    simp only [Option.some.injEq] at h
    subst h
    rfl
  | 0, c :: r, hn, _, _, _ => by simp at hn
  | n + 1, c :: r, hn, hl, l, h => by
    cases ho : oneT (c :: r) with
    | none => rw [takeK_none (by simp) ho] at h; cases h
    | some p =>
      obtain ⟨v, k⟩ := p
      rw [takeK_step (by simp) ho] at h
      obtain ⟨k1, k2⟩ := oneT_le ho
      have hb := oneT_back hl ho
      cases ht : takeK ((c :: r).drop k) with
      | none => rw [ht] at h; cases h
      | some t =>
        rw [ht] at h
        simp only [Option.map_some, Option.some.injEq] at h
        subst h
        have ih := takeK_back n ((c :: r).drop k) (by rw [List.length_drop]; omega) (fun x hx => hl x (List.mem_of_mem_drop hx)) t ht
        rw [keyL_cons, ih, ← hb, List.take_append_drop]
end Go.Proofs.YtibaacklcdknnaaDoor
