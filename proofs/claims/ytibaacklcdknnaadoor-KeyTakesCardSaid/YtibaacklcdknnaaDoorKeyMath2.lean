/- Plain mathematics of keys: what is put is taken; a key begins another just if the row does. Conditions: those of each lemma. -/
import Derived.Test.YtibaacklcdknnaaDoorKey5
namespace Go.Proofs.YtibaacklcdknnaaDoor
open Go.RowKit
set_option linter.unusedVariables false
theorem oneK_pos (x : Val) : 1 ≤ (oneK x).length := by
  unfold oneK
  split
  · simp
  · split <;> simp
theorem val_eight {n : Nat} (h : n < 18446744073709551616) : val 0 (eightL n) = n := by
  simp [eightL, fourL, val]
  omega
theorem oneT_put {x : Val} (hf : Fits x) (hc : chk x = 0) (more : List Nat) : oneT (oneK x ++ more) = some (x, (oneK x).length) := by
  obtain ⟨k1, k2, k3, k4⟩ := chk_of hc
  obtain ⟨p, q, s⟩ := x
  obtain ⟨f1, f2, f3, f4⟩ := hf
  simp only at k1 k2 k3 k4 f1 f2 f3 f4
  by_cases p0 : p = 0
  · subst p0
    obtain rfl := k2 (by omega)
    obtain rfl := empty_of (k3 (by omega))
    rfl
  · by_cases p1 : p = 1
    · subst p1
      obtain rfl := empty_of (k3 (by omega))
      have e : oneK (1, q, bstr []) = 2 :: eightL (turnN q) := rfl
      have hv := val_eight (turnN_lt f4)
      rw [e, List.cons_append]
      unfold oneT
      simp only
      rw [if_neg (by omega), if_pos trivial, if_neg (by rw [List.length_append, eightL_len]; omega), take_app (eightL_len _), hv]
      have e2 : (turnN q : Int) - 9223372036854775808 = q := by unfold turnN; omega
      rw [e2]
      rfl
    · obtain rfl := k2 (by omega)
      have e : oneK (p, 0, s) = (p.toNat + 1) :: (escL (bts s) ++ [0, 0]) := by unfold oneK; simp only; rw [if_neg p0, if_neg p1]
      rw [e, List.cons_append]
      unfold oneT
      simp only
      rw [if_neg (by omega), if_neg (by omega), if_pos (by omega)]
      have ht := textF_esc (bts s) more
      rw [show escL (bts s) ++ [0, 0] ++ more = escL (bts s) ++ 0 :: 0 :: more by simp, ht]
      simp only
      rw [if_pos (by rw [bts_length]; exact k4), bstr_bts]
      have e3 : ((p.toNat + 1 : Nat) : Int) - 1 = p := by omega
      rw [e3]
      simp
      omega
theorem keyL_cons (x : Val) (l : List Val) : keyL (x :: l) = oneK x ++ keyL l := by simp [keyL]
theorem keyL_app (a b : List Val) : keyL (a ++ b) = keyL a ++ keyL b := by simp [keyL]
theorem takeK_put (l : List Val) (hf : ∀ x ∈ l, Fits x) (hc : ∀ x ∈ l, chk x = 0) : takeK (keyL l) = some l := by
  induction l with
  | nil => rfl
  | cons x l ih =>
    have h1 := oneT_put (hf x (by simp)) (hc x (by simp)) (keyL l)
    have hne : oneK x ++ keyL l ≠ [] := by
      have := oneK_pos x
      intro e
      have e2 := congrArg List.length e
      rw [List.length_append] at e2
      simp at e2
      have := e2.1
      simp_all
    rw [keyL_cons, takeK_step hne h1, drop_app rfl, ih (fun y hy => hf y (by simp [hy])) (fun y hy => hc y (by simp [hy]))]
    rfl
theorem keyL_pre : ∀ (a b : List Val), (∀ x ∈ a, Fits x) → (∀ x ∈ a, chk x = 0) → (∀ x ∈ b, Fits x) → (∀ x ∈ b, chk x = 0) → ((keyL a <+: keyL b) ↔ (a <+: b))
  | [], b, _, _, _, _ => by simp [keyL]
  | x :: a, [], fa, ca, _, _ => by
    rw [keyL_cons]
    have := oneK_pos x
    constructor
    · intro h
      have := h.length_le
      simp [keyL] at this
      simp_all
    · intro h
      have := h.length_le
      simp at this
  | x :: a, y :: b, fa, ca, fb, cb => by
    rw [keyL_cons, keyL_cons]
    constructor
    · rintro ⟨r, hr⟩
      have h1 := oneT_put (fa x (by simp)) (ca x (by simp)) (keyL a ++ r)
      have h2 := oneT_put (fb y (by simp)) (cb y (by simp)) (keyL b)
      rw [← hr, List.append_assoc, h1] at h2
      simp only [Option.some.injEq, Prod.mk.injEq] at h2
      obtain ⟨rfl, _⟩ := h2
      rw [List.append_assoc] at hr
      have hr2 := List.append_cancel_left hr
      have h3 := (keyL_pre a b (fun z hz => fa z (by simp [hz])) (fun z hz => ca z (by simp [hz])) (fun z hz => fb z (by simp [hz])) (fun z hz => cb z (by simp [hz]))).1 ⟨r, hr2⟩
      exact (List.prefix_cons_inj x).2 h3
    · intro h
      obtain ⟨rfl, h3⟩ := List.cons_prefix_cons.1 h
      have h4 := (keyL_pre a b (fun z hz => fa z (by simp [hz])) (fun z hz => ca z (by simp [hz])) (fun z hz => fb z (by simp [hz])) (fun z hz => cb z (by simp [hz]))).2 h3
      exact (List.prefix_append_right_inj _).2 h4
theorem pre_take {a b : List Val} : (a <+: b) ↔ (a.length ≤ b.length ∧ a = b.take (min a.length b.length)) := by
  constructor
  · rintro ⟨r, rfl⟩
    refine ⟨by simp, ?_⟩
    rw [Nat.min_eq_left (by simp)]
    simp
  · rintro ⟨h, e⟩
    rw [e]
    exact List.take_prefix _ _
theorem hasPrefix_bstr (X Y : List Nat) (hx : ∀ z ∈ X, z < 256) (hy : ∀ z ∈ Y, z < 256) : Lib.hasPrefix (bstr Y).data.toList (bstr X).data.toList = decide (X <+: Y) := by
  unfold Lib.hasPrefix
  rw [Bool.eq_iff_iff, List.isPrefixOf_iff_prefix, decide_eq_true_iff]
  have e : ∀ L : List Nat, (∀ z ∈ L, z < 256) → (bstr L).data.toList.map UInt8.toNat = L := fun L hL => by have := bts_bstr L hL; exact this
  constructor
  · rintro ⟨r, hr⟩
    refine ⟨r.map UInt8.toNat, ?_⟩
    have := congrArg (List.map UInt8.toNat) hr
    rw [List.map_append, e X hx, e Y hy] at this
    exact this
  · rintro ⟨r, rfl⟩
    exact ⟨(bstr r).data.toList, by simp [bstr]⟩
end Go.Proofs.YtibaacklcdknnaaDoor
