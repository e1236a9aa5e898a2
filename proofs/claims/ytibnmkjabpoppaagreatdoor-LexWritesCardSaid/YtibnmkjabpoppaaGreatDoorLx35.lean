/- Layer 13: what the reference writes is what the program writes: plain maths. Conditions: those of each lemma. -/
import Derived.Test.YtibnmkjabpoppaaGreatDoorLx33
namespace Go.Proofs.YtibnmkjabpoppaaGreatDoor
open Go Go.RowKit
set_option linter.unusedVariables false
set_option linter.unusedSimpArgs false
/-- a token as the reference writes it, before it reads it back -/
def refY (k : Nat) (x : ByteArray) (n : Nat) : ByteArray :=
  if k = 3 then bstr (decL n)
  else if k = 4 then (if 1000 < x.size then ⟨#[]⟩ else ⟨#[39]⟩ ++ bstr (dqL (bts x)) ++ ⟨#[39]⟩)
  else if k = 5 then (if 1000 < x.size then ⟨#[]⟩ else ⟨#[120, 39]⟩ ++ bstr (hexL (bts x)) ++ ⟨#[39]⟩)
  else if k = 1 ∨ k = 2 ∨ k = 6 then x
  else ⟨#[]⟩
theorem refY_wrT {k n : Nat} {x : ByteArray} (h : (wrT k x n).2 = true) : refY k x n = (wrT k x n).1 := by
  unfold wrT at h ⊢
  unfold refY
  by_cases h3 : k = 3
  · rw [if_pos h3, if_pos h3]
  rw [if_neg h3] at h ⊢
  rw [if_neg h3]
  by_cases hn : n ≠ 0
  · rw [if_pos hn] at h; cases h
  rw [if_neg hn] at h ⊢
  by_cases h1 : k = 1
  · rw [if_pos h1, if_neg (by omega), if_neg (by omega), if_pos (by omega)]
  rw [if_neg h1] at h ⊢
  by_cases h2 : k = 2
  · rw [if_pos h2, if_neg (by omega), if_neg (by omega), if_pos (by omega)]
  rw [if_neg h2] at h ⊢
  by_cases h4 : k = 4
  · rw [if_pos h4] at h
    rw [if_pos h4, if_pos h4]
    have := of_decide_eq_true h
    rw [if_neg (by omega)]
  rw [if_neg h4] at h ⊢
  by_cases h5 : k = 5
  · rw [if_pos h5] at h
    rw [if_pos h5, if_neg h4, if_pos h5]
    have := of_decide_eq_true h
    rw [if_neg (by omega)]
  rw [if_neg h5] at h ⊢
  by_cases h6 : k = 6
  · rw [if_pos h6, if_neg h4, if_neg h5, if_pos (by omega)]
  · rw [if_neg h6] at h; cases h
theorem at_end (y : ByteArray) : atB y y.size = 0 := by
  unfold atB
  rw [List.getD_eq_getElem?_getD, List.getElem?_eq_none (by rw [bts_length]; exact Nat.le_refl _)]
  rfl
theorem alo_end {y : ByteArray} {k n a : Nat} {x : ByteArray} (h : oneA y 0 = .ok k x n a y.size) : aloA y 0 = .ok k x n a y.size := by
  unfold aloA
  rw [h]
  exact alo_no (fun hc => by rw [at_end] at hc; exact absurd hc.2 (by decide))
theorem one_alo {S : ByteArray} {p k n a q : Nat} {x : ByteArray} (h : aloA S p = .ok k x n a q) : oneA S p = .ok k x n a q := by
  unfold aloA at h
  cases hA : oneA S p with
  | bad e q => rw [hA] at h; cases h
  | ok k' x' n' a' q' =>
    rw [hA] at h
    by_cases hc : k' ≠ 6 ∧ worB (atB S q' : Int) = true
    · rw [alo_yes hc] at h; cases h
    · rw [alo_no hc] at h; exact h
/-- a token that the program writes is read back as it was; and one that the reference reads back is one that the program writes -/
theorem ref_yes {k n : Nat} {x : ByteArray} (h : (wrT k x n).2 = true) : 0 < (refY k x n).size ∧ oneA (refY k x n) 0 = .ok k x n 0 (refY k x n).size := by
  obtain ⟨y, hy⟩ : ∃ y, (wrT k x n).1 = y := ⟨_, rfl⟩
  have hw : wrT k x n = (y, true) := by rw [← hy, ← h]
  rw [refY_wrT h, hy]
  obtain ⟨h1, h2⟩ := rd_back (S := y) (p := 0) (r := []) hw (by rw [List.drop_zero, List.append_nil]) (.inl rfl)
  have := one_alo h1
  rw [Nat.zero_add] at this
  refine ⟨?_, this⟩
  rw [← bts_length]
  exact List.length_pos_iff.2 h2
theorem ref_no {k n a : Nat} {x : ByteArray} (h : (wrT k x n).2 = false) (h0 : 0 < (refY k x n).size) : oneA (refY k x n) 0 ≠ .ok k x n a (refY k x n).size := fun h1 => by
  have := (wr_of h0 (alo_end h1)).1
  rw [h] at this
  cases this
theorem decL_ten (n : Nat) (h : 10 ≤ n) : decL (n / 10) ++ decL (n % 10) = decL n := by
  have e : decL n = decL (n / 10) ++ [48 + n % 10] := by
    unfold decL
    rw [Lib.decDigits, dif_neg (by omega)]
    simp
    omega
  have e2 : decL (n % 10) = [48 + n % 10] := by
    unfold decL
    rw [Lib.decDigits, dif_pos (by omega)]
    simp
    omega
  rw [e, e2]
end Go.Proofs.YtibnmkjabpoppaaGreatDoor
