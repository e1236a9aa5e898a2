/- Plain mathematics: the sum of two texts, one behind the other. Conditions: those of each lemma. -/
import Derived.Test.YthipaabjmlgjmaaSum
namespace Go.Proofs.Ythipaabjmlgjmaa
open Go.RowKit
theorem getD_left (A B : List Nat) (i : Nat) (h : i < A.length) : (A ++ B).getD i 0 = A.getD i 0 := by
  simp only [List.getD_eq_getElem?_getD]; rw [List.getElem?_append_left h]
theorem getD_right (A B : List Nat) (i : Nat) (h : A.length ≤ i) : (A ++ B).getD i 0 = B.getD (i - A.length) 0 := by
  simp only [List.getD_eq_getElem?_getD]; rw [List.getElem?_append_right h]
theorem wd_left (A B : List Nat) (i : Nat) (h : i + 4 ≤ A.length) : wd (A ++ B) i = wd A i := by
  unfold wd; rw [getD_left _ _ _ (by omega), getD_left _ _ _ (by omega), getD_left _ _ _ (by omega), getD_left _ _ _ (by omega)]
theorem wd_right (A B : List Nat) (i : Nat) (h : A.length ≤ i) : wd (A ++ B) i = wd B (i - A.length) := by
  unfold wd; rw [getD_right _ _ _ (by omega), getD_right _ _ _ (by omega), getD_right _ _ _ (by omega), getD_right _ _ _ (by omega)]
  rw [show i + 1 - A.length = i - A.length + 1 from by omega, show i + 2 - A.length = i - A.length + 2 from by omega, show i + 3 - A.length = i - A.length + 3 from by omega]
theorem stepA_congr {p : Int × Int} {L M : List Nat} {k j : Nat} (h1 : wd L (8 * k) = wd M (8 * j)) (h2 : wd L (8 * k + 4) = wd M (8 * j + 4)) : stepA p L k = stepA p M j := by
  unfold stepA; rw [h1, h2]
theorem addN_left (A B : List Nat) (n : Nat) (hA : A.length = 8 * n) (p : Int × Int) : ∀ k, k ≤ n → addN (A ++ B) k p = addN A k p
  | 0, _ => rfl
  | k + 1, hk => by
    show stepA (addN (A ++ B) k p) (A ++ B) k = stepA (addN A k p) A k
    rw [addN_left A B n hA p k (by omega), stepA_congr (wd_left A B (8 * k) (by omega)) (wd_left A B (8 * k + 4) (by omega))]
theorem addN_right (A B : List Nat) (n : Nat) (hA : A.length = 8 * n) (p : Int × Int) : ∀ k, addN (A ++ B) (n + k) p = addN B k (addN A n p)
  | 0 => addN_left A B n hA p n (Nat.le_refl _)
  | k + 1 => by
    show stepA (addN (A ++ B) (n + k) p) (A ++ B) (n + k) = stepA (addN B k (addN A n p)) B k
    rw [addN_right A B n hA p k]
    refine stepA_congr ?_ ?_
    · rw [wd_right A B _ (by omega), hA, show 8 * (n + k) - 8 * n = 8 * k from by omega]
    · rw [wd_right A B _ (by omega), hA, show 8 * (n + k) + 4 - 8 * n = 8 * k + 4 from by omega]
theorem addL_join (A B : List Nat) (n : Nat) (hA : A.length = 8 * n) (p : Int × Int) : addL (A ++ B) p = addL B (addL A p) := by
  unfold addL
  rw [List.length_append, hA, show nb (8 * n + B.length) = n + nb B.length from by unfold nb; omega, show nb (8 * n) = n from by unfold nb; omega]
  exact addN_right A B n hA p _
theorem getD_zeros (B : List Nat) (m i : Nat) : (B ++ List.replicate m 0).getD i 0 = B.getD i 0 := by
  rcases Nat.lt_or_ge i B.length with h | h
  · exact getD_left _ _ _ h
  · rw [getD_right _ _ _ h]
    simp only [List.getD_eq_getElem?_getD, List.getElem?_replicate, List.getElem?_eq_none h]
    split <;> rfl
theorem wd_zeros (B : List Nat) (m i : Nat) : wd (B ++ List.replicate m 0) i = wd B i := by
  unfold wd; rw [getD_zeros, getD_zeros, getD_zeros, getD_zeros]
theorem addN_zeros (B : List Nat) (m : Nat) (p : Int × Int) : ∀ k, addN (B ++ List.replicate m 0) k p = addN B k p
  | 0 => rfl
  | k + 1 => by
    show stepA (addN (B ++ List.replicate m 0) k p) (B ++ List.replicate m 0) k = stepA (addN B k p) B k
    rw [addN_zeros B m p k, stepA_congr (wd_zeros B m (8 * k)) (wd_zeros B m (8 * k + 4))]
theorem addL_zeros (B : List Nat) (m : Nat) (hm : nb (B.length + m) = nb B.length) (p : Int × Int) : addL (B ++ List.replicate m 0) p = addL B p := by
  unfold addL
  rw [List.length_append, List.length_replicate, hm, addN_zeros]
theorem bts_app (a b : ByteArray) : bts (a ++ b) = bts a ++ bts b := by simp [bts]
theorem bts_cut0 (s : ByteArray) (k : Nat) : bts (s.extract 0 k) = (bts s).take k := by
  unfold bts
  rw [← List.map_take]
  simp [ByteArray.data_extract]
theorem zeros_cut (m : Nat) (h : m ≤ 7) : bts ((⟨#[0, 0, 0, 0, 0, 0, 0]⟩ : ByteArray).extract 0 m) = List.replicate m 0 := by
  obtain rfl | rfl | rfl | rfl | rfl | rfl | rfl | rfl : m = 0 ∨ m = 1 ∨ m = 2 ∨ m = 3 ∨ m = 4 ∨ m = 5 ∨ m = 6 ∨ m = 7 := by omega
  all_goals decide
end Go.Proofs.Ythipaabjmlgjmaa
