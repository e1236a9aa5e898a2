/- Plain mathematics of texts: their cuts, their numbers, equality. Conditions: those of each lemma. -/
import Derived.Test.YtkocdaillkhkfaaSumDiff
import Derived.Test.YtkocdaillkhkfaaSumJoin
import Derived.Test.YtkocdaillkhkfaaNumFix2
import Derived.Test.YtkocdaillkhkfaaSumText
import Derived.Test.YtkocdaillkhkfaaRefFixed
namespace Go.Proofs.Ytkocdaillkhkfaa
open Go.RowKit
theorem four_size (n : Nat) : (bstr (fourL n)).size = 4 := by rw [bstr_size]; rfl
theorem eight_size (n : Nat) : (bstr (eightL n)).size = 8 := by rw [bstr_size]; rfl
theorem text_size (a b : Int) : (bstr (textL a b)).size = 8 := by rw [bstr_size]; rfl
theorem four_lt (n : Nat) : ∀ x ∈ fourL n, x < 256 := by
  intro x hx
  simp [fourL] at hx
  omega
theorem bts_four (n : Nat) : bts (bstr (fourL n)) = fourL n := bts_bstr _ (four_lt n)
theorem eight_lt (n : Nat) : ∀ x ∈ eightL n, x < 256 := by
  intro x hx
  rcases List.mem_append.1 hx with h | h
  · exact four_lt _ x h
  · exact four_lt _ x h
theorem bts_eight (n : Nat) : bts (bstr (eightL n)) = eightL n := bts_bstr _ (eight_lt n)
theorem text_lt (a b : Int) : ∀ x ∈ textL a b, x < 256 := by
  intro x hx
  rcases List.mem_append.1 hx with h | h
  · exact four_lt _ x h
  · exact four_lt _ x h
theorem bts_text (a b : Int) : bts (bstr (textL a b)) = textL a b := bts_bstr _ (text_lt a b)
theorem bts_zeros (n : Nat) : bts (bstr (List.replicate n 0)) = List.replicate n 0 := bts_bstr _ (fun x hx => by rw [(List.mem_replicate.1 hx).2]; decide)
theorem zeros_size (n : Nat) : (bstr (List.replicate n 0)).size = n := by rw [bstr_size, List.length_replicate]
theorem four_val (a b c d : Nat) (ha : a < 256) (hb : b < 256) (hc : c < 256) (hd : d < 256) : fourL (val 0 [a, b, c, d]) = [a, b, c, d] := by
  simp only [fourL, val, List.foldl]
  congr 1
  · omega
  · congr 1
    · omega
    · congr 1
      · omega
      · congr 1; omega
theorem len4 {L : List Nat} (h : L.length = 4) : ∃ a b c d, L = [a, b, c, d] := by
  match L, h with
  | [a, b, c, d], _ => exact ⟨a, b, c, d, rfl⟩
theorem fourL_val {L : List Nat} (h : L.length = 4) (hl : ∀ x ∈ L, x < 256) : fourL (val 0 L) = L := by
  obtain ⟨a, b, c, d, rfl⟩ := len4 h
  exact four_val a b c d (hl _ (by simp)) (hl _ (by simp)) (hl _ (by simp)) (hl _ (by simp))
theorem val_app (A B : List Nat) (acc : Nat) : val acc (A ++ B) = val (val acc A) B := by unfold val; rw [List.foldl_append]
theorem val4_acc (acc a b c d : Nat) : val acc [a, b, c, d] = acc * 4294967296 + val 0 [a, b, c, d] := by simp only [val, List.foldl]; omega
theorem val4_lt {L : List Nat} (h : L.length = 4) (hl : ∀ x ∈ L, x < 256) : val 0 L < 4294967296 := by
  obtain ⟨a, b, c, d, rfl⟩ := len4 h
  have ha := hl a (by simp)
  have hb := hl b (by simp)
  have hc := hl c (by simp)
  have hd := hl d (by simp)
  simp only [val, List.foldl]; omega
theorem val8_split {L : List Nat} (h : L.length = 8) : val 0 L = val 0 (L.take 4) * 4294967296 + val 0 ((L.drop 4).take 4) := by
  have e : L = L.take 4 ++ (L.drop 4).take 4 := by
    rw [List.take_of_length_le (l := L.drop 4) (by rw [List.length_drop]; omega), List.take_append_drop]
  obtain ⟨a, b, c, d, he⟩ := len4 (L := (L.drop 4).take 4) (by rw [List.length_take, List.length_drop]; omega)
  conv => lhs; rw [e]
  rw [val_app, he, val4_acc]
theorem mem_cut {L : List Nat} (hl : ∀ x ∈ L, x < 256) (i k : Nat) : ∀ x ∈ (L.drop i).take k, x < 256 := fun x hx => hl x (List.mem_of_mem_drop (List.mem_of_mem_take hx))
theorem len_cut {L : List Nat} {i k : Nat} (h : i + k ≤ L.length) : ((L.drop i).take k).length = k := by rw [List.length_take, List.length_drop]; omega
theorem eightL_val {L : List Nat} (h : L.length = 8) (hl : ∀ x ∈ L, x < 256) : eightL (val 0 L) = L ∧ val 0 L < 18446744073709551616 := by
  have h1 : (L.take 4).length = 4 := by rw [List.length_take]; omega
  have h2 : ((L.drop 4).take 4).length = 4 := len_cut (by omega)
  have l1 : ∀ x ∈ L.take 4, x < 256 := fun x hx => hl x (List.mem_of_mem_take hx)
  have l2 := mem_cut hl 4 4
  have v1 := val4_lt h1 l1
  have v2 := val4_lt h2 l2
  have f1 := fourL_val h1 l1
  have f2 := fourL_val h2 l2
  rw [val8_split h]
  generalize val 0 (L.take 4) = x at *
  generalize val 0 ((L.drop 4).take 4) = y at *
  have e1 : (x * 4294967296 + y) / 4294967296 = x := by omega
  have e2 : (x * 4294967296 + y) % 4294967296 = y := by omega
  refine ⟨?_, by omega⟩
  unfold eightL
  rw [e1, e2, f1, f2, List.take_of_length_le (l := L.drop 4) (by rw [List.length_drop]; omega), List.take_append_drop]
theorem val_fourL {n : Nat} (h : n < 4294967296) : val 0 (fourL n) = n := by simp only [fourL, val, List.foldl]; omega
theorem val_eightL {n : Nat} (h : n < 18446744073709551616) : val 0 (eightL n) = n := by
  unfold eightL
  rw [val_app, val_fourL (by omega)]
  simp only [fourL]
  rw [val4_acc]
  have := val_fourL (n := n % 4294967296) (by omega)
  simp only [fourL] at this
  rw [this]; omega
theorem textL_inj {p q : Int × Int} (hp : Fit p) (hq : Fit q) (h : textL p.1 p.2 = textL q.1 q.2) : p = q := by
  obtain ⟨a, b⟩ := p
  obtain ⟨c, d⟩ := q
  unfold Fit at hp hq
  simp only at hp hq h
  have h1 := List.append_inj_left h (by rfl)
  have h2 := List.append_inj_right h (by rfl)
  have v1 := val_fourL (n := a.toNat) (by omega)
  have v2 := val_fourL (n := b.toNat) (by omega)
  have v3 := val_fourL (n := c.toNat) (by omega)
  have v4 := val_fourL (n := d.toNat) (by omega)
  rw [h1, v3] at v1
  rw [h2, v4] at v2
  simp only [Prod.mk.injEq]
  omega
theorem addL_inj {L : List Nat} {p q : Int × Int} (hp : Fit p) (hq : Fit q) : addL L p = addL L q ↔ p = q := by
  refine ⟨fun h => ?_, fun h => by rw [h]⟩
  rw [← backL_addL L p hp, h, backL_addL L q hq]
theorem fit0 : Fit (0, 0) := ⟨by omega, by omega, by omega, by omega⟩
theorem drop_app {A B : List Nat} {k : Nat} (h : A.length = k) : (A ++ B).drop k = B := by subst h; simp
theorem take_app {A B : List Nat} {k : Nat} (h : A.length = k) : (A ++ B).take k = A := by subst h; simp
theorem getD_cut (L : List Nat) (a n i : Nat) : ((L.drop a).take n).getD i 0 = if i < n then L.getD (a + i) 0 else 0 := by
  simp only [List.getD_eq_getElem?_getD, List.getElem?_take]
  split
  · rw [List.getElem?_drop]
  · rfl
theorem cut_eq {L M : List Nat} (hl : L.length = M.length) (a n : Nat) (h : ∀ i, a ≤ i → i < a + n → L.getD i 0 = M.getD i 0) : (L.drop a).take n = (M.drop a).take n := by
  refine list_of_getD (by rw [List.length_take, List.length_take, List.length_drop, List.length_drop, hl]) fun i => ?_
  rw [getD_cut, getD_cut]
  split
  · exact h _ (by omega) (by omega)
  · rfl
theorem take_of_take {L : List Nat} {a n m : Nat} (h : a + n ≤ m) : ((L.take m).drop a).take n = (L.drop a).take n := by
  rw [List.drop_take, List.take_take, Nat.min_eq_left (by omega)]
theorem bts_cutr (s : ByteArray) (k : Nat) : bts (s.extract k s.size) = (bts s).drop k := by
  unfold bts
  rw [← List.map_drop]
  congr 1
  rw [ByteArray.data_extract, Array.toList_extract]
  show (s.data.toList.drop k).take (s.data.size - k) = _
  rw [List.take_of_length_le (by simp)]
theorem bts_cutn (s : ByteArray) (i k : Nat) : bts (s.extract i (i + k)) = ((bts s).drop i).take k := by
  unfold bts
  rw [← List.map_drop, ← List.map_take]
  congr 1
  rw [ByteArray.data_extract, Array.toList_extract]
  show (s.data.toList.drop i).take (i + k - i) = _
  rw [show i + k - i = k from by omega]
theorem str_ext {x y : ByteArray} (h : x.toList = y.toList) : x = y := by
  rw [ByteArray.toList_eq, ByteArray.toList_eq] at h
  exact ByteArray.ext (Array.ext' h)
theorem str_eq (x : ByteArray) (L : List Nat) (hL : ∀ y ∈ L, y < 256) : (x.toList == (bstr L).toList) = decide (bts x = L) := by
  by_cases h : bts x = L
  · have e : x = bstr L := by rw [← h, bstr_bts]
    rw [decide_eq_true h, e]; simp
  · rw [decide_eq_false h, beq_eq_false_iff_ne]
    exact fun e => h (by rw [str_ext e, bts_bstr L hL])
theorem map_inj {A B : List UInt8} (h : A.map UInt8.toNat = B.map UInt8.toNat) : A = B := by
  induction A generalizing B with
  | nil => cases B with | nil => rfl | cons b B => cases h
  | cons a A ih =>
    cases B with
    | nil => cases h
    | cons b B =>
      simp only [List.map_cons, List.cons.injEq] at h
      rw [UInt8.toNat_inj.1 h.1, ih h.2]
theorem fixedS_ok {L : List Nat} {k : Nat} (h : k ≤ L.length) : fixedS L k = (val 0 (L.take k), 0) := by unfold fixedS; rw [if_neg (by omega)]
theorem toList_ne {S T : ByteArray} (h : T ≠ S) : (S.toList == T.toList) = false := by
  rw [beq_eq_false_iff_ne]
  exact fun e => h (str_ext e).symm
theorem fixL_eight (n : Nat) : fixL 8 n = eightL n := by
  simp [fixL, eightL, fourL]
  omega
theorem parts8 (L : List Nat) (i : Nat) : (L.drop i).take 8 = (L.drop i).take 4 ++ (L.drop (i + 4)).take 4 := by
  rw [show 8 = 4 + 4 from rfl, List.take_add, List.drop_drop]
end Go.Proofs.Ytkocdaillkhkfaa
