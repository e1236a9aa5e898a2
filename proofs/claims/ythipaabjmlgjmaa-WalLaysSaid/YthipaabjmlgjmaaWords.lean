/- Plain mathematics of texts: their cuts, equality. Conditions: those of each lemma. -/
import Derived.Test.YthipaabjmlgjmaaNumMath
import Derived.Laws.Strings
namespace Go.Proofs.Ythipaabjmlgjmaa
theorem bts_app (a b : ByteArray) : bts (a ++ b) = bts a ++ bts b := by simp [bts]
theorem bts_cutr (s : ByteArray) (k : Nat) : bts (s.extract k s.size) = (bts s).drop k := by
  unfold bts
  rw [← List.map_drop]
  congr 1
  rw [ByteArray.data_extract, Array.toList_extract]
  show (s.data.toList.drop k).take (s.data.size - k) = _
  rw [List.take_of_length_le (by simp)]
theorem bts_cutn (s : ByteArray) (i k : Nat) : bts (s.extract i (i + k)) = ((bts s).drop i).take k := by
  unfold bts
  rw [← List.map_drop, ← List.map_take]
  congr 1
  rw [ByteArray.data_extract, Array.toList_extract]
  show (s.data.toList.drop i).take (i + k - i) = _
  rw [show i + k - i = k from by omega]
theorem bts_cutl (s : ByteArray) (k : Nat) : bts (s.extract 0 k) = (bts s).take k := by
  have h := bts_cutn s 0 k
  rw [Nat.zero_add] at h
  simpa using h
theorem cutl_bstr (s : ByteArray) (k : Nat) : s.extract 0 k = bstr ((bts s).take k) := by rw [← bts_cutl, bstr_bts]
theorem str_ext {x y : ByteArray} (h : x.toList = y.toList) : x = y := by
  rw [ByteArray.toList_eq, ByteArray.toList_eq] at h
  exact ByteArray.ext (Array.ext' h)
theorem toList_ne {S T : ByteArray} (h : T ≠ S) : (S.toList == T.toList) = false := by
  rw [beq_eq_false_iff_ne]
  exact fun e => h (str_ext e).symm
theorem bts_inj {s t : ByteArray} (h : bts s = bts t) : s = t := by rw [← bstr_bts s, h, bstr_bts]
theorem bts_nil : bts (bstr []) = [] := rfl
theorem empty_of {s : ByteArray} (h : s.size = 0) : s = bstr [] := by
  apply bts_inj
  have := bts_length s
  rw [bts_nil]
  exact List.eq_nil_of_length_eq_zero (by omega)
theorem drop_app {A B : List Nat} {k : Nat} (h : A.length = k) : (A ++ B).drop k = B := by subst h; simp
theorem take_app {A B : List Nat} {k : Nat} (h : A.length = k) : (A ++ B).take k = A := by subst h; simp
end Go.Proofs.Ythipaabjmlgjmaa
