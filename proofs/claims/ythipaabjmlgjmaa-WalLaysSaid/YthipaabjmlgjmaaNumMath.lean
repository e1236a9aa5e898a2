/- Plain mathematics of numbers as bytes (the short form, four and eight bytes): nothing of the program is named here. Conditions: those of each lemma. -/
import Derived.Laws.BytesArg
import Derived.Laws.IdiomStrings
import GoSem.Claim
namespace Go.Proofs.Ythipaabjmlgjmaa
/-- k bytes are what the short form of n has. -/
def SzIs (n k : Nat) : Prop := (n < 72057594037927936 ∧ (k = 0 ∨ 128 ^ k ≤ n) ∧ n < 128 ^ (k + 1))
def sz (n : Nat) : Nat :=
  if n < 128 then 1 else if n < 16384 then 2 else if n < 2097152 then 3 else if n < 268435456 then 4 else if n < 34359738368 then 5 else if n < 4398046511104 then 6 else if n < 562949953421312 then 7 else if n < 72057594037927936 then 8 else 9
theorem sz_big {n : Nat} (h : 72057594037927936 ≤ n) : sz n = 9 := by unfold sz; repeat (rw [if_neg (by omega)])
theorem sz_le (n : Nat) : 1 ≤ sz n ∧ sz n ≤ 9 := by unfold sz; repeat (first | omega | split)
theorem sz_of {n k : Nat} (h0 : n < 72057594037927936) (h1 : k ≤ 7) (h2 : k = 0 ∨ 128 ^ k ≤ n) (h3 : n < 128 ^ (k + 1)) : sz n = 1 + k := by
  obtain rfl | rfl | rfl | rfl | rfl | rfl | rfl | rfl : k = 0 ∨ k = 1 ∨ k = 2 ∨ k = 3 ∨ k = 4 ∨ k = 5 ∨ k = 6 ∨ k = 7 := by omega
  all_goals (simp at h2 h3; unfold sz; repeat (first | rw [if_pos (by omega)] | rw [if_neg (by omega)]))
theorem sz_iff {a n : Nat} (h1 : 1 ≤ n) (h8 : n ≤ 8) : a < 128 ^ n ↔ sz a ≤ n := by
  obtain rfl | rfl | rfl | rfl | rfl | rfl | rfl | rfl : n = 1 ∨ n = 2 ∨ n = 3 ∨ n = 4 ∨ n = 5 ∨ n = 6 ∨ n = 7 ∨ n = 8 := by omega
  all_goals (unfold sz; repeat (first | omega | split))
theorem sz_mono {a b : Nat} (h : a ≤ b) : sz a ≤ sz b := by
  have ha := sz_le a; have hb := sz_le b
  by_cases h8 : sz b ≤ 8
  · exact (sz_iff hb.1 h8).1 (Nat.lt_of_le_of_lt h ((sz_iff hb.1 h8).2 (Nat.le_refl _)))
  · omega
/-- the j bytes ahead of the last one, of which m is the number that they tell -/
def digs : Nat → Nat → List Nat
  | 0, _ => []
  | j + 1, m => (m / 128 ^ j % 128 + 128) :: digs j m
theorem digs_length (j m : Nat) : (digs j m).length = j := by induction j with | zero => rfl | succ j ih => simp [digs, ih]
theorem digs_lt (j m : Nat) : ∀ x ∈ digs j m, x < 256 := by
  induction j with
  | zero => intro x h; cases h
  | succ j ih => intro x h; simp only [digs, List.mem_cons] at h; rcases h with rfl | h; omega; exact ih x h
theorem digs_drop (k j m : Nat) : (digs (k + j) m).drop k = digs j m := by
  induction k with
  | zero => simp
  | succ k ih => rw [show k + 1 + j = (k + j) + 1 from by omega]; simp [digs, ih]
def u8v (n : Nat) : Value := .int .u8 (n : Int)
def cellsA (j m low : Nat) : Array Value := ((List.replicate (8 - j) 0 ++ digs j m ++ [low]).map u8v).toArray
theorem cellsA_size (j m low : Nat) (h : j ≤ 8) : (cellsA j m low).size = 9 := by simp [cellsA, digs_length]; omega
theorem cellsA_set (j m low : Nat) (h : j < 8) : (cellsA j m low).setIfInBounds (7 - j) (u8v (m / 128 ^ j % 128 + 128)) = cellsA (j + 1) m low := by
  unfold cellsA
  have e : 8 - j = (7 - j) + 1 := by omega
  have e2 : 8 - (j + 1) = 7 - j := by omega
  rw [e, e2, List.replicate_succ']
  simp only [List.append_assoc, List.map_append, List.map_replicate, List.setIfInBounds_toArray]
  rw [List.set_append_right _ _ (by simp)]
  simp [digs]
theorem cellsA_zero (m low : Nat) : cellsA 0 m low = #[.int .u8 0, .int .u8 0, .int .u8 0, .int .u8 0, .int .u8 0, .int .u8 0, .int .u8 0, .int .u8 0, .int .u8 (low : Int)] := by
  simp [cellsA, digs, u8v, List.replicate]
theorem cellsA_get (j m low : Nat) (h : j < 8) : (cellsA j m low)[7 - j]? = some (Value.int .u8 0) := by
  unfold cellsA
  rw [List.getElem?_toArray, List.map_append, List.map_append, List.append_assoc, List.getElem?_append_left (by simp; omega)]
  rw [List.map_replicate, List.getElem?_replicate, if_pos (by omega)]; rfl
/-- a text of these bytes -/
def bstr (l : List Nat) : ByteArray := ⟨(l.map UInt8.ofNat).toArray⟩
theorem bstr_toList (l : List Nat) : (bstr l).data.toList = l.map UInt8.ofNat := rfl
theorem bstr_size (l : List Nat) : (bstr l).size = l.length := by simp [bstr, ByteArray.size]
theorem bstr_nums (l : List Nat) : strOfNums (l.map Int.ofNat) = bstr l := by simp [strOfNums, bstr, Function.comp_def]
def low (n : Nat) : Nat := if n < 72057594037927936 then n % 128 else n % 256
def high (n : Nat) : Nat := if n < 72057594037927936 then n / 128 else n / 256
/-- the short form of n -/
def putL (n : Nat) : List Nat := digs (sz n - 1) (high n) ++ [low n]
theorem putL_length (n : Nat) : (putL n).length = sz n := by have := sz_le n; simp [putL, digs_length]; omega
theorem putL_drop (n : Nat) : (digs 8 (high n) ++ [low n]).drop (9 - sz n) = putL n := by
  have h := sz_le n
  rw [List.drop_append_of_le_length (by simp [digs_length]; omega)]
  have := digs_drop (9 - sz n) (sz n - 1) (high n)
  rw [show 9 - sz n + (sz n - 1) = 8 from by omega] at this
  rw [this]; rfl
theorem putL_cell (n k : Nat) (h : k < sz n) : (cellsA 8 (high n) (low n))[9 - sz n + k]? = some (.int .u8 (((putL n).map Int.ofNat).getD k 0)) := by
  have hs := sz_le n
  unfold cellsA
  rw [List.getElem?_toArray, ← putL_drop]
  simp only [Nat.sub_self, List.replicate_zero, List.nil_append, List.getElem?_map, List.getD_eq_getElem?_getD, List.getElem?_drop]
  have : 9 - sz n + k < (digs 8 (high n) ++ [low n]).length := by simp [digs_length]; omega
  rw [List.getElem?_eq_getElem this]; rfl
/-- a text's bytes as numbers -/
def bts (s : ByteArray) : List Nat := s.data.toList.map UInt8.toNat
theorem bts_length (s : ByteArray) : (bts s).length = s.size := by simp [bts]
theorem bts_lt (s : ByteArray) : ∀ x ∈ bts s, x < 256 := by
  intro x h; simp only [bts, List.mem_map] at h; obtain ⟨b, _, rfl⟩ := h; exact b.toNat_lt
theorem bts_getD_lt (s : ByteArray) (k : Nat) : (bts s).getD k 0 < 256 := by
  rw [List.getD_eq_getElem?_getD]
  rcases Nat.lt_or_ge k (bts s).length with h | h
  · rw [List.getElem?_eq_getElem h]; exact bts_lt s _ (List.getElem_mem h)
  · rw [List.getElem?_eq_none h]; decide
theorem bts_bstr (l : List Nat) (h : ∀ x ∈ l, x < 256) : bts (bstr l) = l := by
  unfold bts
  rw [bstr_toList, List.map_map]
  conv => rhs; rw [← List.map_id l]
  apply List.map_congr_left
  intro x hx
  simp [Nat.mod_eq_of_lt (h x hx)]
theorem bstr_bts (s : ByteArray) : bstr (bts s) = s := by
  obtain ⟨⟨l⟩⟩ := s
  simp [bstr, bts, Function.comp_def]
theorem bytesRow_bts (s : ByteArray) (cap k : Nat) (h : k < s.size) : (bytesRow s cap)[k]? = some (.int .u8 (((bts s).getD k 0 : Nat) : Int)) := by
  rw [bytesRow_at s cap k h]
  have h2 : k < (bts s).length := by rw [bts_length]; exact h
  rw [List.getD_eq_getElem?_getD, List.getElem?_eq_getElem h2]
  simp [bts]
/-- what is taken of bytes, behind i of them that told acc; none: too few -/
def takeF : Nat → Nat → List Nat → Option (Nat × Nat)
  | _, _, [] => none
  | i, acc, c :: t => if i = 8 then some (acc * 256 + c, 9) else if c < 128 then some (acc * 128 + c, i + 1) else takeF (i + 1) (acc * 128 + c % 128) t
/-- number, size, error -/
def takeS (l : List Nat) : Nat × Nat × Nat :=
  match takeF 0 0 l with
  | none => (0, 0, 10)
  | some (n, k) => if sz n = k then (n, k, 0) else (0, 0, 11)
theorem takeF_drop (i acc : Nat) (l : List Nat) (k : Nat) (h : k < l.length) :
    takeF i acc (l.drop k) = if i = 8 then some (acc * 256 + l.getD k 0, 9) else if l.getD k 0 < 128 then some (acc * 128 + l.getD k 0, i + 1) else takeF (i + 1) (acc * 128 + l.getD k 0 % 128) (l.drop (k + 1)) := by
  rw [List.drop_eq_getElem_cons h]
  simp [takeF, List.getD_eq_getElem?_getD, List.getElem?_eq_getElem h]
theorem takeF_end (i acc : Nat) (l : List Nat) (k : Nat) (h : l.length ≤ k) : takeF i acc (l.drop k) = none := by
  rw [List.drop_eq_nil_of_le h]; rfl
def fourL (n : Nat) : List Nat := [n / 16777216 % 256, n / 65536 % 256, n / 256 % 256, n % 256]
def eightL (n : Nat) : List Nat := fourL (n / 4294967296) ++ fourL (n % 4294967296)
theorem bstr_append (a b : List Nat) : bstr a ++ bstr b = bstr (a ++ b) := by
  apply ByteArray.ext
  simp [bstr]
/-- the number that bytes tell behind acc -/
def val (acc : Nat) (l : List Nat) : Nat := l.foldl (fun n c => n * 256 + c) acc
theorem val_cons (acc c : Nat) (l : List Nat) : val acc (c :: l) = val (acc * 256 + c) l := rfl
theorem val_take_succ (L : List Nat) (k : Nat) (h : k < L.length) : val 0 (L.take (k + 1)) = val 0 (L.take k) * 256 + L.getD k 0 := by
  unfold val
  rw [List.take_succ_eq_append_getElem h, List.foldl_append, List.getD_eq_getElem?_getD, List.getElem?_eq_getElem h]
  rfl
/-- what is told of so many bytes, and the error -/
def fixedS (L : List Nat) (k : Nat) : Nat × Nat := if L.length < k then (0, 10) else (val 0 (L.take k), 0)
theorem byte_at (s : ByteArray) (j : Nat) (h : j < s.size) : s[j].toNat = (bts s).getD j 0 := by
  have h2 : j < (bts s).length := by rw [bts_length]; exact h
  rw [List.getD_eq_getElem?_getD, List.getElem?_eq_getElem h2]
  simp [bts]
  rfl
end Go.Proofs.Ythipaabjmlgjmaa
namespace Go.Proofs.Ythipaabjmlgjmaa
theorem rint {k : IntKind} {a b : Int} (h : a = b) : Ending.returned (.int k a) = .returned (.int k b) := by rw [h]
theorem vint {k : IntKind} {a b : Int} (h : a = b) : Value.int k a = .int k b := by rw [h]
theorem rbool {a b : Bool} (h : a = b) : Ending.returned (.bool a) = .returned (.bool b) := by rw [h]
end Go.Proofs.Ythipaabjmlgjmaa
