/- A tree page's bytes: what is put is taken, what is taken is put as it was, how many bytes it has: nothing of the program is named here. Conditions: those of each lemma. -/
import Derived.Test.YticpenbebokjdaaDoorNd10
import Derived.Test.YticpenbebokjdaaDoorNd6
namespace Go.Proofs.YticpenbebokjdaaDoor
open Go.RowKit Go
set_option linter.unusedVariables false
set_option linter.unusedSimpArgs false
/-- sums of bytes, the highest first, and back -/
theorem foldl_num (n : Nat) : ∀ (k a : Nat), (numL n k).foldl (fun a b => a * 256 + b) a = a * 256 ^ k + n % 256 ^ k
  | 0, a => by simp [numL, Nat.mod_one]
  | k + 1, a => by
    rw [numL, List.foldl_cons, foldl_num n k, Nat.pow_succ, Nat.mod_mul, Nat.add_mul, Nat.mul_assoc, Nat.mul_comm 256 (256 ^ k), Nat.mul_comm (256 ^ k) (n / 256 ^ k % 256)]
    omega
theorem valL_num (n k : Nat) (h : n < 256 ^ k) : valL (numL n k) = n := by
  rw [valL, foldl_num, Nat.zero_mul, Nat.zero_add, Nat.mod_eq_of_lt h]
theorem bts_num (n k : Nat) : bts (bstr (numL n k)) = numL n k := bts_bstr _ (numL_lt n k)
theorem numL_add (a n j : Nat) : ∀ k, k ≤ j → numL (a * 256 ^ j + n) k = numL n k
  | 0, _ => rfl
  | k + 1, h => by
    rw [numL, numL, numL_add a n j k (by omega)]
    congr 1
    obtain ⟨d, rfl⟩ : ∃ d, j = k + 1 + d := ⟨j - (k + 1), by omega⟩
    rw [show a * 256 ^ (k + 1 + d) = 256 ^ k * (256 * (a * 256 ^ d)) by rw [Nat.pow_add, Nat.pow_succ]; simp only [Nat.mul_comm, Nat.mul_left_comm, Nat.mul_assoc], Nat.mul_add_div (Nat.pow_pos (by omega))]
    omega
theorem valL_cons (x : Nat) (l : List Nat) : valL (x :: l) = x * 256 ^ l.length + valL l := by
  have h : ∀ (l : List Nat) (a : Nat), l.foldl (fun a b => a * 256 + b) a = a * 256 ^ l.length + valL l := by
    intro l
    induction l with
    | nil => intro a; simp [valL]
    | cons y l ih =>
      intro a
      have e : valL (y :: l) = (0 * 256 + y) * 256 ^ l.length + valL l := by rw [valL, List.foldl_cons, ih]
      rw [List.foldl_cons, ih, e, List.length_cons, Nat.pow_succ', Nat.add_mul, Nat.mul_assoc, Nat.zero_mul, Nat.zero_add, Nat.add_assoc]
  rw [valL, List.foldl_cons, h]
  simp
theorem num_val : ∀ (l : List Nat), (∀ x ∈ l, x < 256) → numL (valL l) l.length = l
  | [], _ => rfl
  | x :: l, h => by
    have hl : valL l < 256 ^ l.length := by
      have := valL_lt l (fun y hy => h y (.tail _ hy)) l.length
      rwa [List.take_of_length_le (Nat.le_refl _)] at this
    have hx : x < 256 := h x (.head _)
    rw [List.length_cons, numL, valL_cons, numL_add _ _ _ _ (Nat.le_refl _), num_val l (fun y hy => h y (.tail _ hy))]
    congr 1
    rw [Nat.mul_comm, Nat.mul_add_div (Nat.pow_pos (by omega)), Nat.div_eq_of_lt hl]
    omega
/-- the next bytes, where they are there -/
theorem stp_app (x y : ByteArray) (w : Bool) (n : Nat) (h : x.size = n) : stp (x ++ y, w) n = (x, (y, w)) := by
  subst h
  unfold stp textZ
  have hs : (x ++ y).size = x.size + y.size := ByteArray.size_append
  rw [if_neg (show ¬ (x ++ y, w).1.size < x.size by simp only [hs]; omega)]
  simp only
  rw [ByteArray.extract_append_eq_left rfl, ByteArray.extract_append_eq_right rfl hs]
theorem bstr_app (a b : List Nat) : bstr (a ++ b) = bstr a ++ bstr b := (bstr_append a b).symm
theorem stp_num (n k : Nat) (Y : List Nat) (w : Bool) : stp (bstr (numL n k ++ Y), w) k = (bstr (numL n k), (bstr Y, w)) := by
  rw [bstr_app]
  exact stp_app _ _ w k (by rw [bstr_size, numL_length])
theorem stp_txt (x : ByteArray) (Y : List Nat) (w : Bool) (n : Nat) (h : x.size = n) : stp (bstr (bts x ++ Y), w) n = (x, (bstr Y, w)) := by
  rw [bstr_app, bstr_bts]
  exact stp_app _ _ w n h
theorem val_num (n k : Nat) (h : n < 256 ^ k) : valL (bts (bstr (numL n k))) = n := by rw [bts_num, valL_num n k h]
theorem leaf_is {c : Cl} (h : leafB c = true) : 0 ≤ c.size ∧ c.size ≤ 4000 ∧ (c.loc.size : Int) = min c.size 100 ∧ (100 < c.size → 1 ≤ c.page ∧ c.page ≤ 256) ∧ (c.size ≤ 100 → c.page = 0) := by
  unfold leafB at h
  split at h
  · cases h
  · next h1 =>
    split at h
    · next h2 =>
      simp only [pageB, Bool.and_eq_true, decide_eq_true_eq] at h
      omega
    · next h2 =>
      have : c.page = 0 := by simpa using h
      omega
theorem inner_is {c : Cl} (h : innerB c = true) : c.size = 0 ∧ c.loc = ⟨#[]⟩ ∧ 1 ≤ c.page ∧ c.page ≤ 256 := by
  unfold innerB pageB at h
  simp only [Bool.and_eq_true, decide_eq_true_eq, beq_iff_eq] at h
  refine ⟨h.1.2, ?_, h.1.1.1, h.1.1.2⟩
  have := str_emp h.2
  exact empty_of this
theorem rdInner_put (c : Cl) (Y : List Nat) (w : Bool) (h : innerB c = true) (hk : c.key.size ≤ 100) : rdInner (bstr (cellL 2 c ++ Y), w) = (c, (bstr Y, w)) := by
  obtain ⟨h1, h2, h3, h4⟩ := inner_is h
  obtain ⟨k, z, l, p⟩ := c
  simp only at h1 h2 h3 h4 hk
  subst h1 h2
  have e : cellL 2 ⟨k, 0, ⟨#[]⟩, p⟩ ++ Y = numL k.size 1 ++ (bts k ++ (numL p.toNat 4 ++ Y)) := by simp [cellL]
  rw [e]
  have a1 := stp_num k.size 1 (bts k ++ (numL p.toNat 4 ++ Y)) w
  have v1 := val_num k.size 1 (by omega)
  have a2 := stp_txt k (numL p.toNat 4 ++ Y) w k.size rfl
  have a3 := stp_num p.toNat 4 Y w
  have v3 := val_num p.toNat 4 (by omega)
  simp only [rdInner, a1, v1, a2, a3, v3]
  rw [Int.toNat_of_nonneg (by omega)]
theorem rdLeaf_put (c : Cl) (Y : List Nat) (w : Bool) (h : leafB c = true) (hk : c.key.size ≤ 100) : rdLeaf (bstr (cellL 1 c ++ Y), w) = (c, (bstr Y, w)) := by
  obtain ⟨h1, h2, h3, h4, h5⟩ := leaf_is h
  obtain ⟨k, z, l, p⟩ := c
  simp only at h1 h2 h3 h4 h5 hk
  have v1 := val_num k.size 1 (by omega)
  have v3 := val_num z.toNat 2 (by omega)
  by_cases hz : 100 < z
  · have e : cellL 1 ⟨k, z, l, p⟩ ++ Y = numL k.size 1 ++ (bts k ++ (numL z.toNat 2 ++ (bts l ++ (numL p.toNat 4 ++ Y)))) := by simp [cellL, hz]
    rw [e]
    have a1 := stp_num k.size 1 (bts k ++ (numL z.toNat 2 ++ (bts l ++ (numL p.toNat 4 ++ Y)))) w
    have a2 := stp_txt k (numL z.toNat 2 ++ (bts l ++ (numL p.toNat 4 ++ Y))) w k.size rfl
    have a3 := stp_num z.toNat 2 (bts l ++ (numL p.toNat 4 ++ Y)) w
    have a4 := stp_txt l (numL p.toNat 4 ++ Y) w (min z.toNat 100) (by omega)
    have a5 := stp_num p.toNat 4 Y w
    have v5 := val_num p.toNat 4 (by omega)
    simp only [rdLeaf, rdL3, rdL4, a1, v1, a2, a3, v3, a4, a5, v5]
    rw [if_pos (by omega), Int.toNat_of_nonneg (by omega), Int.toNat_of_nonneg (by omega)]
  · have e : cellL 1 ⟨k, z, l, p⟩ ++ Y = numL k.size 1 ++ (bts k ++ (numL z.toNat 2 ++ (bts l ++ Y))) := by simp [cellL, hz]
    rw [e]
    have a1 := stp_num k.size 1 (bts k ++ (numL z.toNat 2 ++ (bts l ++ Y))) w
    have a2 := stp_txt k (numL z.toNat 2 ++ (bts l ++ Y)) w k.size rfl
    have a3 := stp_num z.toNat 2 (bts l ++ Y) w
    have a4 := stp_txt l Y w (min z.toNat 100) (by omega)
    simp only [rdLeaf, rdL3, rdL4, a1, v1, a2, a3, v3, a4]
    rw [if_neg (by omega), Int.toNat_of_nonneg (by omega), h5 (by omega)]
theorem rdC_put {rd : ByteArray × Bool → Cl × (ByteArray × Bool)} {kind : Int} {f : Cl → Bool} (hrd : ∀ (c : Cl) (Y : List Nat), f c = true → c.key.size ≤ 100 → rd (bstr (cellL kind c ++ Y), true) = (c, (bstr Y, true))) (Y : List Nat) : ∀ (l : List Cl) (p : Option ByteArray), okL f p l = true → rdC rd l.length (bstr (cellsL kind l ++ Y), true) = (some l, (bstr Y, true))
  | [], _, _ => rfl
  | c :: l, p, h => by
    rw [okL_step] at h
    simp only [Bool.and_eq_true, decide_eq_true_eq] at h
    have e : cellsL kind (c :: l) ++ Y = cellL kind c ++ (cellsL kind l ++ Y) := by simp [cellsL]
    rw [e, List.length_cons, rdC, hrd c _ h.1.1.2 (by omega)]
    simp only
    rw [rdC_put hrd Y l _ h.2]
    simp
/-- what was read, put again -/
theorem stp_back {s : ByteArray × Bool} {n : Nat} (h : (stp s n).2.2 = true) : s.2 = true ∧ (stp s n).1.size = n ∧ bts s.1 = bts (stp s n).1 ++ bts (stp s n).2.1 := by
  unfold stp textZ at h ⊢
  by_cases hn : s.1.size < n
  · rw [if_pos hn] at h
    cases h
  · rw [if_neg hn] at h ⊢
    refine ⟨h, ?_, ?_⟩
    · show (s.1.extract 0 n).size = n
      rw [ByteArray.size_extract]
      omega
    · show bts s.1 = bts (s.1.extract 0 n) ++ bts (s.1.extract n s.1.size)
      rw [bts_cutl, bts_cutr, List.take_append_drop]
theorem num_back {x : ByteArray} {k : Nat} (h : x.size = k) : numL (valL (bts x)) k = bts x := by
  have := num_val (bts x) (bts_lt x)
  rwa [bts_length, h] at this
theorem rdInner_back (s : ByteArray × Bool) (h : (rdInner s).2.2 = true) : s.2 = true ∧ bts s.1 = cellL 2 (rdInner s).1 ++ bts (rdInner s).2.1 := by
  unfold rdInner at h ⊢
  obtain ⟨h3, z3, b3⟩ := stp_back h
  obtain ⟨h2, z2, b2⟩ := stp_back h3
  obtain ⟨h1, z1, b1⟩ := stp_back h2
  refine ⟨h1, ?_⟩
  simp only [cellL]
  rw [if_neg (by omega), if_pos (.inl trivial), Int.toNat_natCast, z2, num_back z1, num_back z3, b1, b2, b3]
  simp
theorem rdLeaf_back (s : ByteArray × Bool) (h : (rdLeaf s).2.2 = true) : s.2 = true ∧ bts s.1 = cellL 1 (rdLeaf s).1 ++ bts (rdLeaf s).2.1 := by
  unfold rdLeaf at h ⊢
  by_cases hz : 100 < valL (bts (rdL3 s).1)
  · rw [if_pos hz] at h ⊢
    obtain ⟨h5, z5, b5⟩ := stp_back h
    obtain ⟨h4, z4, b4⟩ := stp_back (s := (rdL3 s).2) (n := min (valL (bts (rdL3 s).1)) 100) h5
    obtain ⟨h3, z3, b3⟩ := stp_back (s := (stp (stp s 1).2 (valL (bts (stp s 1).1))).2) (n := 2) h4
    obtain ⟨h2, z2, b2⟩ := stp_back h3
    obtain ⟨h1, z1, b1⟩ := stp_back h2
    refine ⟨h1, ?_⟩
    simp only [cellL]
    rw [if_pos trivial, if_pos (.inr (by omega)), Int.toNat_natCast, Int.toNat_natCast, z2, num_back z1, num_back (x := (rdL3 s).1) z3, num_back z5, b1, b2, b3]
    show _ ++ (_ ++ (_ ++ bts (rdL3 s).2.1)) = _
    rw [b4]
    show _ ++ (_ ++ (_ ++ (_ ++ bts (rdL4 s).2.1))) = _
    rw [b5]
    simp [rdL3, rdL4]
  · rw [if_neg hz] at h ⊢
    obtain ⟨h4, z4, b4⟩ := stp_back (s := (rdL3 s).2) (n := min (valL (bts (rdL3 s).1)) 100) h
    obtain ⟨h3, z3, b3⟩ := stp_back (s := (stp (stp s 1).2 (valL (bts (stp s 1).1))).2) (n := 2) h4
    obtain ⟨h2, z2, b2⟩ := stp_back h3
    obtain ⟨h1, z1, b1⟩ := stp_back h2
    refine ⟨h1, ?_⟩
    simp only [cellL]
    rw [if_pos trivial, if_neg (by omega), Int.toNat_natCast, z2, num_back z1, num_back (x := (rdL3 s).1) z3, b1, b2, b3]
    show _ ++ (_ ++ (_ ++ bts (rdL3 s).2.1)) = _
    rw [b4]
    simp [rdL3, rdL4]
theorem rdC_back {rd : ByteArray × Bool → Cl × (ByteArray × Bool)} {kind : Int} (hrd : ∀ s, (rd s).2.2 = true → s.2 = true ∧ bts s.1 = cellL kind (rd s).1 ++ bts (rd s).2.1) : ∀ (n : Nat) (s : ByteArray × Bool), (rdC rd n s).2.2 = true → ∃ l, (rdC rd n s).1 = some l ∧ l.length = n ∧ s.2 = true ∧ bts s.1 = cellsL kind l ++ bts (rdC rd n s).2.1
  | 0, s, h => ⟨[], rfl, rfl, h, by simp [cellsL, rdC]⟩
  | n + 1, s, h => by
    rw [rdC] at h ⊢
    by_cases hw : s.2 = false
    · rw [if_pos hw] at h
      rw [hw] at h
      cases h
    · rw [if_neg hw] at h ⊢
      obtain ⟨l, e1, e2, e3, e4⟩ := rdC_back hrd n (rd s).2 h
      obtain ⟨e5, e6⟩ := hrd s e3
      refine ⟨(rd s).1 :: l, by simp only [e1]; rfl, by simp [e2], e5, ?_⟩
      rw [e6, e4, cellsL, List.append_assoc]
/-- the page's head: kind, count, first; what is left -/
def tk0 (s : ByteArray) : ByteArray × (ByteArray × Bool) := stp (s, (s.size : Int) == 512) 1
def tkK (s : ByteArray) : Nat := valL (bts (tk0 s).1)
def tk1 (s : ByteArray) : ByteArray × (ByteArray × Bool) := stp (tk0 s).2 2
def tkN (s : ByteArray) : Nat := valL (bts (tk1 s).1)
def tk2 (s : ByteArray) : ByteArray × (ByteArray × Bool) := stp (tk1 s).2 4
def tkF (s : ByteArray) : Nat := if tkK s = 1 then 0 else valL (bts (tk2 s).1)
def tkS (s : ByteArray) : ByteArray × Bool := if tkK s = 1 then (tk1 s).2 else (tk2 s).2
def zer (s : ByteArray) : Bool := (bts s).all (· == 0)
/-- the cells, the data, what is left behind them -/
def tkC (s : ByteArray) : Option (List Cl) × (ByteArray × Bool) := if tkK s = 1 then rdC rdLeaf (tkN s) (tkS s) else rdC rdInner (tkN s) (tkS s)
def tkL (s : ByteArray) : List Cl := if tkK s = 1 ∨ tkK s = 2 then (tkC s).1.getD [] else []
def tkD (s : ByteArray) : ByteArray := if tkK s = 3 then (stp (tkS s) (tkN s)).1 else ⟨#[]⟩
def tkE (s : ByteArray) : ByteArray × Bool := if tkK s = 1 ∨ tkK s = 2 then (tkC s).2 else if tkK s = 3 then (stp (tkS s) (tkN s)).2 else ((tkS s).1, (tkS s).2 && tkN s == 0)
def tkOk (s : ByteArray) : Bool := (tkE s).2 && zer (tkE s).1 && mayB (tkK s) (tkF s) (tkL s) (tkD s)
theorem may_kind {kind first : Int} {l : List Cl} {data : ByteArray} (h : mayB kind first l data = true) : kind = 1 ∨ kind = 2 ∨ kind = 3 ∨ kind = 4 := by
  unfold mayB at h
  split at h
  · exact .inl ‹_›
  split at h
  · exact .inr (.inl ‹_›)
  split at h
  · exact .inr (.inr (.inl ‹_›))
  split at h
  · exact .inr (.inr (.inr ‹_›))
  · cases h
theorem may_1 {first : Int} {l : List Cl} {data : ByteArray} : mayB 1 first l data = (first == 0 && data.toList.isEmpty && okL leafB none l) := rfl
theorem may_2 {first : Int} {l : List Cl} {data : ByteArray} : mayB 2 first l data = (pageB first 1 && data.toList.isEmpty && decide (0 < l.length) && okL innerB none l) := rfl
theorem may_3 {first : Int} {l : List Cl} {data : ByteArray} : mayB 3 first l data = (pageB first 0 && l.length == 0 && decide (0 < data.size) && decide (data.size ≤ 505)) := rfl
theorem may_4 {first : Int} {l : List Cl} {data : ByteArray} : mayB 4 first l data = (pageB first 0 && l.length == 0 && data.toList.isEmpty) := rfl
theorem emp_of {s : ByteArray} (h : s.toList.isEmpty = true) : s = ⟨#[]⟩ := empty_of (str_emp h)
theorem cellsZ_ge (kind : Int) : ∀ l : List Cl, l.length ≤ cellsZ kind l
  | [] => Nat.le_refl _
  | c :: l => by
    rw [cellsZ_cons, List.length_cons]
    have := cellsZ_ge kind l
    unfold cellZ
    omega
theorem nodeL_length (kind first : Int) (l : List Cl) (data : ByteArray) : (nodeL kind first l data).length = headZ kind data + cellsZ kind l := by
  have := headL_length kind first l data
  unfold nodeL
  rw [List.length_append, List.length_append, cellsL_length, bts_length]
  omega
theorem zer_rep (m : Nat) : zer (bstr (List.replicate m 0)) = true := by
  unfold zer
  rw [bts_bstr _ (fun x hx => by rw [(List.mem_replicate.1 hx).2]; omega)]
  simp
theorem zer_is {s : ByteArray} (h : zer s = true) : bts s = List.replicate s.size 0 := by
  unfold zer at h
  rw [List.all_eq_true] at h
  exact List.eq_replicate_iff.2 ⟨bts_length s, fun b hb => by simpa using h b hb⟩
/-- the head of what was put -/
theorem head_1 (n : Nat) (Y : List Nat) (hn : n < 65536) (hs : (bstr (numL 1 1 ++ (numL n 2 ++ Y))).size = 512) :
    tkK (bstr (numL 1 1 ++ (numL n 2 ++ Y))) = 1 ∧ tkN (bstr (numL 1 1 ++ (numL n 2 ++ Y))) = n ∧ tkF (bstr (numL 1 1 ++ (numL n 2 ++ Y))) = 0 ∧ tkS (bstr (numL 1 1 ++ (numL n 2 ++ Y))) = (bstr Y, true) := by
  generalize hS : bstr (numL 1 1 ++ (numL n 2 ++ Y)) = S at *
  have e0 : tk0 S = (bstr (numL 1 1), (bstr (numL n 2 ++ Y), true)) := by
    unfold tk0
    rw [hs, ← hS]
    exact stp_num 1 1 _ _
  have e1 : tk1 S = (bstr (numL n 2), (bstr Y, true)) := by
    unfold tk1
    rw [e0]
    exact stp_num n 2 _ _
  have k : tkK S = 1 := by
    unfold tkK
    rw [e0]
    exact val_num 1 1 (by omega)
  refine ⟨k, ?_, ?_, ?_⟩
  · unfold tkN
    rw [e1]
    exact val_num n 2 (by omega)
  · unfold tkF
    rw [if_pos k]
  · unfold tkS
    rw [if_pos k, e1]
theorem head_o (K n f : Nat) (Y : List Nat) (hK : K < 256) (hK1 : K ≠ 1) (hn : n < 65536) (hf : f < 4294967296) (hs : (bstr (numL K 1 ++ (numL n 2 ++ (numL f 4 ++ Y)))).size = 512) :
    tkK (bstr (numL K 1 ++ (numL n 2 ++ (numL f 4 ++ Y)))) = K ∧ tkN (bstr (numL K 1 ++ (numL n 2 ++ (numL f 4 ++ Y)))) = n ∧ tkF (bstr (numL K 1 ++ (numL n 2 ++ (numL f 4 ++ Y)))) = f ∧ tkS (bstr (numL K 1 ++ (numL n 2 ++ (numL f 4 ++ Y)))) = (bstr Y, true) := by
  generalize hS : bstr (numL K 1 ++ (numL n 2 ++ (numL f 4 ++ Y))) = S at *
  have e0 : tk0 S = (bstr (numL K 1), (bstr (numL n 2 ++ (numL f 4 ++ Y)), true)) := by
    unfold tk0
    rw [hs, ← hS]
    exact stp_num K 1 _ _
  have e1 : tk1 S = (bstr (numL n 2), (bstr (numL f 4 ++ Y), true)) := by
    unfold tk1
    rw [e0]
    exact stp_num n 2 _ _
  have e2 : tk2 S = (bstr (numL f 4), (bstr Y, true)) := by
    unfold tk2
    rw [e1]
    exact stp_num f 4 _ _
  have k : tkK S = K := by
    unfold tkK
    rw [e0]
    exact val_num K 1 (by omega)
  refine ⟨k, ?_, ?_, ?_⟩
  · unfold tkN
    rw [e1]
    exact val_num n 2 (by omega)
  · unfold tkF
    rw [if_neg (by omega), e2]
    exact val_num f 4 (by omega)
  · unfold tkS
    rw [if_neg (by omega), e2]
/-- what is put is taken -/
theorem take_put {kind first : Int} {l : List Cl} {data : ByteArray} {m : Nat} (h : mayB kind first l data = true) (hm : headZ kind data + cellsZ kind l + m = 512) :
    tkOk (bstr (nodeL kind first l data ++ List.replicate m 0)) = true ∧ (tkK (bstr (nodeL kind first l data ++ List.replicate m 0)) : Int) = kind ∧ (tkF (bstr (nodeL kind first l data ++ List.replicate m 0)) : Int) = first ∧ tkL (bstr (nodeL kind first l data ++ List.replicate m 0)) = l ∧ tkD (bstr (nodeL kind first l data ++ List.replicate m 0)) = data := by
  have hs : (bstr (nodeL kind first l data ++ List.replicate m 0)).size = 512 := by
    rw [bstr_size, List.length_append, nodeL_length, List.length_replicate, hm]
  have hl := cellsZ_ge kind l
  have hd : 3 + data.size ≤ headZ kind data := by unfold headZ; omega
  rcases may_kind h with rfl | rfl | rfl | rfl
  · rw [may_1] at h
    simp only [Bool.and_eq_true, beq_iff_eq] at h
    obtain ⟨⟨rfl, h2⟩, h3⟩ := h
    obtain rfl := emp_of h2
    have e : nodeL 1 0 l ⟨#[]⟩ ++ List.replicate m 0 = numL 1 1 ++ (numL l.length 2 ++ (cellsL 1 l ++ List.replicate m 0)) := by simp [nodeL, headL, bts]; rfl
    rw [e] at hs ⊢
    obtain ⟨k1, k2, k3, k4⟩ := head_1 l.length _ (by omega) hs
    generalize bstr (numL 1 1 ++ (numL l.length 2 ++ (cellsL 1 l ++ List.replicate m 0))) = S at *
    have hc : tkC S = (some l, (bstr (List.replicate m 0), true)) := by
      unfold tkC
      rw [if_pos k1, k2, k4]
      exact rdC_put (kind := 1) (f := leafB) (fun c Y h1 h2 => rdLeaf_put c Y true h1 h2) _ l none h3
    have hL : tkL S = l := by unfold tkL; rw [if_pos (.inl k1), hc]; rfl
    have hD : tkD S = ⟨#[]⟩ := by unfold tkD; rw [if_neg (by omega)]
    have hE : tkE S = (bstr (List.replicate m 0), true) := by unfold tkE; rw [if_pos (.inl k1), hc]
    refine ⟨?_, by rw [k1]; rfl, by rw [k3]; rfl, hL, hD⟩
    unfold tkOk
    rw [hE, hL, hD, k1, k3, zer_rep]
    show (true && mayB 1 0 l ⟨#[]⟩) = true
    rw [may_1, h2, h3]
    rfl
  · rw [may_2] at h
    simp only [Bool.and_eq_true, decide_eq_true_eq, pageB] at h
    obtain ⟨⟨⟨⟨h0, h1⟩, h2⟩, h4⟩, h3⟩ := h
    obtain rfl := emp_of h2
    obtain ⟨f, rfl⟩ : ∃ f : Nat, first = (f : Int) := ⟨first.toNat, by omega⟩
    have e : nodeL 2 f l ⟨#[]⟩ ++ List.replicate m 0 = numL 2 1 ++ (numL l.length 2 ++ (numL f 4 ++ (cellsL 2 l ++ List.replicate m 0))) := by simp [nodeL, headL, bts]; rfl
    rw [e] at hs ⊢
    obtain ⟨k1, k2, k3, k4⟩ := head_o 2 l.length f _ (by omega) (by omega) (by omega) (by omega) hs
    generalize bstr (numL 2 1 ++ (numL l.length 2 ++ (numL f 4 ++ (cellsL 2 l ++ List.replicate m 0)))) = S at *
    have hc : tkC S = (some l, (bstr (List.replicate m 0), true)) := by
      unfold tkC
      rw [if_neg (by omega), k2, k4]
      exact rdC_put (kind := 2) (f := innerB) (fun c Y h1 h2 => rdInner_put c Y true h1 h2) _ l none h3
    have hL : tkL S = l := by unfold tkL; rw [if_pos (.inr k1), hc]; rfl
    have hD : tkD S = ⟨#[]⟩ := by unfold tkD; rw [if_neg (by omega)]
    have hE : tkE S = (bstr (List.replicate m 0), true) := by unfold tkE; rw [if_pos (.inr k1), hc]
    refine ⟨?_, by rw [k1]; rfl, by rw [k3], hL, hD⟩
    unfold tkOk
    rw [hE, hL, hD, k1, k3, zer_rep]
    show (true && mayB 2 f l ⟨#[]⟩) = true
    rw [may_2, h2, h3, pageB, decide_eq_true h0, decide_eq_true h1, decide_eq_true h4]
    rfl
  · rw [may_3] at h
    simp only [Bool.and_eq_true, decide_eq_true_eq, pageB, beq_iff_eq] at h
    obtain ⟨⟨⟨⟨h0, h1⟩, h2⟩, h4⟩, h3⟩ := h
    obtain rfl := List.length_eq_zero_iff.1 h2
    obtain ⟨f, rfl⟩ : ∃ f : Nat, first = (f : Int) := ⟨first.toNat, by omega⟩
    have e : nodeL 3 f [] data ++ List.replicate m 0 = numL 3 1 ++ (numL data.size 2 ++ (numL f 4 ++ (bts data ++ List.replicate m 0))) := by simp [nodeL, headL, cellsL]
    rw [e] at hs ⊢
    obtain ⟨k1, k2, k3, k4⟩ := head_o 3 data.size f _ (by omega) (by omega) (by omega) (by omega) hs
    generalize bstr (numL 3 1 ++ (numL data.size 2 ++ (numL f 4 ++ (bts data ++ List.replicate m 0)))) = S at *
    have hc : stp (tkS S) (tkN S) = (data, (bstr (List.replicate m 0), true)) := by
      rw [k2, k4]
      exact stp_txt data _ true _ rfl
    have hL : tkL S = [] := by unfold tkL; rw [if_neg (by omega)]
    have hD : tkD S = data := by unfold tkD; rw [if_pos k1, hc]
    have hE : tkE S = (bstr (List.replicate m 0), true) := by unfold tkE; rw [if_neg (by omega), if_pos k1, hc]
    refine ⟨?_, by rw [k1]; rfl, by rw [k3], hL, hD⟩
    unfold tkOk
    rw [hE, hL, hD, k1, k3, zer_rep]
    show (true && mayB 3 f [] data) = true
    rw [may_3, pageB, decide_eq_true h0, decide_eq_true h1, decide_eq_true h4, decide_eq_true h3]
    rfl
  · rw [may_4] at h
    simp only [Bool.and_eq_true, decide_eq_true_eq, pageB, beq_iff_eq] at h
    obtain ⟨⟨⟨h0, h1⟩, h2⟩, h4⟩ := h
    obtain rfl := List.length_eq_zero_iff.1 h2
    obtain rfl := emp_of h4
    obtain ⟨f, rfl⟩ : ∃ f : Nat, first = (f : Int) := ⟨first.toNat, by omega⟩
    have e : nodeL 4 f [] ⟨#[]⟩ ++ List.replicate m 0 = numL 4 1 ++ (numL 0 2 ++ (numL f 4 ++ List.replicate m 0)) := by simp [nodeL, headL, cellsL, bts]; rfl
    rw [e] at hs ⊢
    obtain ⟨k1, k2, k3, k4⟩ := head_o 4 0 f _ (by omega) (by omega) (by omega) (by omega) hs
    generalize bstr (numL 4 1 ++ (numL 0 2 ++ (numL f 4 ++ List.replicate m 0))) = S at *
    have hL : tkL S = [] := by unfold tkL; rw [if_neg (by omega)]
    have hD : tkD S = ⟨#[]⟩ := by unfold tkD; rw [if_neg (by omega)]
    have hE : tkE S = (bstr (List.replicate m 0), true) := by unfold tkE; rw [if_neg (by omega), if_neg (by omega), k2, k4]; rfl
    refine ⟨?_, by rw [k1]; rfl, by rw [k3], hL, hD⟩
    unfold tkOk
    rw [hE, hL, hD, k1, k3, zer_rep]
    show (true && mayB 4 f [] ⟨#[]⟩) = true
    rw [may_4, h4, pageB, decide_eq_true h0, decide_eq_true h1]
    rfl
theorem head_back {s : ByteArray} (h : (tk1 s).2.2 = true) : s.size = 512 ∧ bts s = numL (tkK s) 1 ++ (numL (tkN s) 2 ++ bts (tk1 s).2.1) := by
  obtain ⟨h1, z1, b1⟩ := stp_back (s := (tk0 s).2) (n := 2) h
  obtain ⟨h0, z0, b0⟩ := stp_back (s := (s, (s.size : Int) == 512)) (n := 1) h1
  refine ⟨by have : (s.size : Int) = 512 := by simpa using h0
             omega, ?_⟩
  rw [show numL (tkK s) 1 = bts (tk0 s).1 from num_back z0, show numL (tkN s) 2 = bts (tk1 s).1 from num_back z1]
  exact b0.trans (by rw [show bts (stp (s, (s.size : Int) == 512) 1).2.1 = _ from b1]; rfl)
theorem tkS_back {s : ByteArray} (h : (tkS s).2 = true) : s.size = 512 ∧ bts s = numL (tkK s) 1 ++ (numL (tkN s) 2 ++ ((if tkK s = 1 then [] else numL (tkF s) 4) ++ bts (tkS s).1)) := by
  unfold tkS at h ⊢
  by_cases k : tkK s = 1
  · rw [if_pos k] at h ⊢
    rw [if_pos k]
    exact head_back h
  · rw [if_neg k] at h ⊢
    obtain ⟨h2, z2, b2⟩ := stp_back (s := (tk1 s).2) (n := 4) h
    obtain ⟨h3, b3⟩ := head_back h2
    refine ⟨h3, ?_⟩
    rw [if_neg k, tkF, if_neg k, show numL (valL (bts (tk2 s).1)) 4 = bts (tk2 s).1 from num_back z2]
    exact b3.trans (by rw [b2]; rfl)
theorem tk_lt (s : ByteArray) : tkN s < 65536 ∧ tkK s < 256 := ⟨stp_val _ 2 (by omega), stp_val _ 1 (by omega)⟩
/-- what is taken is put as it was -/
theorem put_take {s : ByteArray} (h : tkOk s = true) : putN (tkK s) (tkF s) (tkL s) (tkD s) = (s, 0) := by
  unfold tkOk at h
  simp only [Bool.and_eq_true] at h
  obtain ⟨⟨h1, h2⟩, h3⟩ := h
  have hz := zer_is h2
  have key : bts s = nodeL (tkK s) (tkF s) (tkL s) (tkD s) ++ bts (tkE s).1 ∧ s.size = 512 := by
    unfold nodeL headL
    rw [Int.toNat_natCast, Int.toNat_natCast]
    have hk := may_kind h3
    by_cases k1 : tkK s = 1
    · have e1 : tkE s = (tkC s).2 := by unfold tkE; rw [if_pos (.inl k1)]
      rw [e1] at h1 hz ⊢
      have e2 : tkC s = rdC rdLeaf (tkN s) (tkS s) := by unfold tkC; rw [if_pos k1]
      rw [e2] at h1 hz ⊢
      obtain ⟨l, a1, a2, a3, a4⟩ := rdC_back (kind := 1) rdLeaf_back (tkN s) (tkS s) h1
      obtain ⟨b1, b2⟩ := tkS_back a3
      have hL : tkL s = l := by unfold tkL; rw [if_pos (.inl k1), e2, a1]; rfl
      have hD : tkD s = ⟨#[]⟩ := by unfold tkD; rw [if_neg (by omega)]
      refine ⟨?_, b1⟩
      rw [hL, hD, b2, a4, a2, if_pos k1, k1]
      simp [bts]
      rfl
    by_cases k2 : tkK s = 2
    · have e1 : tkE s = (tkC s).2 := by unfold tkE; rw [if_pos (.inr k2)]
      rw [e1] at h1 hz ⊢
      have e2 : tkC s = rdC rdInner (tkN s) (tkS s) := by unfold tkC; rw [if_neg k1]
      rw [e2] at h1 hz ⊢
      obtain ⟨l, a1, a2, a3, a4⟩ := rdC_back (kind := 2) rdInner_back (tkN s) (tkS s) h1
      obtain ⟨b1, b2⟩ := tkS_back a3
      have hL : tkL s = l := by unfold tkL; rw [if_pos (.inr k2), e2, a1]; rfl
      have hD : tkD s = ⟨#[]⟩ := by unfold tkD; rw [if_neg (by omega)]
      refine ⟨?_, b1⟩
      rw [hL, hD, b2, a4, a2, if_neg k1, k2]
      simp [bts]
      rfl
    by_cases k3 : tkK s = 3
    · have e1 : tkE s = (stp (tkS s) (tkN s)).2 := by unfold tkE; rw [if_neg (by omega), if_pos k3]
      rw [e1] at h1 hz ⊢
      obtain ⟨a3, a2, a4⟩ := stp_back h1
      obtain ⟨b1, b2⟩ := tkS_back a3
      have hL : tkL s = [] := by unfold tkL; rw [if_neg (by omega)]
      have hD : tkD s = (stp (tkS s) (tkN s)).1 := by unfold tkD; rw [if_pos k3]
      refine ⟨?_, b1⟩
      rw [hL, hD, a2, b2, a4, if_neg k1, if_neg (by omega)]
      simp [cellsL]
    · have e1 : tkE s = ((tkS s).1, (tkS s).2 && tkN s == 0) := by unfold tkE; rw [if_neg (by omega), if_neg k3]
      rw [e1] at h1 hz ⊢
      simp only [Bool.and_eq_true, beq_iff_eq] at h1
      obtain ⟨b1, b2⟩ := tkS_back h1.1
      have hL : tkL s = [] := by unfold tkL; rw [if_neg (by omega)]
      have hD : tkD s = ⟨#[]⟩ := by unfold tkD; rw [if_neg k3]
      refine ⟨?_, b1⟩
      rw [hL, hD, b2, h1.2, if_neg k1, if_neg (by omega)]
      simp [cellsL, bts]
      rfl
  have hlen := congrArg List.length key.1
  rw [List.length_append, nodeL_length, bts_length, bts_length, key.2] at hlen
  have hsz : sizeZ (tkK s) (tkF s) (tkL s) (tkD s) = ((headZ (tkK s) (tkD s) + cellsZ (tkK s) (tkL s) : Nat) : Int) := by unfold sizeZ; rw [if_pos h3]
  have hh : 3 ≤ headZ (tkK s) (tkD s) := by unfold headZ; omega
  unfold putN
  rw [hsz, if_neg (by omega), if_neg (by omega), Int.toNat_natCast]
  rw [hz] at key
  rw [show 512 - (headZ (tkK s) (tkD s) + cellsZ (tkK s) (tkL s)) = (tkE s).1.size by omega, ← key.1, bstr_bts]
theorem okL_take {f : Cl → Bool} : ∀ (l : List Cl) (p : Option ByteArray) (k : Nat), okL f p l = true → okL f p (l.take k) = true
  | [], p, k, _ => by simp [okL]
  | c :: l, p, 0, _ => rfl
  | c :: l, p, k + 1, h => by
    rw [List.take_succ_cons, okL_step]
    rw [okL_step] at h
    simp only [Bool.and_eq_true] at h ⊢
    exact ⟨h.1, okL_take l _ k h.2⟩
theorem size_pos {kind first : Int} {l : List Cl} {data : ByteArray} (h : mayB kind first l data = true) : sizeZ kind first l data = ((headZ kind data + cellsZ kind l : Nat) : Int) ∧ 3 ≤ headZ kind data := ⟨by unfold sizeZ; rw [if_pos h], by unfold headZ; omega⟩
theorem size_may {kind first : Int} {l : List Cl} {data : ByteArray} (h : sizeZ kind first l data ≠ 0) : mayB kind first l data = true := by
  unfold sizeZ at h
  by_cases hm : mayB kind first l data = true
  · exact hm
  · rw [if_neg hm] at h
    exact absurd rfl h
theorem last_take {l : List Cl} {k : Nat} (h : l.length = k + 1) (hk : k < l.length) : l = l.take k ++ [l[k]] := by
  have := List.take_succ_eq_append_getElem hk
  rw [← this, List.take_of_length_le (by omega)]
theorem cells_last {kind : Int} {l : List Cl} {k : Nat} (h : l.length = k + 1) (hk : k < l.length) : cellsZ kind l = cellsZ kind (l.take k) + cellZ kind l[k] := by
  conv => lhs; rw [last_take h hk]
  exact cellsZ_snoc kind _ _
theorem less_0 {kind first : Int} {l : List Cl} {data : ByteArray} {k : Nat} (hl : l.length = k + 1) (ha : sizeZ kind first l data ≠ 0) (hb : sizeZ kind first (l.take k) data = 0) : kind = 2 ∧ k = 0 := by
  have hm := size_may ha
  have hno : mayB kind first (l.take k) data = true → False := fun h => by have := size_pos h; omega
  rcases may_kind hm with rfl | rfl | rfl | rfl
  · refine absurd ?_ hno
    rw [may_1] at hm ⊢
    simp only [Bool.and_eq_true] at hm ⊢
    exact ⟨hm.1, okL_take _ _ _ hm.2⟩
  · refine ⟨rfl, ?_⟩
    by_cases hk : k = 0
    · exact hk
    · refine absurd ?_ hno
      rw [may_2] at hm ⊢
      simp only [Bool.and_eq_true, decide_eq_true_eq] at hm ⊢
      exact ⟨⟨hm.1.1, by rw [List.length_take]; omega⟩, okL_take _ _ _ hm.2⟩
  · rw [may_3] at hm
    simp only [Bool.and_eq_true, beq_iff_eq] at hm
    omega
  · rw [may_4] at hm
    simp only [Bool.and_eq_true, beq_iff_eq] at hm
    omega
theorem less_2 {first : Int} {l : List Cl} {data : ByteArray} {k : Nat} (hl : l.length = k + 1) (hk : k < l.length) (ha : sizeZ 2 first l data ≠ 0) (hb : sizeZ 2 first (l.take k) data ≠ 0) : sizeZ 2 first l data = sizeZ 2 first (l.take k) data + 5 + l[k].key.size := by
  rw [(size_pos (size_may ha)).1, (size_pos (size_may hb)).1, cells_last hl hk, cellZ_2]
  omega
theorem less_1 {kind first : Int} {l : List Cl} {data : ByteArray} {k : Nat} (hl : l.length = k + 1) (hk : k < l.length) (h2 : kind ≠ 2) (ha : sizeZ kind first l data ≠ 0) (hb : sizeZ kind first (l.take k) data ≠ 0) : sizeZ kind first l data = sizeZ kind first (l.take k) data + 3 + l[k].key.size + min l[k].size 100 + (if 100 < l[k].size then 4 else 0) := by
  have hm := size_may ha
  have h1 : kind = 1 := by
    rcases may_kind hm with rfl | rfl | rfl | rfl
    · rfl
    · exact absurd rfl h2
    · rw [may_3] at hm
      simp only [Bool.and_eq_true, beq_iff_eq] at hm
      omega
    · rw [may_4] at hm
      simp only [Bool.and_eq_true, beq_iff_eq] at hm
      omega
  subst h1
  have ho := okL_all l none (okl_1 hm) l[k] (List.getElem_mem hk)
  obtain ⟨_, _, h3, _, _⟩ := leaf_is ho
  rw [(size_pos hm).1, (size_pos (size_may hb)).1, cells_last hl hk, cellZ_1]
  split <;> omega
theorem room_ok {kind first : Int} {l : List Cl} {data : ByteArray} (h : (kind = 1 ∧ l.length ≤ 2) ∨ (kind = 2 ∧ l.length ≤ 4) ∨ 2 < kind) : sizeZ kind first l data ≤ 512 := by
  by_cases hm : mayB kind first l data = true
  · rw [(size_pos hm).1]
    have hs := may_short hm
    rcases may_kind hm with rfl | rfl | rfl | rfl
    · rw [may_1] at hm
      simp only [Bool.and_eq_true] at hm
      have h0 := str_emp hm.1.2
      have h1 := cellsZ_le (kind := 1) l hs.1
      have : headZ 1 data = 3 := by unfold headZ; rw [if_pos rfl, h0]
      omega
    · have ho := okL_all l none (okl_2 hm)
      rw [may_2] at hm
      simp only [Bool.and_eq_true] at hm
      have h0 := str_emp hm.1.1.2
      have h1 : ∀ m : List Cl, (∀ c ∈ m, c.key.size ≤ 100) → cellsZ 2 m ≤ 105 * m.length := by
        intro m
        induction m with
        | nil => intro _; simp [cellsZ]
        | cons c m ih =>
          intro hc
          rw [cellsZ_cons, cellZ_2, List.length_cons]
          have := ih (fun x hx => hc x (.tail _ hx))
          have := hc c (.head _)
          omega
      have h2 := h1 l (fun c hc => (hs.1 c hc).1)
      have : headZ 2 data = 7 := by unfold headZ; rw [if_neg (by omega), h0]
      omega
    · rw [may_3] at hm
      simp only [Bool.and_eq_true, beq_iff_eq] at hm
      obtain rfl := List.length_eq_zero_iff.1 hm.1.1.2
      have : headZ 3 data = 7 + data.size := by unfold headZ; rw [if_neg (by omega)]; omega
      have : cellsZ 3 [] = 0 := rfl
      have := hs.2
      omega
    · rw [may_4] at hm
      simp only [Bool.and_eq_true, beq_iff_eq] at hm
      obtain rfl := List.length_eq_zero_iff.1 hm.1.2
      have h0 := str_emp hm.2
      have : headZ 4 data = 7 := by unfold headZ; rw [if_neg (by omega), h0]
      have : cellsZ 4 [] = 0 := rfl
      omega
  · unfold sizeZ
    rw [if_neg hm]
    omega
theorem room_put {kind first : Int} {l : List Cl} {data : ByteArray} (h : sizeZ kind first l data ≤ 512) : (sizeZ kind first l data = 0 ∧ (putN kind first l data).2 = 2) ∨ (putN kind first l data).2 = 0 := by
  unfold putN
  by_cases h0 : sizeZ kind first l data = 0
  · rw [if_pos h0]; exact .inl ⟨h0, rfl⟩
  · rw [if_neg h0, if_neg (by omega)]; exact .inr rfl
theorem full_put (kind first : Int) (l : List Cl) (data : ByteArray) : ((putN kind first l data).2 == 8) = decide (512 < sizeZ kind first l data) := by
  unfold putN
  by_cases h0 : sizeZ kind first l data = 0
  · rw [if_pos h0, h0]; rfl
  · rw [if_neg h0]
    by_cases h1 : 512 < sizeZ kind first l data
    · rw [if_pos h1, decide_eq_true h1]; rfl
    · rw [if_neg h1, decide_eq_false h1]; rfl
end Go.Proofs.YticpenbebokjdaaDoor
