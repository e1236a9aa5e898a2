/- ref10.Take's reading by places: it reads what was put. Nothing of the program is named here. Conditions: those of each lemma. -/
import Derived.Test.YticpenbebokjdaaDoorNd20
namespace Go.Proofs.YticpenbebokjdaaDoor
open Go.RowKit Go
set_option linter.unusedVariables false
/-- the bytes of what is taken -/
theorem take_bytes {s : ByteArray} (h : tkOk s = true) : bts s = nodeL (tkK s) (tkF s) (tkL s) (tkD s) ++ bts (tkE s).1 ∧ s.size = 512 := by
  unfold tkOk at h
  simp only [Bool.and_eq_true] at h
  obtain ⟨⟨h1, h2⟩, h3⟩ := h
  have hz := zer_is h2
  have key : bts s = nodeL (tkK s) (tkF s) (tkL s) (tkD s) ++ bts (tkE s).1 ∧ s.size = 512 := by
    unfold nodeL headL
    rw [Int.toNat_natCast, Int.toNat_natCast]
    have hk := may_kind h3
    by_cases k1 : tkK s = 1
    · have e1 : tkE s = (tkC s).2 := by unfold tkE; rw [if_pos (.inl k1)]
      rw [e1] at h1 hz ⊢
      have e2 : tkC s = rdC rdLeaf (tkN s) (tkS s) := by unfold tkC; rw [if_pos k1]
      rw [e2] at h1 hz ⊢
      obtain ⟨l, a1, a2, a3, a4⟩ := rdC_back (kind := 1) rdLeaf_back (tkN s) (tkS s) h1
      obtain ⟨b1, b2⟩ := tkS_back a3
      have hL : tkL s = l := by unfold tkL; rw [if_pos (.inl k1), e2, a1]; rfl
      have hD : tkD s = ⟨#[]⟩ := by unfold tkD; rw [if_neg (by omega)]
      refine ⟨?_, b1⟩
      rw [hL, hD, b2, a4, a2, if_pos k1, k1]
      simp [bts]
      rfl
    by_cases k2 : tkK s = 2
    · have e1 : tkE s = (tkC s).2 := by unfold tkE; rw [if_pos (.inr k2)]
      rw [e1] at h1 hz ⊢
      have e2 : tkC s = rdC rdInner (tkN s) (tkS s) := by unfold tkC; rw [if_neg k1]
      rw [e2] at h1 hz ⊢
      obtain ⟨l, a1, a2, a3, a4⟩ := rdC_back (kind := 2) rdInner_back (tkN s) (tkS s) h1
      obtain ⟨b1, b2⟩ := tkS_back a3
      have hL : tkL s = l := by unfold tkL; rw [if_pos (.inr k2), e2, a1]; rfl
      have hD : tkD s = ⟨#[]⟩ := by unfold tkD; rw [if_neg (by omega)]
      refine ⟨?_, b1⟩
      rw [hL, hD, b2, a4, a2, if_neg k1, k2]
      simp [bts]
      rfl
    by_cases k3 : tkK s = 3
    · have e1 : tkE s = (stp (tkS s) (tkN s)).2 := by unfold tkE; rw [if_neg (by omega), if_pos k3]
      rw [e1] at h1 hz ⊢
      obtain ⟨a3, a2, a4⟩ := stp_back h1
      obtain ⟨b1, b2⟩ := tkS_back a3
      have hL : tkL s = [] := by unfold tkL; rw [if_neg (by omega)]
      have hD : tkD s = (stp (tkS s) (tkN s)).1 := by unfold tkD; rw [if_pos k3]
      refine ⟨?_, b1⟩
      rw [hL, hD, a2, b2, a4, if_neg k1, if_neg (by omega)]
      simp [cellsL]
    · have e1 : tkE s = ((tkS s).1, (tkS s).2 && tkN s == 0) := by unfold tkE; rw [if_neg (by omega), if_neg k3]
      rw [e1] at h1 hz ⊢
      simp only [Bool.and_eq_true, beq_iff_eq] at h1
      obtain ⟨b1, b2⟩ := tkS_back h1.1
      have hL : tkL s = [] := by unfold tkL; rw [if_neg (by omega)]
      have hD : tkD s = ⟨#[]⟩ := by unfold tkD; rw [if_neg k3]
      refine ⟨?_, b1⟩
      rw [hL, hD, b2, h1.2, if_neg k1, if_neg (by omega)]
      simp [cellsL, bts]
      rfl
  exact key
/-- the next cell, by places -/
def rkey (s : ByteArray) (p : Nat) : ByteArray := partR s (p + 1) (valR s p 1)
def rp1 (s : ByteArray) (p : Nat) : Nat := p + 1 + valR s p 1
def rloc (s : ByteArray) (p : Nat) : ByteArray := partR s (rp1 s p + 2) (min (valR s (rp1 s p) 2) 100)
def rp2 (s : ByteArray) (p : Nat) : Nat := rp1 s p + 2 + (rloc s p).size
def rcellR (K : Nat) (s : ByteArray) (p : Nat) : Cl × Nat :=
  if K = 1 then (if 100 < valR s (rp1 s p) 2 then (⟨rkey s p, valR s (rp1 s p) 2, rloc s p, valR s (rp2 s p) 4⟩, rp2 s p + 4) else (⟨rkey s p, valR s (rp1 s p) 2, rloc s p, 0⟩, rp2 s p))
  else if K = 2 then (⟨rkey s p, 0, ⟨#[]⟩, valR s (rp1 s p) 4⟩, rp1 s p + 4)
  else (⟨rkey s p, 0, ⟨#[]⟩, 0⟩, rp1 s p)
def rcellsR (K : Nat) (s : ByteArray) : Nat → Nat → List Cl
  | 0, _ => []
  | m + 1, p => if p < s.size then (rcellR K s p).1 :: rcellsR K s m (rcellR K s p).2 else []
def rtK (s : ByteArray) : Nat := valR s 0 1
def rtN (s : ByteArray) : Nat := valR s 1 2
def rtF (s : ByteArray) : Nat := if rtK s = 1 then 0 else valR s 3 4
def rtP (s : ByteArray) : Nat := if rtK s = 1 then 3 else 7
def rtD (s : ByteArray) : ByteArray := if rtK s = 3 then partR s (rtP s) (rtN s) else ⟨#[]⟩
def rtL (s : ByteArray) : List Cl := if rtK s < 3 then rcellsR (rtK s) s (rtN s) (rtP s) else []
theorem drop_more {s : ByteArray} {p : Nat} {X Y : List Nat} (h : (bts s).drop p = X ++ Y) (k : Nat) (hk : X.length = k) : (bts s).drop (p + k) = Y := by
  subst hk
  rw [← List.drop_drop, h, List.drop_left]
theorem drop_lt {s : ByteArray} {p : Nat} {L : List Nat} (h : (bts s).drop p = L) (hL : L ≠ []) : p < s.size := by
  rcases Nat.lt_or_ge p s.size with h1 | h1
  · exact h1
  · exact absurd (h.symm.trans (List.drop_of_length_le (by rw [bts_length]; exact h1))) hL
theorem val_at {s : ByteArray} {p : Nat} {X Y : List Nat} (h : (bts s).drop p = X ++ Y) (k : Nat) (hk : X.length = k) : valR s p k = valL X := by
  subst hk
  unfold valR
  congr 1
  apply List.ext_getElem
  · simp
  · intro i h1 h2
    simp only [List.getElem_map, List.getElem_range]
    have e : (bts s).getD (p + i) 0 = (((bts s).drop p)[i]?).getD 0 := by rw [List.getElem?_drop, List.getD_eq_getElem?_getD]
    rw [e, h, List.getElem?_append_left h2, List.getElem?_eq_getElem h2]
    rfl
theorem num_at {s : ByteArray} {p n k : Nat} {Y : List Nat} (h : (bts s).drop p = numL n k ++ Y) (hn : n < 256 ^ k) : valR s p k = n := by
  rw [val_at h k (numL_length n k), valL_num n k hn]
theorem part_at {s x : ByteArray} {p : Nat} {Y : List Nat} (h : (bts s).drop p = bts x ++ Y) (k : Nat) (hk : x.size = k) : partR s p k = x := by
  subst hk
  unfold partR
  have hlen := congrArg List.length h
  rw [List.length_drop, List.length_append, bts_length, bts_length] at hlen
  by_cases h1 : s.size < p
  · rw [if_pos h1]
    have : x.size = 0 := by omega
    exact (empty_of this).symm
  · rw [if_neg h1, if_neg (by omega)]
    apply bts_inj
    rw [bts_cutn, h]
    exact List.take_left' (bts_length x)
theorem rcell_leaf {s : ByteArray} {p : Nat} {c : Cl} {Y : List Nat} (hc : leafB c = true) (hk : c.key.size ≤ 100) (h : (bts s).drop p = cellL 1 c ++ Y) : (rcellR 1 s p).1 = c ∧ (bts s).drop (rcellR 1 s p).2 = Y := by
  obtain ⟨h1, h2, h3, h4, h5⟩ := leaf_is hc
  obtain ⟨k, z, l, g⟩ := c
  simp only at h1 h2 h3 h4 h5 hk
  have e : cellL 1 ⟨k, z, l, g⟩ ++ Y = numL k.size 1 ++ (bts k ++ (numL z.toNat 2 ++ (bts l ++ ((if 100 < z then numL g.toNat 4 else []) ++ Y)))) := by simp [cellL]
  rw [e] at h
  have v1 := num_at h (by omega)
  have d1 := drop_more h 1 (numL_length _ _)
  have e1 := part_at d1 k.size rfl
  have d2 := drop_more d1 k.size (bts_length k)
  have v2 := num_at d2 (by omega)
  have d3 := drop_more d2 2 (numL_length _ _)
  have e3 := part_at d3 (min z.toNat 100) (by omega)
  have d4 := drop_more d3 l.size (bts_length l)
  have hkey : rkey s p = k := by unfold rkey; rw [v1, e1]
  have hp1 : rp1 s p = p + 1 + k.size := by unfold rp1; rw [v1]
  have hloc : rloc s p = l := by unfold rloc; rw [hp1, v2, e3]
  have hp2 : rp2 s p = p + 1 + k.size + 2 + l.size := by unfold rp2; rw [hp1, hloc]
  unfold rcellR
  rw [if_pos rfl, hp1, v2, hkey, hloc, hp2]
  by_cases hz : 100 < z
  · rw [if_pos hz] at d4
    have v4 := num_at d4 (by omega)
    have d5 := drop_more d4 4 (numL_length _ _)
    rw [if_pos (by omega), v4]
    refine ⟨?_, d5⟩
    rw [Int.toNat_of_nonneg (by omega), Int.toNat_of_nonneg (by omega)]
  · rw [if_neg hz] at d4
    rw [if_neg (by omega)]
    refine ⟨?_, by simpa using d4⟩
    rw [Int.toNat_of_nonneg (by omega), h5 (by omega)]
theorem rcell_inner {s : ByteArray} {p : Nat} {c : Cl} {Y : List Nat} (hc : innerB c = true) (hk : c.key.size ≤ 100) (h : (bts s).drop p = cellL 2 c ++ Y) : (rcellR 2 s p).1 = c ∧ (bts s).drop (rcellR 2 s p).2 = Y := by
  obtain ⟨h1, h2, h3, h4⟩ := inner_is hc
  obtain ⟨k, z, l, g⟩ := c
  simp only at h1 h2 h3 h4 hk
  subst h1 h2
  have e : cellL 2 ⟨k, 0, ⟨#[]⟩, g⟩ ++ Y = numL k.size 1 ++ (bts k ++ (numL g.toNat 4 ++ Y)) := by simp [cellL]
  rw [e] at h
  have v1 := num_at h (by omega)
  have d1 := drop_more h 1 (numL_length _ _)
  have e1 := part_at d1 k.size rfl
  have d2 := drop_more d1 k.size (bts_length k)
  have v2 := num_at d2 (by omega)
  have d3 := drop_more d2 4 (numL_length _ _)
  have hkey : rkey s p = k := by unfold rkey; rw [v1, e1]
  have hp1 : rp1 s p = p + 1 + k.size := by unfold rp1; rw [v1]
  unfold rcellR
  rw [if_neg (by omega), if_pos rfl, hp1, v2, hkey]
  refine ⟨?_, d3⟩
  rw [Int.toNat_of_nonneg (by omega)]
theorem cellL_ne (kind : Int) (c : Cl) (Y : List Nat) : cellL kind c ++ Y ≠ [] := by
  intro h
  have := congrArg List.length h
  rw [List.length_append, cellL_length] at this
  unfold cellZ at this
  simp at this
theorem rcells_put {K : Nat} {f : Cl → Bool} {s : ByteArray} (hrd : ∀ (p : Nat) (c : Cl) (Y : List Nat), f c = true → c.key.size ≤ 100 → (bts s).drop p = cellL K c ++ Y → (rcellR K s p).1 = c ∧ (bts s).drop (rcellR K s p).2 = Y) (Y : List Nat) : ∀ (l : List Cl) (o : Option ByteArray) (p : Nat), okL f o l = true → (bts s).drop p = cellsL K l ++ Y → rcellsR K s l.length p = l
  | [], _, _, _, _ => rfl
  | c :: l, o, p, h, hd => by
    rw [okL_step] at h
    simp only [Bool.and_eq_true, decide_eq_true_eq] at h
    have hd' : (bts s).drop p = cellL K c ++ (cellsL K l ++ Y) := by rw [hd, cellsL, List.append_assoc]
    obtain ⟨e1, e2⟩ := hrd p c _ h.1.1.2 (by omega) hd'
    rw [List.length_cons, rcellsR, if_pos (drop_lt hd' (cellL_ne _ _ _)), e1, rcells_put hrd Y l _ _ h.2 e2]
theorem ref_take {s : ByteArray} (h : tkOk s = true) : rtK s = tkK s ∧ rtF s = tkF s ∧ rtL s = tkL s ∧ rtD s = tkD s := by
  obtain ⟨hb, hs⟩ := take_bytes h
  have hm : mayB (tkK s) (tkF s) (tkL s) (tkD s) = true := by
    unfold tkOk at h
    simp only [Bool.and_eq_true] at h
    exact h.2
  have hlen := congrArg List.length hb
  rw [List.length_append, nodeL_length, bts_length, bts_length] at hlen
  have hl := cellsZ_ge (tkK s) (tkL s)
  have hd0 : 3 + (tkD s).size ≤ headZ (tkK s) (tkD s) := by unfold headZ; omega
  have hK := (tk_lt s).2
  have hkk := may_kind hm
  have e0 : (bts s).drop 0 = numL (tkK s) 1 ++ (numL ((tkL s).length + (tkD s).size) 2 ++ ((if tkK s = 1 then [] else numL (tkF s) 4) ++ (cellsL (tkK s) (tkL s) ++ (bts (tkD s) ++ bts (tkE s).1)))) := by
    rw [List.drop_zero, hb]
    unfold nodeL headL
    rw [Int.toNat_natCast, Int.toNat_natCast]
    by_cases hk1 : tkK s = 1
    · rw [if_pos (by omega), if_pos hk1]; simp
    · rw [if_neg (by omega), if_neg hk1]; simp
  have vK : rtK s = tkK s := num_at e0 (by omega)
  have e1 := drop_more e0 1 (numL_length _ _)
  have vN : rtN s = (tkL s).length + (tkD s).size := num_at (p := 1) (by simpa using e1) (by omega)
  have e3 := drop_more e1 2 (numL_length _ _)
  rw [show 0 + 1 + 2 = 3 from rfl] at e3
  by_cases k1 : tkK s = 1
  · have hF : tkF s = 0 := by unfold tkF; rw [if_pos k1]
    have hD : tkD s = ⟨#[]⟩ := by unfold tkD; rw [if_neg (by omega)]
    rw [if_pos k1, hD, k1] at e3
    rw [hD] at vN
    rw [k1] at hm
    have hL : rtL s = tkL s := by
      unfold rtL rtP
      rw [vK, k1, if_pos (by omega), if_pos rfl, vN]
      exact rcells_put (K := 1) (f := leafB) (fun p c Y h1 h2 h3 => rcell_leaf h1 h2 h3) _ _ none _ (okl_1 hm) e3
    refine ⟨vK, ?_, hL, ?_⟩
    · unfold rtF; rw [vK, if_pos k1, hF]
    · unfold rtD; rw [vK, if_neg (by omega), hD]
  have hfi := may_first hm (by omega)
  rw [if_neg k1] at e3
  have vF : rtF s = tkF s := by unfold rtF; rw [vK, if_neg k1]; exact num_at e3 (by omega)
  have e7 := drop_more e3 4 (numL_length _ _)
  rw [show 3 + 4 = 7 from rfl] at e7
  by_cases k2 : tkK s = 2
  · have hD : tkD s = ⟨#[]⟩ := by unfold tkD; rw [if_neg (by omega)]
    rw [hD, k2] at e7
    rw [hD] at vN
    rw [k2] at hm
    have hL : rtL s = tkL s := by
      unfold rtL rtP
      rw [vK, k2, if_pos (by omega), if_neg (by omega), vN]
      exact rcells_put (K := 2) (f := innerB) (fun p c Y h1 h2 h3 => rcell_inner h1 h2 h3) _ _ none _ (okl_2 hm) e7
    refine ⟨vK, vF, hL, ?_⟩
    unfold rtD; rw [vK, if_neg (by omega), hD]
  have hLn : tkL s = [] := by unfold tkL; rw [if_neg (by omega)]
  have hL : rtL s = tkL s := by unfold rtL; rw [vK, if_neg (by omega), hLn]
  by_cases k3 : tkK s = 3
  · rw [hLn] at e7 vN
    refine ⟨vK, vF, hL, ?_⟩
    unfold rtD rtP
    rw [vK, if_pos k3, if_neg k1, vN]
    exact part_at (by simpa [cellsL] using e7) _ (by simp)
  · have hD : tkD s = ⟨#[]⟩ := by unfold tkD; rw [if_neg k3]
    refine ⟨vK, vF, hL, ?_⟩
    unfold rtD; rw [vK, if_neg k3, hD]
end Go.Proofs.YticpenbebokjdaaDoor
