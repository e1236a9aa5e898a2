/- Layer 5: regions by facts. Conditions: those of each lemma. -/
import Derived.Test.YthipaabjmlgjmaaFacts
namespace Go.Proofs.Ythipaabjmlgjmaa
open Go Go.RowKit
set_option linter.unusedVariables false
set_option linter.unusedSimpArgs false
def rfCheckD (ops : Array Oper) (R : List Nat) (D : Nat → List Nat) (l0 l1 : Array Bool) : Bool :=
  decide R.Nodup && R.all (fun i => decide (i < ops.size) && l0[i]? == some false) && R.all (fun i => R.all fun j => i == j || dstNe ops i j) &&
  R.all (fun i => (D i).all fun d => R.contains d && depOn ops i d) &&
  (List.range ops.size).all (fun t => R.contains t || l0.getD t true || R.all (fun i => reach ops R 8 t i) || (List.range ops.size).any (fun t' => !R.contains t' && l0[t']? == some false && depOn ops t t')) &&
  R.all (fun i => ((ops[i]?).map (fun o => o.after.all fun e => !Region.binds .any e || l0.getD e.on false || (R.contains e.on && decide (e.on < i)))).getD false) &&
  decide (l1.size = l0.size) && (List.range l0.size).all (fun k => l1[k]? == spec l0 R [] k)
theorem facts_goD {P : Program} {ops : Array Oper} {Q : Exit → Act → World → Prop} (R AL : List Nat) (D : Nat → List Nat) (F : Nat → Value → World → Prop) (a0 : Act) (w0 : World) (f0 : Nat) (l0 l1 : Array Bool)
    (hck : rfCheckD ops R D l0 l1 = true)
    (hF : ∀ i v w w', F i v w → Below w.heap.size w w' → F i v w')
    (hA : ∀ i ∈ AL, ∀ v w, F i v w → blkOf v < w.heap.size)
    (hstep : ∀ i ∈ R, ∀ x w, (∀ d ∈ D i, F d (x d) w) → Below w0.heap.size w0 w → ∀ K : Act → World → Prop, (∀ v w', F i v w' → Below w.heap.size w w' → (i ∈ AL → w.heap.size ≤ blkOf v) → K ((putsA ops a0 x R).put (dstOf ops i) v) w') → wpOp P ops Q i K (putsA ops a0 x R) w)
    (hend : ∀ x w, (∀ i ∈ R, F i (x i) w) → (∀ i ∈ R, i ∈ AL → ∀ j ∈ R, j ∈ AL → i ≠ j → blkOf (x i) ≠ blkOf (x j)) → Below w0.heap.size w0 w → wpAny P .any ops Q f0 l1 (putsA ops a0 x R) w) :
    ∀ (n : Nat) (T : List Nat), T.length = n → T.Nodup → (∀ i ∈ T, i ∈ R) → ∀ (l : Array Bool) (x : Nat → Value) (w : World), l.size = l0.size → (∀ k, l[k]? = spec l0 R T k) → (∀ j ∈ R, l[j]? = some true → ∀ d, depOn ops j d = true → l[d]? = some true) → (∀ i ∈ R, i ∉ T → F i (x i) w) → (∀ i ∈ R, i ∉ T → i ∈ AL → ∀ j ∈ R, j ∉ T → j ∈ AL → i ≠ j → blkOf (x i) ≠ blkOf (x j)) → Below w0.heap.size w0 w → wpAny P .any ops Q (n + f0) l (putsA ops a0 x R) w := by
  unfold rfCheckD at hck
  simp only [Bool.and_eq_true] at hck
  obtain ⟨⟨⟨⟨⟨⟨⟨c1, c2⟩, c3⟩, c4⟩, c5⟩, c6⟩, c7⟩, c8⟩ := hck
  have c1 : R.Nodup := of_decide_eq_true c1
  have c2 : ∀ i ∈ R, i < ops.size ∧ l0[i]? = some false := fun i hi => by
    have h := List.all_eq_true.1 c2 i hi
    simp only [Bool.and_eq_true, decide_eq_true_eq, beq_iff_eq] at h
    exact h
  have c3 : ∀ i ∈ R, ∀ j ∈ R, i ≠ j → dstNe ops i j = true := fun i hi j hj hne => by
    have h := List.all_eq_true.1 (List.all_eq_true.1 c3 i hi) j hj
    simp only [Bool.or_eq_true, beq_iff_eq] at h
    exact h.resolve_left hne
  have c4 : ∀ i ∈ R, ∀ d ∈ D i, d ∈ R ∧ depOn ops i d = true := fun i hi d hd => by
    have h := List.all_eq_true.1 (List.all_eq_true.1 c4 i hi) d hd
    simp only [Bool.and_eq_true, List.contains_iff_mem] at h
    exact h
  have c7 : l1.size = l0.size := of_decide_eq_true c7
  intro n
  induction n with
  | zero =>
    intro T hT _ _ l x w hs hl hdc hf hg hb
    obtain rfl : T = [] := List.eq_nil_of_length_eq_zero hT
    have hll : l = l1 := by
      apply Array.ext_getElem?
      intro k
      rw [hl k]
      by_cases hk : k < l0.size
      · have h := List.all_eq_true.1 c8 k (List.mem_range.2 hk)
        simp only [beq_iff_eq] at h
        exact h.symm
      · rw [Array.getElem?_eq_none (xs := l1) (by omega)]
        unfold spec
        have hn : k ∉ R := fun hk' => by
          have := (c2 k hk').2
          rw [Array.getElem?_eq_none (by omega)] at this
          cases this
        simp [hn, Array.getElem?_eq_none (xs := l0) (i := k) (by omega)]
    rw [Nat.zero_add, hll]
    exact hend x w (fun i hi => hf i hi (by simp)) (fun i hi ha j hj hb' hne => hg i hi (by simp) ha j hj (by simp) hb' hne) hb
  | succ n ih =>
    intro T hT hTn hTR l x w hs hl hdc hf hg hb
    have hne : T ≠ [] := fun e => by rw [e] at hT; simp at hT
    have inT : ∀ k ∈ T, l[k]? = some false := fun k hk => by rw [hl k]; unfold spec; rw [if_pos (by simpa using hk)]
    have inR : ∀ k ∈ R, k ∉ T → l[k]? = some true := fun k hk hn => by rw [hl k]; unfold spec; rw [if_neg (by simpa using hn), if_pos (by simpa using hk)]
    have out : ∀ k, k ∉ R → l[k]? = l0[k]? := fun k hk => by rw [hl k]; unfold spec; rw [if_neg (by simpa using fun h => hk (hTR k h)), if_neg (by simpa using hk)]
    have rdy : ∀ i ∈ Region.ready .any ops l, i ∈ T := fun i hi => by
      obtain ⟨h0, o, ho, hall⟩ := mem_ready.1 hi
      have hdep : ∀ d, depOn ops i d = true → l[d]? = some true := fun d hd => by
        obtain ⟨e, he, h1, rfl⟩ := dep_on ho hd
        have h2 := hall e he h1
        cases h3 : l[e.on]? with
        | none => simp [h3] at h2
        | some b => simp [h3] at h2; rw [h2]
      apply Classical.byContradiction
      intro hiT
      by_cases hiR : i ∈ R
      · rw [Array.getD_eq_getD_getElem?, inR i hiR hiT] at h0
        cases h0
      · have hio : i < ops.size := (Array.getElem?_eq_some_iff.1 ho).1
        have h := List.all_eq_true.1 c5 i (List.mem_range.2 hio)
        simp only [Bool.or_eq_true] at h
        rcases h with ((h | h) | h) | h
        · exact hiR (by simpa using h)
        · rw [Array.getD_eq_getD_getElem?, out i hiR] at h0
          rw [Array.getD_eq_getD_getElem?, h0] at h
          cases h
        · obtain ⟨j, hj, _⟩ := least_of T hne
          have h1 := reach_done hdc 8 i j hdep (List.all_eq_true.1 h j (hTR j hj))
          rw [inT j hj] at h1
          cases h1
        · obtain ⟨t', _, h⟩ := List.any_eq_true.1 h
          simp only [Bool.and_eq_true, beq_iff_eq, Bool.not_eq_true'] at h
          have h1 := hdep t' h.2
          rw [out t' (by simpa using h.1.1), h.1.2] at h1
          cases h1
    have some_ : Region.ready .any ops l ≠ [] := fun e => by
      obtain ⟨i, hi, hmin⟩ := least_of T hne
      have hio := (c2 i (hTR i hi)).1
      have : i ∈ Region.ready .any ops l := by
        rw [mem_ready]
        refine ⟨by rw [Array.getD_eq_getD_getElem?, inT i hi]; rfl, ops[i], Array.getElem?_eq_getElem hio, fun e he hbd => ?_⟩
        have h := List.all_eq_true.1 c6 i (hTR i hi)
        rw [Array.getElem?_eq_getElem hio] at h
        simp only [Option.map_some, Option.getD_some, Array.all_eq_true_iff_forall_mem, Bool.or_eq_true, Bool.and_eq_true, decide_eq_true_eq, Bool.not_eq_true'] at h
        rcases h e he with (h | h) | h
        · rw [hbd] at h; cases h
        · have hnR : e.on ∉ R := fun hR => by
            rw [Array.getD_eq_getD_getElem?, (c2 _ hR).2] at h
            cases h
          rw [Array.getD_eq_getD_getElem?, out _ hnR, ← Array.getD_eq_getD_getElem?]
          exact h
        · have hR : e.on ∈ R := by simpa using h.1
          have hnT : e.on ∉ T := fun hT' => by have := hmin _ hT'; omega
          rw [Array.getD_eq_getD_getElem?, inR _ hR hnT]
          rfl
      rw [e] at this
      cases this
    rw [show n + 1 + f0 = n + f0 + 1 by omega]
    refine ⟨fun e => absurd e some_, fun i hi => ?_⟩
    have hiT := rdy i hi
    have hiR := hTR i hiT
    obtain ⟨_, o, ho, hall⟩ := mem_ready.1 hi
    refine hstep i hiR x w (fun d hd => ?_) hb _ (fun v w' hv hb' hav => ?_)
    · obtain ⟨hdR, hdd⟩ := c4 i hiR d hd
      obtain ⟨e, he, h1, rfl⟩ := dep_on ho hdd
      have h2 := hall e he h1
      refine hf _ hdR (fun hT' => ?_)
      rw [Array.getD_eq_getD_getElem?, inT _ hT'] at h2
      cases h2
    · rw [putsA_put R c1 c3 hiR]
      have hil : i < l.size := by
        rcases Nat.lt_or_ge i l.size with h | h
        · exact h
        · have := inT i hiT
          rw [Array.getElem?_eq_none h] at this
          cases this
      refine ih (T.erase i) (by rw [List.length_erase_of_mem hiT]; omega) (hTn.erase i) (fun j hj => hTR j (List.mem_of_mem_erase hj)) _ _ w' (by simp [hs]) (fun k => ?_) (fun j hj hjl d hd => ?_) (fun j hj hjT => ?_) (fun j hj hjT hja k hk hkT hka hne => ?_) (hb.trans (hb'.mono hb.size))
      · rw [Array.getElem?_setIfInBounds]
        by_cases e : i = k
        · subst e
          rw [if_pos rfl, if_pos hil]
          unfold spec
          rw [if_neg (by simpa using fun h => (hTn.mem_erase_iff.1 h).1 rfl), if_pos (by simpa using hiR)]
        · rw [if_neg e, hl k]
          unfold spec
          have hh : (T.erase i).contains k = T.contains k := by
            rw [Bool.eq_iff_iff]
            simp only [List.contains_iff_mem]
            exact ⟨fun h => List.mem_of_mem_erase h, fun h => hTn.mem_erase_iff.2 ⟨fun e' => e e'.symm, h⟩⟩
          rw [hh]
      · have hup : ∀ k, l[k]? = some true → (l.setIfInBounds i true)[k]? = some true := fun k hk => by
          rw [Array.getElem?_setIfInBounds]
          by_cases e : i = k
          · rw [if_pos e, if_pos (by omega)]
          · rw [if_neg e]; exact hk
        by_cases e : j = i
        · subst e
          obtain ⟨e', he, h1, rfl⟩ := dep_on ho hd
          have h2 := hall e' he h1
          refine hup _ ?_
          cases h3 : l[e'.on]? with
          | none => simp [h3] at h2
          | some b => simp [h3] at h2; rw [h2]
        · rw [Array.getElem?_setIfInBounds_ne (fun e' => e e'.symm)] at hjl
          exact hup _ (hdc j hj hjl d hd)
      · by_cases e : j = i
        · subst e
          simp only [upd, if_true]
          exact hv
        · simp only [upd, if_neg e]
          exact hF j _ w w' (hf j hj (fun h => hjT (hTn.mem_erase_iff.2 ⟨e, h⟩))) hb'
      · by_cases e : j = i
        · have e2 : k ≠ i := fun e2 => hne (e.trans e2.symm)
          subst e
          have h1 := hA k hka _ _ (hf k hk (fun h => hkT (hTn.mem_erase_iff.2 ⟨e2, h⟩)))
          have h2 := hav hja
          simp only [upd, if_true, if_neg e2]
          omega
        · by_cases e2 : k = i
          · subst e2
            have h1 := hA j hja _ _ (hf j hj (fun h => hjT (hTn.mem_erase_iff.2 ⟨e, h⟩)))
            have h2 := hav hka
            simp only [upd, if_true, if_neg e]
            omega
          · simp only [upd, if_neg e, if_neg e2]
            exact hg j hj (fun h => hjT (hTn.mem_erase_iff.2 ⟨e, h⟩)) hja k hk (fun h => hkT (hTn.mem_erase_iff.2 ⟨e2, h⟩)) hka hne
/-- the beginning -/
theorem facts_startD {P : Program} {ops : Array Oper} {Q : Exit → Act → World → Prop} (R AL : List Nat) (D : Nat → List Nat) (F : Nat → Value → World → Prop) (a0 : Act) (w0 : World) (n f0 : Nat) (l0 l1 : Array Bool)
    (hck : rfCheckD ops R D l0 l1 = true) (hn : n = R.length + f0)
    (hF : ∀ i v w w', F i v w → Below w.heap.size w w' → F i v w')
    (hA : ∀ i ∈ AL, ∀ v w, F i v w → blkOf v < w.heap.size)
    (hstep : ∀ i ∈ R, ∀ x w, (∀ d ∈ D i, F d (x d) w) → Below w0.heap.size w0 w → ∀ K : Act → World → Prop, (∀ v w', F i v w' → Below w.heap.size w w' → (i ∈ AL → w.heap.size ≤ blkOf v) → K ((putsA ops a0 x R).put (dstOf ops i) v) w') → wpOp P ops Q i K (putsA ops a0 x R) w)
    (hend : ∀ x w, (∀ i ∈ R, F i (x i) w) → (∀ i ∈ R, i ∈ AL → ∀ j ∈ R, j ∈ AL → i ≠ j → blkOf (x i) ≠ blkOf (x j)) → Below w0.heap.size w0 w → wpAny P .any ops Q f0 l1 (putsA ops a0 x R) w) :
    wpAny P .any ops Q n l0 a0 w0 := by
  have h := facts_goD R AL D F a0 w0 f0 l0 l1 hck hF hA hstep hend R.length R rfl (by
    unfold rfCheckD at hck
    simp only [Bool.and_eq_true] at hck
    exact of_decide_eq_true hck.1.1.1.1.1.1.1) (fun i h => h) l0 (fun i => ((dstOf ops i).bind (a0.tmps[·]?)).getD undef) w0 rfl (fun k => by
    unfold spec
    by_cases hk : k ∈ R
    · rw [if_pos (by simpa using hk)]
      unfold rfCheckD at hck
      simp only [Bool.and_eq_true] at hck
      have h := List.all_eq_true.1 hck.1.1.1.1.1.1.2 k hk
      simp only [Bool.and_eq_true, beq_iff_eq] at h
      exact h.2
    · rw [if_neg (by simpa using hk), if_neg (by simpa using hk)]) (fun j hj hjl => by
      unfold rfCheckD at hck
      simp only [Bool.and_eq_true] at hck
      have h := List.all_eq_true.1 hck.1.1.1.1.1.1.2 j hj
      simp only [Bool.and_eq_true, beq_iff_eq] at h
      rw [h.2] at hjl
      cases hjl) (fun i hi hn => absurd hi hn) (fun i hi hn => absurd hi hn) (Below.refl _ _)
  rw [putsA_self] at h
  rw [hn]
  exact h
theorem ft_val {mk : Nat → Nat → Nat → Nat → Value} {bl : Nat → Nat → Nat → Nat → List (Nat × TypeId × Array Value)} {i : Nat} {v u : Value} {W : World} (h : Ft mk bl i v W) (hu : ∀ k k1 k2, mk i k k1 k2 = u) : v = u := by
  obtain ⟨k, k1, k2, h1, _⟩ := h
  rw [h1, hu]
end Go.Proofs.Ythipaabjmlgjmaa
namespace Go.Proofs.Ythipaabjmlgjmaa
open Go Go.RowKit
set_option linter.unusedVariables false
set_option linter.unusedSimpArgs false
def rfCheck6 (ops : Array Oper) (R : List Nat) (D : Nat → List Nat) (l0 l1 : Array Bool) : Bool :=
  decide R.Nodup && R.all (fun i => decide (i < ops.size) && l0[i]? == some false) && R.all (fun i => R.all fun j => i == j || dstNe ops i j) &&
  R.all (fun i => (D i).all fun d => R.contains d && depOn ops i d) &&
  (List.range ops.size).all (fun t => R.contains t || l0.getD t true || R.all (fun i => reach ops R 6 t i) || (List.range ops.size).any (fun t' => !R.contains t' && l0[t']? == some false && depOn ops t t')) &&
  R.all (fun i => ((ops[i]?).map (fun o => o.after.all fun e => !Region.binds .any e || l0.getD e.on false || (R.contains e.on && decide (e.on < i)))).getD false) &&
  decide (l1.size = l0.size) && (List.range l0.size).all (fun k => l1[k]? == spec l0 R [] k)
theorem facts_gos {P : Program} {ops : Array Oper} {Q : Exit → Act → World → Prop} (R : List Nat) (D : Nat → List Nat) (p q : Nat) (mk : Nat → Value) (I : Bool → Bool → World → Prop) (a0 : Act) (f0 : Nat) (l0 l1 : Array Bool)
    (hck : rfCheck6 ops R D l0 l1 = true)
    (hstep : ∀ i ∈ R, ∀ b c, (i = p → b = true) → (i = q → c = true) → ∀ x w, (∀ d ∈ D i, x d = mk d) → I b c w → ∀ K : Act → World → Prop, (∀ w', I (if i = p then false else b) (if i = q then false else c) w' → K ((putsA ops a0 x R).put (dstOf ops i) (mk i)) w') → wpOp P ops Q i K (putsA ops a0 x R) w)
    (hend : ∀ x w b c, (∀ i ∈ R, x i = mk i) → (p ∈ R → b = false) → (q ∈ R → c = false) → I b c w → wpAny P .any ops Q f0 l1 (putsA ops a0 x R) w) :
    ∀ (n : Nat) (T : List Nat), T.length = n → T.Nodup → (∀ i ∈ T, i ∈ R) → ∀ (l : Array Bool) (x : Nat → Value) (w : World) (b c : Bool), l.size = l0.size → (∀ k, l[k]? = spec l0 R T k) → (∀ j ∈ R, l[j]? = some true → ∀ d, depOn ops j d = true → l[d]? = some true) → (∀ i ∈ R, i ∉ T → x i = mk i) → (p ∈ T → b = true) → (p ∈ R → p ∉ T → b = false) → (q ∈ T → c = true) → (q ∈ R → q ∉ T → c = false) → I b c w → wpAny P .any ops Q (n + f0) l (putsA ops a0 x R) w := by
  unfold rfCheck6 at hck
  simp only [Bool.and_eq_true] at hck
  obtain ⟨⟨⟨⟨⟨⟨⟨c1, c2⟩, c3⟩, c4⟩, c5⟩, c6⟩, c7⟩, c8⟩ := hck
  have c1 : R.Nodup := of_decide_eq_true c1
  have c2 : ∀ i ∈ R, i < ops.size ∧ l0[i]? = some false := fun i hi => by
    have h := List.all_eq_true.1 c2 i hi
    simp only [Bool.and_eq_true, decide_eq_true_eq, beq_iff_eq] at h
    exact h
  have c3 : ∀ i ∈ R, ∀ j ∈ R, i ≠ j → dstNe ops i j = true := fun i hi j hj hne => by
    have h := List.all_eq_true.1 (List.all_eq_true.1 c3 i hi) j hj
    simp only [Bool.or_eq_true, beq_iff_eq] at h
    exact h.resolve_left hne
  have c4 : ∀ i ∈ R, ∀ d ∈ D i, d ∈ R ∧ depOn ops i d = true := fun i hi d hd => by
    have h := List.all_eq_true.1 (List.all_eq_true.1 c4 i hi) d hd
    simp only [Bool.and_eq_true, List.contains_iff_mem] at h
    exact h
  have c7 : l1.size = l0.size := of_decide_eq_true c7
  intro n
  induction n with
  | zero =>
    intro T hT _ _ l x w b c hs hl hdc hf hp1 hp2 hq1 hq2 hI
    obtain rfl : T = [] := List.eq_nil_of_length_eq_zero hT
    have hll : l = l1 := by
      apply Array.ext_getElem?
      intro k
      rw [hl k]
      by_cases hk : k < l0.size
      · have h := List.all_eq_true.1 c8 k (List.mem_range.2 hk)
        simp only [beq_iff_eq] at h
        exact h.symm
      · rw [Array.getElem?_eq_none (xs := l1) (by omega)]
        unfold spec
        have hn : k ∉ R := fun hk' => by
          have := (c2 k hk').2
          rw [Array.getElem?_eq_none (by omega)] at this
          cases this
        simp [hn, Array.getElem?_eq_none (xs := l0) (i := k) (by omega)]
    rw [Nat.zero_add, hll]
    exact hend x w b c (fun i hi => hf i hi (by simp)) (fun h => hp2 h (by simp)) (fun h => hq2 h (by simp)) hI
  | succ n ih =>
    intro T hT hTn hTR l x w b c hs hl hdc hf hp1 hp2 hq1 hq2 hI
    have hne : T ≠ [] := fun e => by rw [e] at hT; simp at hT
    have inT : ∀ k ∈ T, l[k]? = some false := fun k hk => by rw [hl k]; unfold spec; rw [if_pos (by simpa using hk)]
    have inR : ∀ k ∈ R, k ∉ T → l[k]? = some true := fun k hk hn => by rw [hl k]; unfold spec; rw [if_neg (by simpa using hn), if_pos (by simpa using hk)]
    have out : ∀ k, k ∉ R → l[k]? = l0[k]? := fun k hk => by rw [hl k]; unfold spec; rw [if_neg (by simpa using fun h => hk (hTR k h)), if_neg (by simpa using hk)]
    have rdy : ∀ i ∈ Region.ready .any ops l, i ∈ T := fun i hi => by
      obtain ⟨h0, o, ho, hall⟩ := mem_ready.1 hi
      have hdep : ∀ d, depOn ops i d = true → l[d]? = some true := fun d hd => by
        obtain ⟨e, he, h1, rfl⟩ := dep_on ho hd
        have h2 := hall e he h1
        cases h3 : l[e.on]? with
        | none => simp [h3] at h2
        | some b => simp [h3] at h2; rw [h2]
      apply Classical.byContradiction
      intro hiT
      by_cases hiR : i ∈ R
      · rw [Array.getD_eq_getD_getElem?, inR i hiR hiT] at h0
        cases h0
      · have hio : i < ops.size := (Array.getElem?_eq_some_iff.1 ho).1
        have h := List.all_eq_true.1 c5 i (List.mem_range.2 hio)
        simp only [Bool.or_eq_true] at h
        rcases h with ((h | h) | h) | h
        · exact hiR (by simpa using h)
        · rw [Array.getD_eq_getD_getElem?, out i hiR] at h0
          rw [Array.getD_eq_getD_getElem?, h0] at h
          cases h
        · obtain ⟨j, hj, _⟩ := least_of T hne
          have h1 := reach_done hdc 6 i j hdep (List.all_eq_true.1 h j (hTR j hj))
          rw [inT j hj] at h1
          cases h1
        · obtain ⟨t', _, h⟩ := List.any_eq_true.1 h
          simp only [Bool.and_eq_true, beq_iff_eq, Bool.not_eq_true'] at h
          have h1 := hdep t' h.2
          rw [out t' (by simpa using h.1.1), h.1.2] at h1
          cases h1
    have some_ : Region.ready .any ops l ≠ [] := fun e => by
      obtain ⟨i, hi, hmin⟩ := least_of T hne
      have hio := (c2 i (hTR i hi)).1
      have : i ∈ Region.ready .any ops l := by
        rw [mem_ready]
        refine ⟨by rw [Array.getD_eq_getD_getElem?, inT i hi]; rfl, ops[i], Array.getElem?_eq_getElem hio, fun e he hbd => ?_⟩
        have h := List.all_eq_true.1 c6 i (hTR i hi)
        rw [Array.getElem?_eq_getElem hio] at h
        simp only [Option.map_some, Option.getD_some, Array.all_eq_true_iff_forall_mem, Bool.or_eq_true, Bool.and_eq_true, decide_eq_true_eq, Bool.not_eq_true'] at h
        rcases h e he with (h | h) | h
        · rw [hbd] at h; cases h
        · have hnR : e.on ∉ R := fun hR => by
            rw [Array.getD_eq_getD_getElem?, (c2 _ hR).2] at h
            cases h
          rw [Array.getD_eq_getD_getElem?, out _ hnR, ← Array.getD_eq_getD_getElem?]
          exact h
        · have hR : e.on ∈ R := by simpa using h.1
          have hnT : e.on ∉ T := fun hT' => by have := hmin _ hT'; omega
          rw [Array.getD_eq_getD_getElem?, inR _ hR hnT]
          rfl
      rw [e] at this
      cases this
    rw [show n + 1 + f0 = n + f0 + 1 by omega]
    refine ⟨fun e => absurd e some_, fun i hi => ?_⟩
    have hiT := rdy i hi
    have hiR := hTR i hiT
    obtain ⟨_, o, ho, hall⟩ := mem_ready.1 hi
    refine hstep i hiR b c (fun e => hp1 (e ▸ hiT)) (fun e => hq1 (e ▸ hiT)) x w (fun d hd => ?_) hI _ (fun w' hI' => ?_)
    · obtain ⟨hdR, hdd⟩ := c4 i hiR d hd
      obtain ⟨e, he, h1, rfl⟩ := dep_on ho hdd
      have h2 := hall e he h1
      refine hf _ hdR (fun hT' => ?_)
      rw [Array.getD_eq_getD_getElem?, inT _ hT'] at h2
      cases h2
    · rw [putsA_put R c1 c3 hiR]
      have hil : i < l.size := by
        rcases Nat.lt_or_ge i l.size with h | h
        · exact h
        · have := inT i hiT
          rw [Array.getElem?_eq_none h] at this
          cases this
      refine ih (T.erase i) (by rw [List.length_erase_of_mem hiT]; omega) (hTn.erase i) (fun j hj => hTR j (List.mem_of_mem_erase hj)) _ _ w' _ _ (by simp [hs]) (fun k => ?_) (fun j hj hjl d hd => ?_) (fun j hj hjT => ?_) (fun h => ?_) (fun h h2 => ?_) (fun h => ?_) (fun h h2 => ?_) hI'
      · rw [Array.getElem?_setIfInBounds]
        by_cases e : i = k
        · subst e
          rw [if_pos rfl, if_pos hil]
          unfold spec
          rw [if_neg (by simpa using fun h => (hTn.mem_erase_iff.1 h).1 rfl), if_pos (by simpa using hiR)]
        · rw [if_neg e, hl k]
          unfold spec
          have hh : (T.erase i).contains k = T.contains k := by
            rw [Bool.eq_iff_iff]
            simp only [List.contains_iff_mem]
            exact ⟨fun h => List.mem_of_mem_erase h, fun h => hTn.mem_erase_iff.2 ⟨fun e' => e e'.symm, h⟩⟩
          rw [hh]
      · have hup : ∀ k, l[k]? = some true → (l.setIfInBounds i true)[k]? = some true := fun k hk => by
          rw [Array.getElem?_setIfInBounds]
          by_cases e : i = k
          · rw [if_pos e, if_pos (by omega)]
          · rw [if_neg e]; exact hk
        by_cases e : j = i
        · subst e
          obtain ⟨e', he, h1, rfl⟩ := dep_on ho hd
          have h2 := hall e' he h1
          refine hup _ ?_
          cases h3 : l[e'.on]? with
          | none => simp [h3] at h2
          | some b => simp [h3] at h2; rw [h2]
        · rw [Array.getElem?_setIfInBounds_ne (fun e' => e e'.symm)] at hjl
          exact hup _ (hdc j hj hjl d hd)
      · by_cases e : j = i
        · subst e
          simp only [upd, if_true]
        · simp only [upd, if_neg e]
          exact hf j hj (fun h => hjT (hTn.mem_erase_iff.2 ⟨e, h⟩))
      · have h3 := hTn.mem_erase_iff.1 h
        rw [if_neg (fun e => h3.1 e.symm)]
        exact hp1 h3.2
      · by_cases e : i = p
        · rw [if_pos e]
        · rw [if_neg e]
          exact hp2 h (fun h3 => h2 (hTn.mem_erase_iff.2 ⟨fun e2 => e e2.symm, h3⟩))
      · have h3 := hTn.mem_erase_iff.1 h
        rw [if_neg (fun e => h3.1 e.symm)]
        exact hq1 h3.2
      · by_cases e : i = q
        · rw [if_pos e]
        · rw [if_neg e]
          exact hq2 h (fun h3 => h2 (hTn.mem_erase_iff.2 ⟨fun e2 => e e2.symm, h3⟩))
/-- the beginning, with a state: p and q are the two operations that change it -/
theorem facts_st {P : Program} {ops : Array Oper} {Q : Exit → Act → World → Prop} (R : List Nat) (D : Nat → List Nat) (p q : Nat) (mk : Nat → Value) (I : Bool → Bool → World → Prop) (a0 : Act) (w0 : World) (n f0 : Nat) (l0 l1 : Array Bool)
    (hck : rfCheck6 ops R D l0 l1 = true) (hn : n = R.length + f0) (h0 : I true true w0)
    (hstep : ∀ i ∈ R, ∀ b c, (i = p → b = true) → (i = q → c = true) → ∀ x w, (∀ d ∈ D i, x d = mk d) → I b c w → ∀ K : Act → World → Prop, (∀ w', I (if i = p then false else b) (if i = q then false else c) w' → K ((putsA ops a0 x R).put (dstOf ops i) (mk i)) w') → wpOp P ops Q i K (putsA ops a0 x R) w)
    (hend : ∀ x w b c, (∀ i ∈ R, x i = mk i) → (p ∈ R → b = false) → (q ∈ R → c = false) → I b c w → wpAny P .any ops Q f0 l1 (putsA ops a0 x R) w) :
    wpAny P .any ops Q n l0 a0 w0 := by
  have h := facts_gos R D p q mk I a0 f0 l0 l1 hck hstep hend R.length R rfl (by
    unfold rfCheck6 at hck
    simp only [Bool.and_eq_true] at hck
    exact of_decide_eq_true hck.1.1.1.1.1.1.1) (fun i h => h) l0 (fun i => ((dstOf ops i).bind (a0.tmps[·]?)).getD undef) w0 true true rfl (fun k => by
    unfold spec
    by_cases hk : k ∈ R
    · rw [if_pos (by simpa using hk)]
      unfold rfCheck6 at hck
      simp only [Bool.and_eq_true] at hck
      have h := List.all_eq_true.1 hck.1.1.1.1.1.1.2 k hk
      simp only [Bool.and_eq_true, beq_iff_eq] at h
      exact h.2
    · rw [if_neg (by simpa using hk), if_neg (by simpa using hk)]) (fun j hj hjl => by
      unfold rfCheck6 at hck
      simp only [Bool.and_eq_true] at hck
      have h := List.all_eq_true.1 hck.1.1.1.1.1.1.2 j hj
      simp only [Bool.and_eq_true, beq_iff_eq] at h
      rw [h.2] at hjl
      cases hjl) (fun i hi hn => absurd hi hn) (fun _ => rfl) (fun h h2 => absurd h h2) (fun _ => rfl) (fun h h2 => absurd h h2) h0
  rw [putsA_self] at h
  rw [hn]
  exact h
end Go.Proofs.Ythipaabjmlgjmaa
namespace Go.Proofs.Ythipaabjmlgjmaa
open Go Go.RowKit
set_option linter.unusedVariables false
set_option linter.unusedSimpArgs false
theorem facts_gog {P : Program} {ops : Array Oper} {Q : Exit → Act → World → Prop} (R : List Nat) (D : Nat → List Nat) (p q : Nat) (F : Nat → Value → Prop) (I : Bool → Bool → World → Prop) (a0 : Act) (f0 : Nat) (l0 l1 : Array Bool)
    (hck : rfCheck6 ops R D l0 l1 = true)
    (hstep : ∀ i ∈ R, ∀ b c, (i = p → b = true) → (i = q → c = true) → ∀ x w, (∀ d ∈ D i, F d (x d)) → I b c w → ∀ K : Act → World → Prop, (∀ v w', F i v → I (if i = p then false else b) (if i = q then false else c) w' → K ((putsA ops a0 x R).put (dstOf ops i) v) w') → wpOp P ops Q i K (putsA ops a0 x R) w)
    (hend : ∀ x w b c, (∀ i ∈ R, F i (x i)) → (p ∈ R → b = false) → (q ∈ R → c = false) → I b c w → wpAny P .any ops Q f0 l1 (putsA ops a0 x R) w) :
    ∀ (n : Nat) (T : List Nat), T.length = n → T.Nodup → (∀ i ∈ T, i ∈ R) → ∀ (l : Array Bool) (x : Nat → Value) (w : World) (b c : Bool), l.size = l0.size → (∀ k, l[k]? = spec l0 R T k) → (∀ j ∈ R, l[j]? = some true → ∀ d, depOn ops j d = true → l[d]? = some true) → (∀ i ∈ R, i ∉ T → F i (x i)) → (p ∈ T → b = true) → (p ∈ R → p ∉ T → b = false) → (q ∈ T → c = true) → (q ∈ R → q ∉ T → c = false) → I b c w → wpAny P .any ops Q (n + f0) l (putsA ops a0 x R) w := by
  unfold rfCheck6 at hck
  simp only [Bool.and_eq_true] at hck
  obtain ⟨⟨⟨⟨⟨⟨⟨c1, c2⟩, c3⟩, c4⟩, c5⟩, c6⟩, c7⟩, c8⟩ := hck
  have c1 : R.Nodup := of_decide_eq_true c1
  have c2 : ∀ i ∈ R, i < ops.size ∧ l0[i]? = some false := fun i hi => by
    have h := List.all_eq_true.1 c2 i hi
    simp only [Bool.and_eq_true, decide_eq_true_eq, beq_iff_eq] at h
    exact h
  have c3 : ∀ i ∈ R, ∀ j ∈ R, i ≠ j → dstNe ops i j = true := fun i hi j hj hne => by
    have h := List.all_eq_true.1 (List.all_eq_true.1 c3 i hi) j hj
    simp only [Bool.or_eq_true, beq_iff_eq] at h
    exact h.resolve_left hne
  have c4 : ∀ i ∈ R, ∀ d ∈ D i, d ∈ R ∧ depOn ops i d = true := fun i hi d hd => by
    have h := List.all_eq_true.1 (List.all_eq_true.1 c4 i hi) d hd
    simp only [Bool.and_eq_true, List.contains_iff_mem] at h
    exact h
  have c7 : l1.size = l0.size := of_decide_eq_true c7
  intro n
  induction n with
  | zero =>
    intro T hT _ _ l x w b c hs hl hdc hf hp1 hp2 hq1 hq2 hI
    obtain rfl : T = [] := List.eq_nil_of_length_eq_zero hT
    have hll : l = l1 := by
      apply Array.ext_getElem?
      intro k
      rw [hl k]
      by_cases hk : k < l0.size
      · have h := List.all_eq_true.1 c8 k (List.mem_range.2 hk)
        simp only [beq_iff_eq] at h
        exact h.symm
      · rw [Array.getElem?_eq_none (xs := l1) (by omega)]
        unfold spec
        have hn : k ∉ R := fun hk' => by
          have := (c2 k hk').2
          rw [Array.getElem?_eq_none (by omega)] at this
          cases this
        simp [hn, Array.getElem?_eq_none (xs := l0) (i := k) (by omega)]
    rw [Nat.zero_add, hll]
    exact hend x w b c (fun i hi => hf i hi (by simp)) (fun h => hp2 h (by simp)) (fun h => hq2 h (by simp)) hI
  | succ n ih =>
    intro T hT hTn hTR l x w b c hs hl hdc hf hp1 hp2 hq1 hq2 hI
    have hne : T ≠ [] := fun e => by rw [e] at hT; simp at hT
    have inT : ∀ k ∈ T, l[k]? = some false := fun k hk => by rw [hl k]; unfold spec; rw [if_pos (by simpa using hk)]
    have inR : ∀ k ∈ R, k ∉ T → l[k]? = some true := fun k hk hn => by rw [hl k]; unfold spec; rw [if_neg (by simpa using hn), if_pos (by simpa using hk)]
    have out : ∀ k, k ∉ R → l[k]? = l0[k]? := fun k hk => by rw [hl k]; unfold spec; rw [if_neg (by simpa using fun h => hk (hTR k h)), if_neg (by simpa using hk)]
    have rdy : ∀ i ∈ Region.ready .any ops l, i ∈ T := fun i hi => by
      obtain ⟨h0, o, ho, hall⟩ := mem_ready.1 hi
      have hdep : ∀ d, depOn ops i d = true → l[d]? = some true := fun d hd => by
        obtain ⟨e, he, h1, rfl⟩ := dep_on ho hd
        have h2 := hall e he h1
        cases h3 : l[e.on]? with
        | none => simp [h3] at h2
        | some b => simp [h3] at h2; rw [h2]
      apply Classical.byContradiction
      intro hiT
      by_cases hiR : i ∈ R
      · rw [Array.getD_eq_getD_getElem?, inR i hiR hiT] at h0
        cases h0
      · have hio : i < ops.size := (Array.getElem?_eq_some_iff.1 ho).1
        have h := List.all_eq_true.1 c5 i (List.mem_range.2 hio)
        simp only [Bool.or_eq_true] at h
        rcases h with ((h | h) | h) | h
        · exact hiR (by simpa using h)
        · rw [Array.getD_eq_getD_getElem?, out i hiR] at h0
          rw [Array.getD_eq_getD_getElem?, h0] at h
          cases h
        · obtain ⟨j, hj, _⟩ := least_of T hne
          have h1 := reach_done hdc 6 i j hdep (List.all_eq_true.1 h j (hTR j hj))
          rw [inT j hj] at h1
          cases h1
        · obtain ⟨t', _, h⟩ := List.any_eq_true.1 h
          simp only [Bool.and_eq_true, beq_iff_eq, Bool.not_eq_true'] at h
          have h1 := hdep t' h.2
          rw [out t' (by simpa using h.1.1), h.1.2] at h1
          cases h1
    have some_ : Region.ready .any ops l ≠ [] := fun e => by
      obtain ⟨i, hi, hmin⟩ := least_of T hne
      have hio := (c2 i (hTR i hi)).1
      have : i ∈ Region.ready .any ops l := by
        rw [mem_ready]
        refine ⟨by rw [Array.getD_eq_getD_getElem?, inT i hi]; rfl, ops[i], Array.getElem?_eq_getElem hio, fun e he hbd => ?_⟩
        have h := List.all_eq_true.1 c6 i (hTR i hi)
        rw [Array.getElem?_eq_getElem hio] at h
        simp only [Option.map_some, Option.getD_some, Array.all_eq_true_iff_forall_mem, Bool.or_eq_true, Bool.and_eq_true, decide_eq_true_eq, Bool.not_eq_true'] at h
        rcases h e he with (h | h) | h
        · rw [hbd] at h; cases h
        · have hnR : e.on ∉ R := fun hR => by
            rw [Array.getD_eq_getD_getElem?, (c2 _ hR).2] at h
            cases h
          rw [Array.getD_eq_getD_getElem?, out _ hnR, ← Array.getD_eq_getD_getElem?]
          exact h
        · have hR : e.on ∈ R := by simpa using h.1
          have hnT : e.on ∉ T := fun hT' => by have := hmin _ hT'; omega
          rw [Array.getD_eq_getD_getElem?, inR _ hR hnT]
          rfl
      rw [e] at this
      cases this
    rw [show n + 1 + f0 = n + f0 + 1 by omega]
    refine ⟨fun e => absurd e some_, fun i hi => ?_⟩
    have hiT := rdy i hi
    have hiR := hTR i hiT
    obtain ⟨_, o, ho, hall⟩ := mem_ready.1 hi
    refine hstep i hiR b c (fun e => hp1 (e ▸ hiT)) (fun e => hq1 (e ▸ hiT)) x w (fun d hd => ?_) hI _ (fun v w' hv hI' => ?_)
    · obtain ⟨hdR, hdd⟩ := c4 i hiR d hd
      obtain ⟨e, he, h1, rfl⟩ := dep_on ho hdd
      have h2 := hall e he h1
      refine hf _ hdR (fun hT' => ?_)
      rw [Array.getD_eq_getD_getElem?, inT _ hT'] at h2
      cases h2
    · rw [putsA_put R c1 c3 hiR]
      have hil : i < l.size := by
        rcases Nat.lt_or_ge i l.size with h | h
        · exact h
        · have := inT i hiT
          rw [Array.getElem?_eq_none h] at this
          cases this
      refine ih (T.erase i) (by rw [List.length_erase_of_mem hiT]; omega) (hTn.erase i) (fun j hj => hTR j (List.mem_of_mem_erase hj)) _ _ w' _ _ (by simp [hs]) (fun k => ?_) (fun j hj hjl d hd => ?_) (fun j hj hjT => ?_) (fun h => ?_) (fun h h2 => ?_) (fun h => ?_) (fun h h2 => ?_) hI'
      · rw [Array.getElem?_setIfInBounds]
        by_cases e : i = k
        · subst e
          rw [if_pos rfl, if_pos hil]
          unfold spec
          rw [if_neg (by simpa using fun h => (hTn.mem_erase_iff.1 h).1 rfl), if_pos (by simpa using hiR)]
        · rw [if_neg e, hl k]
          unfold spec
          have hh : (T.erase i).contains k = T.contains k := by
            rw [Bool.eq_iff_iff]
            simp only [List.contains_iff_mem]
            exact ⟨fun h => List.mem_of_mem_erase h, fun h => hTn.mem_erase_iff.2 ⟨fun e' => e e'.symm, h⟩⟩
          rw [hh]
      · have hup : ∀ k, l[k]? = some true → (l.setIfInBounds i true)[k]? = some true := fun k hk => by
          rw [Array.getElem?_setIfInBounds]
          by_cases e : i = k
          · rw [if_pos e, if_pos (by omega)]
          · rw [if_neg e]; exact hk
        by_cases e : j = i
        · subst e
          obtain ⟨e', he, h1, rfl⟩ := dep_on ho hd
          have h2 := hall e' he h1
          refine hup _ ?_
          cases h3 : l[e'.on]? with
          | none => simp [h3] at h2
          | some b => simp [h3] at h2; rw [h2]
        · rw [Array.getElem?_setIfInBounds_ne (fun e' => e e'.symm)] at hjl
          exact hup _ (hdc j hj hjl d hd)
      · by_cases e : j = i
        · subst e
          simp only [upd, if_true]
          exact hv
        · simp only [upd, if_neg e]
          exact hf j hj (fun h => hjT (hTn.mem_erase_iff.2 ⟨e, h⟩))
      · have h3 := hTn.mem_erase_iff.1 h
        rw [if_neg (fun e => h3.1 e.symm)]
        exact hp1 h3.2
      · by_cases e : i = p
        · rw [if_pos e]
        · rw [if_neg e]
          exact hp2 h (fun h3 => h2 (hTn.mem_erase_iff.2 ⟨fun e2 => e e2.symm, h3⟩))
      · have h3 := hTn.mem_erase_iff.1 h
        rw [if_neg (fun e => h3.1 e.symm)]
        exact hq1 h3.2
      · by_cases e : i = q
        · rw [if_pos e]
        · rw [if_neg e]
          exact hq2 h (fun h3 => h2 (hTn.mem_erase_iff.2 ⟨fun e2 => e e2.symm, h3⟩))
/-- the beginning, with a state: p and q are the two operations that change it -/
theorem facts_sg {P : Program} {ops : Array Oper} {Q : Exit → Act → World → Prop} (R : List Nat) (D : Nat → List Nat) (p q : Nat) (F : Nat → Value → Prop) (I : Bool → Bool → World → Prop) (a0 : Act) (w0 : World) (n f0 : Nat) (l0 l1 : Array Bool)
    (hck : rfCheck6 ops R D l0 l1 = true) (hn : n = R.length + f0) (h0 : I true true w0)
    (hstep : ∀ i ∈ R, ∀ b c, (i = p → b = true) → (i = q → c = true) → ∀ x w, (∀ d ∈ D i, F d (x d)) → I b c w → ∀ K : Act → World → Prop, (∀ v w', F i v → I (if i = p then false else b) (if i = q then false else c) w' → K ((putsA ops a0 x R).put (dstOf ops i) v) w') → wpOp P ops Q i K (putsA ops a0 x R) w)
    (hend : ∀ x w b c, (∀ i ∈ R, F i (x i)) → (p ∈ R → b = false) → (q ∈ R → c = false) → I b c w → wpAny P .any ops Q f0 l1 (putsA ops a0 x R) w) :
    wpAny P .any ops Q n l0 a0 w0 := by
  have h := facts_gog R D p q F I a0 f0 l0 l1 hck hstep hend R.length R rfl (by
    unfold rfCheck6 at hck
    simp only [Bool.and_eq_true] at hck
    exact of_decide_eq_true hck.1.1.1.1.1.1.1) (fun i h => h) l0 (fun i => ((dstOf ops i).bind (a0.tmps[·]?)).getD undef) w0 true true rfl (fun k => by
    unfold spec
    by_cases hk : k ∈ R
    · rw [if_pos (by simpa using hk)]
      unfold rfCheck6 at hck
      simp only [Bool.and_eq_true] at hck
      have h := List.all_eq_true.1 hck.1.1.1.1.1.1.2 k hk
      simp only [Bool.and_eq_true, beq_iff_eq] at h
      exact h.2
    · rw [if_neg (by simpa using hk), if_neg (by simpa using hk)]) (fun j hj hjl => by
      unfold rfCheck6 at hck
      simp only [Bool.and_eq_true] at hck
      have h := List.all_eq_true.1 hck.1.1.1.1.1.1.2 j hj
      simp only [Bool.and_eq_true, beq_iff_eq] at h
      rw [h.2] at hjl
      cases hjl) (fun i hi hn => absurd hi hn) (fun _ => rfl) (fun h h2 => absurd h h2) (fun _ => rfl) (fun h h2 => absurd h h2) h0
  rw [putsA_self] at h
  rw [hn]
  exact h
end Go.Proofs.Ythipaabjmlgjmaa
namespace Go.Proofs.Ythipaabjmlgjmaa
open Go Go.RowKit
set_option linter.unusedVariables false
set_option linter.unusedSimpArgs false
theorem facts_gow {P : Program} {ops : Array Oper} {Q : Exit → Act → World → Prop} (R : List Nat) (D : Nat → List Nat) (p q : Nat) (F : Nat → Value → World → Prop) (St : World → World → Prop) (I : Bool → Bool → World → Prop) (a0 : Act) (f0 : Nat) (l0 l1 : Array Bool)
    (hF : ∀ i v w w', F i v w → St w w' → F i v w') (hck : rfCheck6 ops R D l0 l1 = true)
    (hstep : ∀ i ∈ R, ∀ b c, (i = p → b = true) → (i = q → c = true) → (p ∈ D i → b = false) → (q ∈ D i → c = false) → ∀ x w, (∀ d ∈ D i, F d (x d) w) → I b c w → ∀ K : Act → World → Prop, (∀ v w', F i v w' → St w w' → I (if i = p then false else b) (if i = q then false else c) w' → K ((putsA ops a0 x R).put (dstOf ops i) v) w') → wpOp P ops Q i K (putsA ops a0 x R) w)
    (hend : ∀ x w b c, (∀ i ∈ R, F i (x i) w) → (p ∈ R → b = false) → (q ∈ R → c = false) → I b c w → wpAny P .any ops Q f0 l1 (putsA ops a0 x R) w) :
    ∀ (n : Nat) (T : List Nat), T.length = n → T.Nodup → (∀ i ∈ T, i ∈ R) → ∀ (l : Array Bool) (x : Nat → Value) (w : World) (b c : Bool), l.size = l0.size → (∀ k, l[k]? = spec l0 R T k) → (∀ j ∈ R, l[j]? = some true → ∀ d, depOn ops j d = true → l[d]? = some true) → (∀ i ∈ R, i ∉ T → F i (x i) w) → (p ∈ T → b = true) → (p ∈ R → p ∉ T → b = false) → (q ∈ T → c = true) → (q ∈ R → q ∉ T → c = false) → I b c w → wpAny P .any ops Q (n + f0) l (putsA ops a0 x R) w := by
  unfold rfCheck6 at hck
  simp only [Bool.and_eq_true] at hck
  obtain ⟨⟨⟨⟨⟨⟨⟨c1, c2⟩, c3⟩, c4⟩, c5⟩, c6⟩, c7⟩, c8⟩ := hck
  have c1 : R.Nodup := of_decide_eq_true c1
  have c2 : ∀ i ∈ R, i < ops.size ∧ l0[i]? = some false := fun i hi => by
    have h := List.all_eq_true.1 c2 i hi
    simp only [Bool.and_eq_true, decide_eq_true_eq, beq_iff_eq] at h
    exact h
  have c3 : ∀ i ∈ R, ∀ j ∈ R, i ≠ j → dstNe ops i j = true := fun i hi j hj hne => by
    have h := List.all_eq_true.1 (List.all_eq_true.1 c3 i hi) j hj
    simp only [Bool.or_eq_true, beq_iff_eq] at h
    exact h.resolve_left hne
  have c4 : ∀ i ∈ R, ∀ d ∈ D i, d ∈ R ∧ depOn ops i d = true := fun i hi d hd => by
    have h := List.all_eq_true.1 (List.all_eq_true.1 c4 i hi) d hd
    simp only [Bool.and_eq_true, List.contains_iff_mem] at h
    exact h
  have c7 : l1.size = l0.size := of_decide_eq_true c7
  intro n
  induction n with
  | zero =>
    intro T hT _ _ l x w b c hs hl hdc hf hp1 hp2 hq1 hq2 hI
    obtain rfl : T = [] := List.eq_nil_of_length_eq_zero hT
    have hll : l = l1 := by
      apply Array.ext_getElem?
      intro k
      rw [hl k]
      by_cases hk : k < l0.size
      · have h := List.all_eq_true.1 c8 k (List.mem_range.2 hk)
        simp only [beq_iff_eq] at h
        exact h.symm
      · rw [Array.getElem?_eq_none (xs := l1) (by omega)]
        unfold spec
        have hn : k ∉ R := fun hk' => by
          have := (c2 k hk').2
          rw [Array.getElem?_eq_none (by omega)] at this
          cases this
        simp [hn, Array.getElem?_eq_none (xs := l0) (i := k) (by omega)]
    rw [Nat.zero_add, hll]
    exact hend x w b c (fun i hi => hf i hi (by simp)) (fun h => hp2 h (by simp)) (fun h => hq2 h (by simp)) hI
  | succ n ih =>
    intro T hT hTn hTR l x w b c hs hl hdc hf hp1 hp2 hq1 hq2 hI
    have hne : T ≠ [] := fun e => by rw [e] at hT; simp at hT
    have inT : ∀ k ∈ T, l[k]? = some false := fun k hk => by rw [hl k]; unfold spec; rw [if_pos (by simpa using hk)]
    have inR : ∀ k ∈ R, k ∉ T → l[k]? = some true := fun k hk hn => by rw [hl k]; unfold spec; rw [if_neg (by simpa using hn), if_pos (by simpa using hk)]
    have out : ∀ k, k ∉ R → l[k]? = l0[k]? := fun k hk => by rw [hl k]; unfold spec; rw [if_neg (by simpa using fun h => hk (hTR k h)), if_neg (by simpa using hk)]
    have rdy : ∀ i ∈ Region.ready .any ops l, i ∈ T := fun i hi => by
      obtain ⟨h0, o, ho, hall⟩ := mem_ready.1 hi
      have hdep : ∀ d, depOn ops i d = true → l[d]? = some true := fun d hd => by
        obtain ⟨e, he, h1, rfl⟩ := dep_on ho hd
        have h2 := hall e he h1
        cases h3 : l[e.on]? with
        | none => simp [h3] at h2
        | some b => simp [h3] at h2; rw [h2]
      apply Classical.byContradiction
      intro hiT
      by_cases hiR : i ∈ R
      · rw [Array.getD_eq_getD_getElem?, inR i hiR hiT] at h0
        cases h0
      · have hio : i < ops.size := (Array.getElem?_eq_some_iff.1 ho).1
        have h := List.all_eq_true.1 c5 i (List.mem_range.2 hio)
        simp only [Bool.or_eq_true] at h
        rcases h with ((h | h) | h) | h
        · exact hiR (by simpa using h)
        · rw [Array.getD_eq_getD_getElem?, out i hiR] at h0
          rw [Array.getD_eq_getD_getElem?, h0] at h
          cases h
        · obtain ⟨j, hj, _⟩ := least_of T hne
          have h1 := reach_done hdc 6 i j hdep (List.all_eq_true.1 h j (hTR j hj))
          rw [inT j hj] at h1
          cases h1
        · obtain ⟨t', _, h⟩ := List.any_eq_true.1 h
          simp only [Bool.and_eq_true, beq_iff_eq, Bool.not_eq_true'] at h
          have h1 := hdep t' h.2
          rw [out t' (by simpa using h.1.1), h.1.2] at h1
          cases h1
    have some_ : Region.ready .any ops l ≠ [] := fun e => by
      obtain ⟨i, hi, hmin⟩ := least_of T hne
      have hio := (c2 i (hTR i hi)).1
      have : i ∈ Region.ready .any ops l := by
        rw [mem_ready]
        refine ⟨by rw [Array.getD_eq_getD_getElem?, inT i hi]; rfl, ops[i], Array.getElem?_eq_getElem hio, fun e he hbd => ?_⟩
        have h := List.all_eq_true.1 c6 i (hTR i hi)
        rw [Array.getElem?_eq_getElem hio] at h
        simp only [Option.map_some, Option.getD_some, Array.all_eq_true_iff_forall_mem, Bool.or_eq_true, Bool.and_eq_true, decide_eq_true_eq, Bool.not_eq_true'] at h
        rcases h e he with (h | h) | h
        · rw [hbd] at h; cases h
        · have hnR : e.on ∉ R := fun hR => by
            rw [Array.getD_eq_getD_getElem?, (c2 _ hR).2] at h
            cases h
          rw [Array.getD_eq_getD_getElem?, out _ hnR, ← Array.getD_eq_getD_getElem?]
          exact h
        · have hR : e.on ∈ R := by simpa using h.1
          have hnT : e.on ∉ T := fun hT' => by have := hmin _ hT'; omega
          rw [Array.getD_eq_getD_getElem?, inR _ hR hnT]
          rfl
      rw [e] at this
      cases this
    rw [show n + 1 + f0 = n + f0 + 1 by omega]
    refine ⟨fun e => absurd e some_, fun i hi => ?_⟩
    have hiT := rdy i hi
    have hiR := hTR i hiT
    obtain ⟨_, o, ho, hall⟩ := mem_ready.1 hi
    have dn : ∀ d, d ∈ D i → ∀ {z : Prop}, (d ∈ R → d ∉ T → z) → z := fun d hd z hz => by
      obtain ⟨hdR, hdd⟩ := c4 i hiR d hd
      obtain ⟨e, he, h1, rfl⟩ := dep_on ho hdd
      have h2 := hall e he h1
      refine hz hdR (fun hT' => ?_)
      rw [Array.getD_eq_getD_getElem?, inT _ hT'] at h2
      cases h2
    refine hstep i hiR b c (fun e => hp1 (e ▸ hiT)) (fun e => hq1 (e ▸ hiT)) (fun hd => dn p hd hp2) (fun hd => dn q hd hq2) x w (fun d hd => ?_) hI _ (fun v w' hv hSt hI' => ?_)
    · obtain ⟨hdR, hdd⟩ := c4 i hiR d hd
      obtain ⟨e, he, h1, rfl⟩ := dep_on ho hdd
      have h2 := hall e he h1
      refine hf _ hdR (fun hT' => ?_)
      rw [Array.getD_eq_getD_getElem?, inT _ hT'] at h2
      cases h2
    · rw [putsA_put R c1 c3 hiR]
      have hil : i < l.size := by
        rcases Nat.lt_or_ge i l.size with h | h
        · exact h
        · have := inT i hiT
          rw [Array.getElem?_eq_none h] at this
          cases this
      refine ih (T.erase i) (by rw [List.length_erase_of_mem hiT]; omega) (hTn.erase i) (fun j hj => hTR j (List.mem_of_mem_erase hj)) _ _ w' _ _ (by simp [hs]) (fun k => ?_) (fun j hj hjl d hd => ?_) (fun j hj hjT => ?_) (fun h => ?_) (fun h h2 => ?_) (fun h => ?_) (fun h h2 => ?_) hI'
      · rw [Array.getElem?_setIfInBounds]
        by_cases e : i = k
        · subst e
          rw [if_pos rfl, if_pos hil]
          unfold spec
          rw [if_neg (by simpa using fun h => (hTn.mem_erase_iff.1 h).1 rfl), if_pos (by simpa using hiR)]
        · rw [if_neg e, hl k]
          unfold spec
          have hh : (T.erase i).contains k = T.contains k := by
            rw [Bool.eq_iff_iff]
            simp only [List.contains_iff_mem]
            exact ⟨fun h => List.mem_of_mem_erase h, fun h => hTn.mem_erase_iff.2 ⟨fun e' => e e'.symm, h⟩⟩
          rw [hh]
      · have hup : ∀ k, l[k]? = some true → (l.setIfInBounds i true)[k]? = some true := fun k hk => by
          rw [Array.getElem?_setIfInBounds]
          by_cases e : i = k
          · rw [if_pos e, if_pos (by omega)]
          · rw [if_neg e]; exact hk
        by_cases e : j = i
        · subst e
          obtain ⟨e', he, h1, rfl⟩ := dep_on ho hd
          have h2 := hall e' he h1
          refine hup _ ?_
          cases h3 : l[e'.on]? with
          | none => simp [h3] at h2
          | some b => simp [h3] at h2; rw [h2]
        · rw [Array.getElem?_setIfInBounds_ne (fun e' => e e'.symm)] at hjl
          exact hup _ (hdc j hj hjl d hd)
      · by_cases e : j = i
        · subst e
          simp only [upd, if_true]
          exact hv
        · simp only [upd, if_neg e]
          exact hF j _ w w' (hf j hj (fun h => hjT (hTn.mem_erase_iff.2 ⟨e, h⟩))) hSt
      · have h3 := hTn.mem_erase_iff.1 h
        rw [if_neg (fun e => h3.1 e.symm)]
        exact hp1 h3.2
      · by_cases e : i = p
        · rw [if_pos e]
        · rw [if_neg e]
          exact hp2 h (fun h3 => h2 (hTn.mem_erase_iff.2 ⟨fun e2 => e e2.symm, h3⟩))
      · have h3 := hTn.mem_erase_iff.1 h
        rw [if_neg (fun e => h3.1 e.symm)]
        exact hq1 h3.2
      · by_cases e : i = q
        · rw [if_pos e]
        · rw [if_neg e]
          exact hq2 h (fun h3 => h2 (hTn.mem_erase_iff.2 ⟨fun e2 => e e2.symm, h3⟩))
/-- the beginning, with a state: p and q are the two operations that change it -/
theorem facts_sw {P : Program} {ops : Array Oper} {Q : Exit → Act → World → Prop} (R : List Nat) (D : Nat → List Nat) (p q : Nat) (F : Nat → Value → World → Prop) (St : World → World → Prop) (I : Bool → Bool → World → Prop) (a0 : Act) (w0 : World) (n f0 : Nat) (l0 l1 : Array Bool)
    (hF : ∀ i v w w', F i v w → St w w' → F i v w') (hck : rfCheck6 ops R D l0 l1 = true) (hn : n = R.length + f0) (h0 : I true true w0)
    (hstep : ∀ i ∈ R, ∀ b c, (i = p → b = true) → (i = q → c = true) → (p ∈ D i → b = false) → (q ∈ D i → c = false) → ∀ x w, (∀ d ∈ D i, F d (x d) w) → I b c w → ∀ K : Act → World → Prop, (∀ v w', F i v w' → St w w' → I (if i = p then false else b) (if i = q then false else c) w' → K ((putsA ops a0 x R).put (dstOf ops i) v) w') → wpOp P ops Q i K (putsA ops a0 x R) w)
    (hend : ∀ x w b c, (∀ i ∈ R, F i (x i) w) → (p ∈ R → b = false) → (q ∈ R → c = false) → I b c w → wpAny P .any ops Q f0 l1 (putsA ops a0 x R) w) :
    wpAny P .any ops Q n l0 a0 w0 := by
  have h := facts_gow R D p q F St I a0 f0 l0 l1 hF hck hstep hend R.length R rfl (by
    unfold rfCheck6 at hck
    simp only [Bool.and_eq_true] at hck
    exact of_decide_eq_true hck.1.1.1.1.1.1.1) (fun i h => h) l0 (fun i => ((dstOf ops i).bind (a0.tmps[·]?)).getD undef) w0 true true rfl (fun k => by
    unfold spec
    by_cases hk : k ∈ R
    · rw [if_pos (by simpa using hk)]
      unfold rfCheck6 at hck
      simp only [Bool.and_eq_true] at hck
      have h := List.all_eq_true.1 hck.1.1.1.1.1.1.2 k hk
      simp only [Bool.and_eq_true, beq_iff_eq] at h
      exact h.2
    · rw [if_neg (by simpa using hk), if_neg (by simpa using hk)]) (fun j hj hjl => by
      unfold rfCheck6 at hck
      simp only [Bool.and_eq_true] at hck
      have h := List.all_eq_true.1 hck.1.1.1.1.1.1.2 j hj
      simp only [Bool.and_eq_true, beq_iff_eq] at h
      rw [h.2] at hjl
      cases hjl) (fun i hi hn => absurd hi hn) (fun _ => rfl) (fun h h2 => absurd h h2) (fun _ => rfl) (fun h h2 => absurd h h2) h0
  rw [putsA_self] at h
  rw [hn]
  exact h
end Go.Proofs.Ythipaabjmlgjmaa
namespace Go.Proofs.Ythipaabjmlgjmaa
open Go Go.RowKit
set_option linter.unusedVariables false
set_option linter.unusedSimpArgs false
theorem facts_gox {P : Program} {ops : Array Oper} {Q : Exit → Act → World → Prop} (R : List Nat) (D : Nat → List Nat) (p q : Nat) (F : Nat → Value → World → Prop) (St : World → World → Prop) (I : Bool → Bool → (Nat → Value) → World → Prop) (a0 : Act) (f0 : Nat) (l0 l1 : Array Bool)
    (hF : ∀ i v w w', F i v w → St w w' → F i v w') (hck : rfCheck6 ops R D l0 l1 = true)
    (hstep : ∀ i ∈ R, ∀ b c, (i = p → b = true) → (i = q → c = true) → (p ∈ D i → b = false) → (q ∈ D i → c = false) → (p ∈ R → i ∈ D p → b = true) → (q ∈ R → i ∈ D q → c = true) → ∀ x w, (∀ d ∈ D i, F d (x d) w) → I b c x w → ∀ K : Act → World → Prop, (∀ v w', F i v w' → St w w' → I (if i = p then false else b) (if i = q then false else c) (upd x i v) w' → K ((putsA ops a0 x R).put (dstOf ops i) v) w') → wpOp P ops Q i K (putsA ops a0 x R) w)
    (hend : ∀ x w b c, (∀ i ∈ R, F i (x i) w) → (p ∈ R → b = false) → (q ∈ R → c = false) → I b c x w → wpAny P .any ops Q f0 l1 (putsA ops a0 x R) w) :
    ∀ (n : Nat) (T : List Nat), T.length = n → T.Nodup → (∀ i ∈ T, i ∈ R) → ∀ (l : Array Bool) (x : Nat → Value) (w : World) (b c : Bool), l.size = l0.size → (∀ k, l[k]? = spec l0 R T k) → (∀ j ∈ R, l[j]? = some true → ∀ d, depOn ops j d = true → l[d]? = some true) → (∀ i ∈ R, i ∉ T → F i (x i) w) → (p ∈ T → b = true) → (p ∈ R → p ∉ T → b = false) → (q ∈ T → c = true) → (q ∈ R → q ∉ T → c = false) → I b c x w → wpAny P .any ops Q (n + f0) l (putsA ops a0 x R) w := by
  unfold rfCheck6 at hck
  simp only [Bool.and_eq_true] at hck
  obtain ⟨⟨⟨⟨⟨⟨⟨c1, c2⟩, c3⟩, c4⟩, c5⟩, c6⟩, c7⟩, c8⟩ := hck
  have c1 : R.Nodup := of_decide_eq_true c1
  have c2 : ∀ i ∈ R, i < ops.size ∧ l0[i]? = some false := fun i hi => by
    have h := List.all_eq_true.1 c2 i hi
    simp only [Bool.and_eq_true, decide_eq_true_eq, beq_iff_eq] at h
    exact h
  have c3 : ∀ i ∈ R, ∀ j ∈ R, i ≠ j → dstNe ops i j = true := fun i hi j hj hne => by
    have h := List.all_eq_true.1 (List.all_eq_true.1 c3 i hi) j hj
    simp only [Bool.or_eq_true, beq_iff_eq] at h
    exact h.resolve_left hne
  have c4 : ∀ i ∈ R, ∀ d ∈ D i, d ∈ R ∧ depOn ops i d = true := fun i hi d hd => by
    have h := List.all_eq_true.1 (List.all_eq_true.1 c4 i hi) d hd
    simp only [Bool.and_eq_true, List.contains_iff_mem] at h
    exact h
  have c7 : l1.size = l0.size := of_decide_eq_true c7
  intro n
  induction n with
  | zero =>
    intro T hT _ _ l x w b c hs hl hdc hf hp1 hp2 hq1 hq2 hI
    obtain rfl : T = [] := List.eq_nil_of_length_eq_zero hT
    have hll : l = l1 := by
      apply Array.ext_getElem?
      intro k
      rw [hl k]
      by_cases hk : k < l0.size
      · have h := List.all_eq_true.1 c8 k (List.mem_range.2 hk)
        simp only [beq_iff_eq] at h
        exact h.symm
      · rw [Array.getElem?_eq_none (xs := l1) (by omega)]
        unfold spec
        have hn : k ∉ R := fun hk' => by
          have := (c2 k hk').2
          rw [Array.getElem?_eq_none (by omega)] at this
          cases this
        simp [hn, Array.getElem?_eq_none (xs := l0) (i := k) (by omega)]
    rw [Nat.zero_add, hll]
    exact hend x w b c (fun i hi => hf i hi (by simp)) (fun h => hp2 h (by simp)) (fun h => hq2 h (by simp)) hI
  | succ n ih =>
    intro T hT hTn hTR l x w b c hs hl hdc hf hp1 hp2 hq1 hq2 hI
    have hne : T ≠ [] := fun e => by rw [e] at hT; simp at hT
    have inT : ∀ k ∈ T, l[k]? = some false := fun k hk => by rw [hl k]; unfold spec; rw [if_pos (by simpa using hk)]
    have inR : ∀ k ∈ R, k ∉ T → l[k]? = some true := fun k hk hn => by rw [hl k]; unfold spec; rw [if_neg (by simpa using hn), if_pos (by simpa using hk)]
    have out : ∀ k, k ∉ R → l[k]? = l0[k]? := fun k hk => by rw [hl k]; unfold spec; rw [if_neg (by simpa using fun h => hk (hTR k h)), if_neg (by simpa using hk)]
    have rdy : ∀ i ∈ Region.ready .any ops l, i ∈ T := fun i hi => by
      obtain ⟨h0, o, ho, hall⟩ := mem_ready.1 hi
      have hdep : ∀ d, depOn ops i d = true → l[d]? = some true := fun d hd => by
        obtain ⟨e, he, h1, rfl⟩ := dep_on ho hd
        have h2 := hall e he h1
        cases h3 : l[e.on]? with
        | none => simp [h3] at h2
        | some b => simp [h3] at h2; rw [h2]
      apply Classical.byContradiction
      intro hiT
      by_cases hiR : i ∈ R
      · rw [Array.getD_eq_getD_getElem?, inR i hiR hiT] at h0
        cases h0
      · have hio : i < ops.size := (Array.getElem?_eq_some_iff.1 ho).1
        have h := List.all_eq_true.1 c5 i (List.mem_range.2 hio)
        simp only [Bool.or_eq_true] at h
        rcases h with ((h | h) | h) | h
        · exact hiR (by simpa using h)
        · rw [Array.getD_eq_getD_getElem?, out i hiR] at h0
          rw [Array.getD_eq_getD_getElem?, h0] at h
          cases h
        · obtain ⟨j, hj, _⟩ := least_of T hne
          have h1 := reach_done hdc 6 i j hdep (List.all_eq_true.1 h j (hTR j hj))
          rw [inT j hj] at h1
          cases h1
        · obtain ⟨t', _, h⟩ := List.any_eq_true.1 h
          simp only [Bool.and_eq_true, beq_iff_eq, Bool.not_eq_true'] at h
          have h1 := hdep t' h.2
          rw [out t' (by simpa using h.1.1), h.1.2] at h1
          cases h1
    have some_ : Region.ready .any ops l ≠ [] := fun e => by
      obtain ⟨i, hi, hmin⟩ := least_of T hne
      have hio := (c2 i (hTR i hi)).1
      have : i ∈ Region.ready .any ops l := by
        rw [mem_ready]
        refine ⟨by rw [Array.getD_eq_getD_getElem?, inT i hi]; rfl, ops[i], Array.getElem?_eq_getElem hio, fun e he hbd => ?_⟩
        have h := List.all_eq_true.1 c6 i (hTR i hi)
        rw [Array.getElem?_eq_getElem hio] at h
        simp only [Option.map_some, Option.getD_some, Array.all_eq_true_iff_forall_mem, Bool.or_eq_true, Bool.and_eq_true, decide_eq_true_eq, Bool.not_eq_true'] at h
        rcases h e he with (h | h) | h
        · rw [hbd] at h; cases h
        · have hnR : e.on ∉ R := fun hR => by
            rw [Array.getD_eq_getD_getElem?, (c2 _ hR).2] at h
            cases h
          rw [Array.getD_eq_getD_getElem?, out _ hnR, ← Array.getD_eq_getD_getElem?]
          exact h
        · have hR : e.on ∈ R := by simpa using h.1
          have hnT : e.on ∉ T := fun hT' => by have := hmin _ hT'; omega
          rw [Array.getD_eq_getD_getElem?, inR _ hR hnT]
          rfl
      rw [e] at this
      cases this
    rw [show n + 1 + f0 = n + f0 + 1 by omega]
    refine ⟨fun e => absurd e some_, fun i hi => ?_⟩
    have hiT := rdy i hi
    have hiR := hTR i hiT
    obtain ⟨_, o, ho, hall⟩ := mem_ready.1 hi
    have dn : ∀ d, d ∈ D i → ∀ {z : Prop}, (d ∈ R → d ∉ T → z) → z := fun d hd z hz => by
      obtain ⟨hdR, hdd⟩ := c4 i hiR d hd
      obtain ⟨e, he, h1, rfl⟩ := dep_on ho hdd
      have h2 := hall e he h1
      refine hz hdR (fun hT' => ?_)
      rw [Array.getD_eq_getD_getElem?, inT _ hT'] at h2
      cases h2
    refine hstep i hiR b c (fun e => hp1 (e ▸ hiT)) (fun e => hq1 (e ▸ hiT)) (fun hd => dn p hd hp2) (fun hd => dn q hd hq2) (fun hpR hd => Classical.byContradiction fun hb => (by
      have hpT : p ∉ T := fun h => hb (hp1 h)
      have h1 := hdc p hpR (inR p hpR hpT) i (c4 p hpR i hd).2
      rw [inT i hiT] at h1
      cases h1)) (fun hqR hd => Classical.byContradiction fun hb => (by
      have hqT : q ∉ T := fun h => hb (hq1 h)
      have h1 := hdc q hqR (inR q hqR hqT) i (c4 q hqR i hd).2
      rw [inT i hiT] at h1
      cases h1)) x w (fun d hd => ?_) hI _ (fun v w' hv hSt hI' => ?_)
    · obtain ⟨hdR, hdd⟩ := c4 i hiR d hd
      obtain ⟨e, he, h1, rfl⟩ := dep_on ho hdd
      have h2 := hall e he h1
      refine hf _ hdR (fun hT' => ?_)
      rw [Array.getD_eq_getD_getElem?, inT _ hT'] at h2
      cases h2
    · rw [putsA_put R c1 c3 hiR]
      have hil : i < l.size := by
        rcases Nat.lt_or_ge i l.size with h | h
        · exact h
        · have := inT i hiT
          rw [Array.getElem?_eq_none h] at this
          cases this
      refine ih (T.erase i) (by rw [List.length_erase_of_mem hiT]; omega) (hTn.erase i) (fun j hj => hTR j (List.mem_of_mem_erase hj)) _ _ w' _ _ (by simp [hs]) (fun k => ?_) (fun j hj hjl d hd => ?_) (fun j hj hjT => ?_) (fun h => ?_) (fun h h2 => ?_) (fun h => ?_) (fun h h2 => ?_) hI'
      · rw [Array.getElem?_setIfInBounds]
        by_cases e : i = k
        · subst e
          rw [if_pos rfl, if_pos hil]
          unfold spec
          rw [if_neg (by simpa using fun h => (hTn.mem_erase_iff.1 h).1 rfl), if_pos (by simpa using hiR)]
        · rw [if_neg e, hl k]
          unfold spec
          have hh : (T.erase i).contains k = T.contains k := by
            rw [Bool.eq_iff_iff]
            simp only [List.contains_iff_mem]
            exact ⟨fun h => List.mem_of_mem_erase h, fun h => hTn.mem_erase_iff.2 ⟨fun e' => e e'.symm, h⟩⟩
          rw [hh]
      · have hup : ∀ k, l[k]? = some true → (l.setIfInBounds i true)[k]? = some true := fun k hk => by
          rw [Array.getElem?_setIfInBounds]
          by_cases e : i = k
          · rw [if_pos e, if_pos (by omega)]
          · rw [if_neg e]; exact hk
        by_cases e : j = i
        · subst e
          obtain ⟨e', he, h1, rfl⟩ := dep_on ho hd
          have h2 := hall e' he h1
          refine hup _ ?_
          cases h3 : l[e'.on]? with
          | none => simp [h3] at h2
          | some b => simp [h3] at h2; rw [h2]
        · rw [Array.getElem?_setIfInBounds_ne (fun e' => e e'.symm)] at hjl
          exact hup _ (hdc j hj hjl d hd)
      · by_cases e : j = i
        · subst e
          simp only [upd, if_true]
          exact hv
        · simp only [upd, if_neg e]
          exact hF j _ w w' (hf j hj (fun h => hjT (hTn.mem_erase_iff.2 ⟨e, h⟩))) hSt
      · have h3 := hTn.mem_erase_iff.1 h
        rw [if_neg (fun e => h3.1 e.symm)]
        exact hp1 h3.2
      · by_cases e : i = p
        · rw [if_pos e]
        · rw [if_neg e]
          exact hp2 h (fun h3 => h2 (hTn.mem_erase_iff.2 ⟨fun e2 => e e2.symm, h3⟩))
      · have h3 := hTn.mem_erase_iff.1 h
        rw [if_neg (fun e => h3.1 e.symm)]
        exact hq1 h3.2
      · by_cases e : i = q
        · rw [if_pos e]
        · rw [if_neg e]
          exact hq2 h (fun h3 => h2 (hTn.mem_erase_iff.2 ⟨fun e2 => e e2.symm, h3⟩))
/-- the beginning, with a state: p and q are the two operations that change it -/
theorem facts_sx {P : Program} {ops : Array Oper} {Q : Exit → Act → World → Prop} (R : List Nat) (D : Nat → List Nat) (p q : Nat) (F : Nat → Value → World → Prop) (St : World → World → Prop) (I : Bool → Bool → (Nat → Value) → World → Prop) (a0 : Act) (w0 : World) (n f0 : Nat) (l0 l1 : Array Bool)
    (hF : ∀ i v w w', F i v w → St w w' → F i v w') (hck : rfCheck6 ops R D l0 l1 = true) (hn : n = R.length + f0) (h0 : ∀ x, I true true x w0)
    (hstep : ∀ i ∈ R, ∀ b c, (i = p → b = true) → (i = q → c = true) → (p ∈ D i → b = false) → (q ∈ D i → c = false) → (p ∈ R → i ∈ D p → b = true) → (q ∈ R → i ∈ D q → c = true) → ∀ x w, (∀ d ∈ D i, F d (x d) w) → I b c x w → ∀ K : Act → World → Prop, (∀ v w', F i v w' → St w w' → I (if i = p then false else b) (if i = q then false else c) (upd x i v) w' → K ((putsA ops a0 x R).put (dstOf ops i) v) w') → wpOp P ops Q i K (putsA ops a0 x R) w)
    (hend : ∀ x w b c, (∀ i ∈ R, F i (x i) w) → (p ∈ R → b = false) → (q ∈ R → c = false) → I b c x w → wpAny P .any ops Q f0 l1 (putsA ops a0 x R) w) :
    wpAny P .any ops Q n l0 a0 w0 := by
  have h := facts_gox R D p q F St I a0 f0 l0 l1 hF hck hstep hend R.length R rfl (by
    unfold rfCheck6 at hck
    simp only [Bool.and_eq_true] at hck
    exact of_decide_eq_true hck.1.1.1.1.1.1.1) (fun i h => h) l0 (fun i => ((dstOf ops i).bind (a0.tmps[·]?)).getD undef) w0 true true rfl (fun k => by
    unfold spec
    by_cases hk : k ∈ R
    · rw [if_pos (by simpa using hk)]
      unfold rfCheck6 at hck
      simp only [Bool.and_eq_true] at hck
      have h := List.all_eq_true.1 hck.1.1.1.1.1.1.2 k hk
      simp only [Bool.and_eq_true, beq_iff_eq] at h
      exact h.2
    · rw [if_neg (by simpa using hk), if_neg (by simpa using hk)]) (fun j hj hjl => by
      unfold rfCheck6 at hck
      simp only [Bool.and_eq_true] at hck
      have h := List.all_eq_true.1 hck.1.1.1.1.1.1.2 j hj
      simp only [Bool.and_eq_true, beq_iff_eq] at h
      rw [h.2] at hjl
      cases hjl) (fun i hi hn => absurd hi hn) (fun _ => rfl) (fun h h2 => absurd h h2) (fun _ => rfl) (fun h h2 => absurd h h2) (h0 _)
  rw [putsA_self] at h
  rw [hn]
  exact h
end Go.Proofs.Ythipaabjmlgjmaa
