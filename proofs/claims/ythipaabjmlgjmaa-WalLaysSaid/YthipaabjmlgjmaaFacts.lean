/- A drawn region by facts: of each operation that is left one fact, of its value and the world, which stays true whatever is made behind it; whichever order is drawn, behind all of them all facts hold. Conditions: those of each lemma. -/
import Derived.Test.YthipaabjmlgjmaaBase
import Derived.Orders
import Derived.RegionTactic
import Derived.WalkKit
namespace Go.Proofs.Ythipaabjmlgjmaa
open Go Go.RowKit
set_option linter.unusedVariables false
set_option linter.unusedSimpArgs false
def dstOf (ops : Array Oper) (i : Nat) : Option Tmp := (ops[i]?).bind (·.dst)
/-- the frame, with a value for each operation of R -/
def putsA (ops : Array Oper) (a0 : Act) (x : Nat → Value) : List Nat → Act
  | [] => a0
  | r :: R => (putsA ops a0 x R).put (dstOf ops r) (x r)
def depOn (ops : Array Oper) (i d : Nat) : Bool := ((ops[i]?).map (fun o => o.after.any (fun e => Region.binds .any e && e.on == d))).getD false
/-- whether t waits for i, straight or through others of R -/
def reach (ops : Array Oper) (R : List Nat) : Nat → Nat → Nat → Bool
  | 0, t, i => depOn ops t i
  | n + 1, t, i => depOn ops t i || R.any (fun j => depOn ops t j && reach ops R n j i)
def spec (l0 : Array Bool) (R T : List Nat) (k : Nat) : Option Bool := if T.contains k then some false else if R.contains k then some true else l0[k]?
def dstNe (ops : Array Oper) (i j : Nat) : Bool := match dstOf ops i, dstOf ops j with
  | some d, some e => d != e
  | _, _ => true
/-- what a machine can look after: R are operations that are left, each waits only for what is done or stands ahead of it in R; D tells some for which each waits; what is left beside R waits for all of R, or for another one beside R -/
def rfCheck (ops : Array Oper) (R : List Nat) (D : Nat → List Nat) (l0 l1 : Array Bool) : Bool :=
  decide R.Nodup && R.all (fun i => decide (i < ops.size) && l0[i]? == some false) && R.all (fun i => R.all fun j => i == j || dstNe ops i j) &&
  R.all (fun i => (D i).all fun d => R.contains d && depOn ops i d) &&
  (List.range ops.size).all (fun t => R.contains t || l0.getD t true || R.all (fun i => reach ops R 2 t i) || (List.range ops.size).any (fun t' => !R.contains t' && l0[t']? == some false && depOn ops t t')) &&
  R.all (fun i => ((ops[i]?).map (fun o => o.after.all fun e => !Region.binds .any e || l0.getD e.on false || (R.contains e.on && decide (e.on < i)))).getD false) &&
  decide (l1.size = l0.size) && (List.range l0.size).all (fun k => l1[k]? == spec l0 R [] k)
theorem put_put (a : Act) (o : Option Tmp) (v u : Value) : (a.put o v).put o u = a.put o u := by
  cases o with
  | none => rfl
  | some d => simp [Act.put]
theorem put_self (a : Act) (o : Option Tmp) : a.put o ((o.bind (a.tmps[·]?)).getD undef) = a := by
  cases o with
  | none => rfl
  | some d =>
    obtain ⟨tm, df⟩ := a
    simp only [Act.put, Act.mk.injEq, and_true, Option.bind_some]
    apply Array.ext_getElem?
    intro k
    rw [Array.getElem?_setIfInBounds]
    by_cases h : d = k
    · subst h
      by_cases h2 : d < tm.size
      · simp [h2]
      · simp [h2]
    · rw [if_neg h]
def upd (x : Nat → Value) (i : Nat) (v : Value) : Nat → Value := fun j => if j = i then v else x j
theorem putsA_congr {ops : Array Oper} {a0 : Act} {x y : Nat → Value} : ∀ R : List Nat, (∀ j ∈ R, x j = y j) → putsA ops a0 x R = putsA ops a0 y R
  | [], _ => rfl
  | r :: R, h => by
    simp only [putsA]
    rw [putsA_congr R (fun j hj => h j (List.mem_cons_of_mem _ hj)), h r (List.mem_cons_self ..)]
theorem putsA_put {ops : Array Oper} {a0 : Act} {x : Nat → Value} {i : Nat} {v : Value} : ∀ R : List Nat, R.Nodup → (∀ j ∈ R, ∀ k ∈ R, j ≠ k → dstNe ops j k = true) → i ∈ R → (putsA ops a0 x R).put (dstOf ops i) v = putsA ops a0 (upd x i v) R
  | [], _, _, h => by cases h
  | r :: R, hn, hd, h => by
    simp only [putsA]
    have hn' := List.nodup_cons.1 hn
    by_cases e : i = r
    · subst e
      rw [put_put, putsA_congr (x := upd x i v) (y := x) R (fun j hj => by
        unfold upd
        rw [if_neg (fun e' => by rw [e'] at hj; exact hn'.1 hj)])]
      simp [upd]
    · have hi : i ∈ R := (List.mem_cons.1 h).resolve_left e
      rw [Act.put_comm _ _ _ (fun d h1 h2 => by
        have h3 := hd r (List.mem_cons_self ..) i h (fun e' => e e'.symm)
        unfold dstNe at h3
        rw [h1, h2] at h3
        simp at h3), putsA_put R hn'.2 (fun j hj k hk => hd j (List.mem_cons_of_mem _ hj) k (List.mem_cons_of_mem _ hk)) hi]
      simp [upd, Ne.symm e]
theorem putsA_self {ops : Array Oper} {a0 : Act} : ∀ R : List Nat, putsA ops a0 (fun i => ((dstOf ops i).bind (a0.tmps[·]?)).getD undef) R = a0
  | [] => rfl
  | r :: R => by
    simp only [putsA]
    rw [putsA_self R]
    exact put_self _ _
/-- what lies in a slot of that frame -/
theorem putsA_at {ops : Array Oper} {a0 : Act} {x : Nat → Value} (d : Tmp) : ∀ R : List Nat, (∀ j ∈ R, dstOf ops j ≠ some d) → (putsA ops a0 x R).tmps[d]? = a0.tmps[d]?
  | [], _ => rfl
  | r :: R, h => by
    simp only [putsA]
    have h0 := h r (List.mem_cons_self ..)
    have ih := putsA_at (ops := ops) (a0 := a0) (x := x) d R (fun j hj => h j (List.mem_cons_of_mem _ hj))
    cases hr : dstOf ops r with
    | none => simpa [Act.put] using ih
    | some e =>
      have hne : e ≠ d := fun e' => h0 (by rw [hr, e'])
      simp only [Act.put]
      rw [Array.getElem?_setIfInBounds_ne hne]
      exact ih
theorem putsA_size {ops : Array Oper} {a0 : Act} {x : Nat → Value} : ∀ R : List Nat, (putsA ops a0 x R).tmps.size = a0.tmps.size
  | [] => rfl
  | r :: R => by
    simp only [putsA]
    cases dstOf ops r with
    | none => exact putsA_size R
    | some e => simp only [Act.put, Array.size_setIfInBounds]; exact putsA_size R
theorem putsA_in {ops : Array Oper} {a0 : Act} {x : Nat → Value} {i : Nat} (d : Tmp) (hd : dstOf ops i = some d) (hs : d < a0.tmps.size) : ∀ R : List Nat, (∀ j ∈ R, j ≠ i → dstOf ops j ≠ some d) → i ∈ R → (putsA ops a0 x R).tmps[d]? = some (x i)
  | [], _, h => by cases h
  | r :: R, h0, h => by
    simp only [putsA]
    by_cases e : r = i
    · subst e
      rw [hd]
      simp only [Act.put]
      rw [Array.getElem?_setIfInBounds_self_of_lt (by rw [putsA_size]; exact hs)]
    · have hi : i ∈ R := (List.mem_cons.1 h).resolve_left (fun e' => e e'.symm)
      have ih := putsA_in (ops := ops) (a0 := a0) (x := x) d hd hs R (fun j hj => h0 j (List.mem_cons_of_mem _ hj)) hi
      have h1 := h0 r (List.mem_cons_self ..) e
      cases hr : dstOf ops r with
      | none => simpa [Act.put] using ih
      | some e =>
        have hne : e ≠ d := fun e' => h1 (by rw [hr, e'])
        simp only [Act.put]
        rw [Array.getElem?_setIfInBounds_ne hne]
        exact ih
/-- the block to which a pointer, a slice points -/
def blkOf : Value → Nat
  | .pointer (some a) => a.block
  | .slice (some a) _ _ => a.block
  | _ => 0
theorem least_of : ∀ T : List Nat, T ≠ [] → ∃ i ∈ T, ∀ j ∈ T, i ≤ j
  | [], h => absurd rfl h
  | t :: T, _ => by
    by_cases h : T = []
    · subst h
      exact ⟨t, List.mem_cons_self .., fun j hj => by simp at hj; omega⟩
    · obtain ⟨i, h1, h2⟩ := least_of T h
      by_cases hlt : t ≤ i
      · exact ⟨t, List.mem_cons_self .., fun j hj => by
          rcases List.mem_cons.1 hj with rfl | hj
          · omega
          · have := h2 j hj; omega⟩
      · exact ⟨i, List.mem_cons_of_mem _ h1, fun j hj => by
          rcases List.mem_cons.1 hj with rfl | hj
          · omega
          · exact h2 j hj⟩
theorem dep_on {ops : Array Oper} {i d : Nat} {o : Oper} (ho : ops[i]? = some o) (h : depOn ops i d = true) : ∃ e ∈ o.after, Region.binds .any e = true ∧ e.on = d := by
  unfold depOn at h
  rw [ho] at h
  simp only [Option.map_some, Option.getD_some, Array.any_eq_true', Bool.and_eq_true, beq_iff_eq] at h
  obtain ⟨e, h1, h2, h3⟩ := h
  exact ⟨e, h1, h2, h3⟩
theorem reach_done {ops : Array Oper} {R : List Nat} {l : Array Bool} (hdc : ∀ j ∈ R, l[j]? = some true → ∀ d, depOn ops j d = true → l[d]? = some true) : ∀ n t i, (∀ d, depOn ops t d = true → l[d]? = some true) → reach ops R n t i = true → l[i]? = some true := by
  intro n
  induction n with
  | zero => intro t i h1 h2; exact h1 i h2
  | succ n ih =>
    intro t i h1 h2
    simp only [reach, Bool.or_eq_true, List.any_eq_true, Bool.and_eq_true] at h2
    rcases h2 with h2 | ⟨j, hj, h3, h4⟩
    · exact h1 i h2
    · exact ih j i (hdc j hj (h1 j h3)) h4
theorem facts_go {P : Program} {ops : Array Oper} {Q : Exit → Act → World → Prop} (R AL : List Nat) (D : Nat → List Nat) (F : Nat → Value → World → Prop) (a0 : Act) (w0 : World) (f0 : Nat) (l0 l1 : Array Bool)
    (hck : rfCheck ops R D l0 l1 = true)
    (hF : ∀ i v w w', F i v w → Below w.heap.size w w' → F i v w')
    (hA : ∀ i ∈ AL, ∀ v w, F i v w → blkOf v < w.heap.size)
    (hstep : ∀ i ∈ R, ∀ x w, (∀ d ∈ D i, F d (x d) w) → Below w0.heap.size w0 w → ∀ K : Act → World → Prop, (∀ v w', F i v w' → Below w.heap.size w w' → (i ∈ AL → w.heap.size ≤ blkOf v) → K ((putsA ops a0 x R).put (dstOf ops i) v) w') → wpOp P ops Q i K (putsA ops a0 x R) w)
    (hend : ∀ x w, (∀ i ∈ R, F i (x i) w) → (∀ i ∈ R, i ∈ AL → ∀ j ∈ R, j ∈ AL → i ≠ j → blkOf (x i) ≠ blkOf (x j)) → Below w0.heap.size w0 w → wpAny P .any ops Q f0 l1 (putsA ops a0 x R) w) :
    ∀ (n : Nat) (T : List Nat), T.length = n → T.Nodup → (∀ i ∈ T, i ∈ R) → ∀ (l : Array Bool) (x : Nat → Value) (w : World), l.size = l0.size → (∀ k, l[k]? = spec l0 R T k) → (∀ j ∈ R, l[j]? = some true → ∀ d, depOn ops j d = true → l[d]? = some true) → (∀ i ∈ R, i ∉ T → F i (x i) w) → (∀ i ∈ R, i ∉ T → i ∈ AL → ∀ j ∈ R, j ∉ T → j ∈ AL → i ≠ j → blkOf (x i) ≠ blkOf (x j)) → Below w0.heap.size w0 w → wpAny P .any ops Q (n + f0) l (putsA ops a0 x R) w := by
  unfold rfCheck at hck
  simp only [Bool.and_eq_true] at hck
  obtain ⟨⟨⟨⟨⟨⟨⟨c1, c2⟩, c3⟩, c4⟩, c5⟩, c6⟩, c7⟩, c8⟩ := hck
  have c1 : R.Nodup := of_decide_eq_true c1
  have c2 : ∀ i ∈ R, i < ops.size ∧ l0[i]? = some false := fun i hi => by
    have h := List.all_eq_true.1 c2 i hi
    simp only [Bool.and_eq_true, decide_eq_true_eq, beq_iff_eq] at h
    exact h
  have c3 : ∀ i ∈ R, ∀ j ∈ R, i ≠ j → dstNe ops i j = true := fun i hi j hj hne => by
    have h := List.all_eq_true.1 (List.all_eq_true.1 c3 i hi) j hj
    simp only [Bool.or_eq_true, beq_iff_eq] at h
    exact h.resolve_left hne
  have c4 : ∀ i ∈ R, ∀ d ∈ D i, d ∈ R ∧ depOn ops i d = true := fun i hi d hd => by
    have h := List.all_eq_true.1 (List.all_eq_true.1 c4 i hi) d hd
    simp only [Bool.and_eq_true, List.contains_iff_mem] at h
    exact h
  have c7 : l1.size = l0.size := of_decide_eq_true c7
  intro n
  induction n with
  | zero =>
    intro T hT _ _ l x w hs hl hdc hf hg hb
    obtain rfl : T = [] := List.eq_nil_of_length_eq_zero hT
    have hll : l = l1 := by
      apply Array.ext_getElem?
      intro k
      rw [hl k]
      by_cases hk : k < l0.size
      · have h := List.all_eq_true.1 c8 k (List.mem_range.2 hk)
        simp only [beq_iff_eq] at h
        exact h.symm
      · rw [Array.getElem?_eq_none (xs := l1) (by omega)]
        unfold spec
        have hn : k ∉ R := fun hk' => by
          have := (c2 k hk').2
          rw [Array.getElem?_eq_none (by omega)] at this
          cases this
        simp [hn, Array.getElem?_eq_none (xs := l0) (i := k) (by omega)]
    rw [Nat.zero_add, hll]
    exact hend x w (fun i hi => hf i hi (by simp)) (fun i hi ha j hj hb' hne => hg i hi (by simp) ha j hj (by simp) hb' hne) hb
  | succ n ih =>
    intro T hT hTn hTR l x w hs hl hdc hf hg hb
    have hne : T ≠ [] := fun e => by rw [e] at hT; simp at hT
    have inT : ∀ k ∈ T, l[k]? = some false := fun k hk => by rw [hl k]; unfold spec; rw [if_pos (by simpa using hk)]
    have inR : ∀ k ∈ R, k ∉ T → l[k]? = some true := fun k hk hn => by rw [hl k]; unfold spec; rw [if_neg (by simpa using hn), if_pos (by simpa using hk)]
    have out : ∀ k, k ∉ R → l[k]? = l0[k]? := fun k hk => by rw [hl k]; unfold spec; rw [if_neg (by simpa using fun h => hk (hTR k h)), if_neg (by simpa using hk)]
    have rdy : ∀ i ∈ Region.ready .any ops l, i ∈ T := fun i hi => by
      obtain ⟨h0, o, ho, hall⟩ := mem_ready.1 hi
      have hdep : ∀ d, depOn ops i d = true → l[d]? = some true := fun d hd => by
        obtain ⟨e, he, h1, rfl⟩ := dep_on ho hd
        have h2 := hall e he h1
        cases h3 : l[e.on]? with
        | none => simp [h3] at h2
        | some b => simp [h3] at h2; rw [h2]
      apply Classical.byContradiction
      intro hiT
      by_cases hiR : i ∈ R
      · rw [Array.getD_eq_getD_getElem?, inR i hiR hiT] at h0
        cases h0
      · have hio : i < ops.size := (Array.getElem?_eq_some_iff.1 ho).1
        have h := List.all_eq_true.1 c5 i (List.mem_range.2 hio)
        simp only [Bool.or_eq_true] at h
        rcases h with ((h | h) | h) | h
        · exact hiR (by simpa using h)
        · rw [Array.getD_eq_getD_getElem?, out i hiR] at h0
          rw [Array.getD_eq_getD_getElem?, h0] at h
          cases h
        · obtain ⟨j, hj, _⟩ := least_of T hne
          have h1 := reach_done hdc 2 i j hdep (List.all_eq_true.1 h j (hTR j hj))
          rw [inT j hj] at h1
          cases h1
        · obtain ⟨t', _, h⟩ := List.any_eq_true.1 h
          simp only [Bool.and_eq_true, beq_iff_eq, Bool.not_eq_true'] at h
          have h1 := hdep t' h.2
          rw [out t' (by simpa using h.1.1), h.1.2] at h1
          cases h1
    have some_ : Region.ready .any ops l ≠ [] := fun e => by
      obtain ⟨i, hi, hmin⟩ := least_of T hne
      have hio := (c2 i (hTR i hi)).1
      have : i ∈ Region.ready .any ops l := by
        rw [mem_ready]
        refine ⟨by rw [Array.getD_eq_getD_getElem?, inT i hi]; rfl, ops[i], Array.getElem?_eq_getElem hio, fun e he hbd => ?_⟩
        have h := List.all_eq_true.1 c6 i (hTR i hi)
        rw [Array.getElem?_eq_getElem hio] at h
        simp only [Option.map_some, Option.getD_some, Array.all_eq_true_iff_forall_mem, Bool.or_eq_true, Bool.and_eq_true, decide_eq_true_eq, Bool.not_eq_true'] at h
        rcases h e he with (h | h) | h
        · rw [hbd] at h; cases h
        · have hnR : e.on ∉ R := fun hR => by
            rw [Array.getD_eq_getD_getElem?, (c2 _ hR).2] at h
            cases h
          rw [Array.getD_eq_getD_getElem?, out _ hnR, ← Array.getD_eq_getD_getElem?]
          exact h
        · have hR : e.on ∈ R := by simpa using h.1
          have hnT : e.on ∉ T := fun hT' => by have := hmin _ hT'; omega
          rw [Array.getD_eq_getD_getElem?, inR _ hR hnT]
          rfl
      rw [e] at this
      cases this
    rw [show n + 1 + f0 = n + f0 + 1 by omega]
    refine ⟨fun e => absurd e some_, fun i hi => ?_⟩
    have hiT := rdy i hi
    have hiR := hTR i hiT
    obtain ⟨_, o, ho, hall⟩ := mem_ready.1 hi
    refine hstep i hiR x w (fun d hd => ?_) hb _ (fun v w' hv hb' hav => ?_)
    · obtain ⟨hdR, hdd⟩ := c4 i hiR d hd
      obtain ⟨e, he, h1, rfl⟩ := dep_on ho hdd
      have h2 := hall e he h1
      refine hf _ hdR (fun hT' => ?_)
      rw [Array.getD_eq_getD_getElem?, inT _ hT'] at h2
      cases h2
    · rw [putsA_put R c1 c3 hiR]
      have hil : i < l.size := by
        rcases Nat.lt_or_ge i l.size with h | h
        · exact h
        · have := inT i hiT
          rw [Array.getElem?_eq_none h] at this
          cases this
      refine ih (T.erase i) (by rw [List.length_erase_of_mem hiT]; omega) (hTn.erase i) (fun j hj => hTR j (List.mem_of_mem_erase hj)) _ _ w' (by simp [hs]) (fun k => ?_) (fun j hj hjl d hd => ?_) (fun j hj hjT => ?_) (fun j hj hjT hja k hk hkT hka hne => ?_) (hb.trans (hb'.mono hb.size))
      · rw [Array.getElem?_setIfInBounds]
        by_cases e : i = k
        · subst e
          rw [if_pos rfl, if_pos hil]
          unfold spec
          rw [if_neg (by simpa using fun h => (hTn.mem_erase_iff.1 h).1 rfl), if_pos (by simpa using hiR)]
        · rw [if_neg e, hl k]
          unfold spec
          have hh : (T.erase i).contains k = T.contains k := by
            rw [Bool.eq_iff_iff]
            simp only [List.contains_iff_mem]
            exact ⟨fun h => List.mem_of_mem_erase h, fun h => hTn.mem_erase_iff.2 ⟨fun e' => e e'.symm, h⟩⟩
          rw [hh]
      · have hup : ∀ k, l[k]? = some true → (l.setIfInBounds i true)[k]? = some true := fun k hk => by
          rw [Array.getElem?_setIfInBounds]
          by_cases e : i = k
          · rw [if_pos e, if_pos (by omega)]
          · rw [if_neg e]; exact hk
        by_cases e : j = i
        · subst e
          obtain ⟨e', he, h1, rfl⟩ := dep_on ho hd
          have h2 := hall e' he h1
          refine hup _ ?_
          cases h3 : l[e'.on]? with
          | none => simp [h3] at h2
          | some b => simp [h3] at h2; rw [h2]
        · rw [Array.getElem?_setIfInBounds_ne (fun e' => e e'.symm)] at hjl
          exact hup _ (hdc j hj hjl d hd)
      · by_cases e : j = i
        · subst e
          simp only [upd, if_true]
          exact hv
        · simp only [upd, if_neg e]
          exact hF j _ w w' (hf j hj (fun h => hjT (hTn.mem_erase_iff.2 ⟨e, h⟩))) hb'
      · by_cases e : j = i
        · have e2 : k ≠ i := fun e2 => hne (e.trans e2.symm)
          subst e
          have h1 := hA k hka _ _ (hf k hk (fun h => hkT (hTn.mem_erase_iff.2 ⟨e2, h⟩)))
          have h2 := hav hja
          simp only [upd, if_true, if_neg e2]
          omega
        · by_cases e2 : k = i
          · subst e2
            have h1 := hA j hja _ _ (hf j hj (fun h => hjT (hTn.mem_erase_iff.2 ⟨e, h⟩)))
            have h2 := hav hka
            simp only [upd, if_true, if_neg e]
            omega
          · simp only [upd, if_neg e, if_neg e2]
            exact hg j hj (fun h => hjT (hTn.mem_erase_iff.2 ⟨e, h⟩)) hja k hk (fun h => hkT (hTn.mem_erase_iff.2 ⟨e2, h⟩)) hka hne
/-- the beginning -/
theorem facts_start {P : Program} {ops : Array Oper} {Q : Exit → Act → World → Prop} (R AL : List Nat) (D : Nat → List Nat) (F : Nat → Value → World → Prop) (a0 : Act) (w0 : World) (n f0 : Nat) (l0 l1 : Array Bool)
    (hck : rfCheck ops R D l0 l1 = true) (hn : n = R.length + f0)
    (hF : ∀ i v w w', F i v w → Below w.heap.size w w' → F i v w')
    (hA : ∀ i ∈ AL, ∀ v w, F i v w → blkOf v < w.heap.size)
    (hstep : ∀ i ∈ R, ∀ x w, (∀ d ∈ D i, F d (x d) w) → Below w0.heap.size w0 w → ∀ K : Act → World → Prop, (∀ v w', F i v w' → Below w.heap.size w w' → (i ∈ AL → w.heap.size ≤ blkOf v) → K ((putsA ops a0 x R).put (dstOf ops i) v) w') → wpOp P ops Q i K (putsA ops a0 x R) w)
    (hend : ∀ x w, (∀ i ∈ R, F i (x i) w) → (∀ i ∈ R, i ∈ AL → ∀ j ∈ R, j ∈ AL → i ≠ j → blkOf (x i) ≠ blkOf (x j)) → Below w0.heap.size w0 w → wpAny P .any ops Q f0 l1 (putsA ops a0 x R) w) :
    wpAny P .any ops Q n l0 a0 w0 := by
  have h := facts_go R AL D F a0 w0 f0 l0 l1 hck hF hA hstep hend R.length R rfl (by
    unfold rfCheck at hck
    simp only [Bool.and_eq_true] at hck
    exact of_decide_eq_true hck.1.1.1.1.1.1.1) (fun i h => h) l0 (fun i => ((dstOf ops i).bind (a0.tmps[·]?)).getD undef) w0 rfl (fun k => by
    unfold spec
    by_cases hk : k ∈ R
    · rw [if_pos (by simpa using hk)]
      unfold rfCheck at hck
      simp only [Bool.and_eq_true] at hck
      have h := List.all_eq_true.1 hck.1.1.1.1.1.1.2 k hk
      simp only [Bool.and_eq_true, beq_iff_eq] at h
      exact h.2
    · rw [if_neg (by simpa using hk), if_neg (by simpa using hk)]) (fun j hj hjl => by
      unfold rfCheck at hck
      simp only [Bool.and_eq_true] at hck
      have h := List.all_eq_true.1 hck.1.1.1.1.1.1.2 j hj
      simp only [Bool.and_eq_true, beq_iff_eq] at h
      rw [h.2] at hjl
      cases hjl) (fun i hi hn => absurd hi hn) (fun i hi hn => absurd hi hn) (Below.refl _ _)
  rw [putsA_self] at h
  rw [hn]
  exact h
/-- a row of slots with some values put into it, in one go: ps tells the slots, rising, and of which operation each has its value -/
def setAll (x : Nat → Value) : Nat → List Value → List (Nat × Nat) → List Value
  | _, l, [] => l
  | _, [], _ :: _ => []
  | n, v :: l, (d, i) :: ps => if n = d then x i :: setAll x (n + 1) l ps else v :: setAll x (n + 1) l ((d, i) :: ps)
theorem setAll_get (x : Nat → Value) : ∀ (l : List Value) (n : Nat) (ps : List (Nat × Nat)) (k : Nat), ps.Pairwise (fun a b => a.1 < b.1) → (∀ q ∈ ps, n ≤ q.1) →
    (setAll x n l ps)[k]? = (match ps.find? (fun q => q.1 == n + k) with
      | some q => (l[k]?).map (fun _ => x q.2)
      | none => l[k]?) := by
  intro l
  induction l with
  | nil =>
    intro n ps k _ _
    cases ps with
    | nil => simp [setAll]
    | cons q ps => cases h : List.find? (fun q => q.1 == n + k) (q :: ps) <;> simp [setAll]
  | cons v l ih =>
    intro n ps k hp hn
    cases ps with
    | nil => simp [setAll]
    | cons q ps =>
      obtain ⟨d, i⟩ := q
      obtain ⟨h1, h2⟩ := List.pairwise_cons.1 hp
      have hd : n ≤ d := hn _ (List.mem_cons_self ..)
      simp only [setAll]
      by_cases e : n = d
      · subst e
        rw [if_pos rfl]
        cases k with
        | zero => simp [List.find?_cons]
        | succ k =>
          have hne : ((n : Nat) == n + (k + 1)) = false := by simp
          rw [List.getElem?_cons_succ, List.find?_cons, hne, ih (n + 1) ps k h2 (fun q hq => by have := h1 q hq; simp at this; omega), show n + 1 + k = n + (k + 1) by omega]
          rfl
      · rw [if_neg e]
        cases k with
        | zero =>
          have hno : List.find? (fun q => q.1 == n + 0) ((d, i) :: ps) = none := by
            rw [List.find?_eq_none]
            intro q hq
            rcases List.mem_cons.1 hq with rfl | hq
            · simp; omega
            · have := h1 q hq
              simp at this ⊢
              omega
          rw [hno]
          rfl
        | succ k =>
          rw [List.getElem?_cons_succ, ih (n + 1) ((d, i) :: ps) k hp (fun q hq => by
            rcases List.mem_cons.1 hq with rfl | hq
            · simp only; omega
            · have := h1 q hq
              simp only at this
              omega), show n + 1 + k = n + (k + 1) by omega]
          rfl
theorem putsA_defers {ops : Array Oper} {a0 : Act} {x : Nat → Value} : ∀ R : List Nat, (putsA ops a0 x R).defers = a0.defers
  | [] => rfl
  | r :: R => by
    simp only [putsA]
    cases dstOf ops r with
    | none => exact putsA_defers R
    | some e => exact putsA_defers R
def rising : List (Nat × Nat) → Bool
  | [] => true
  | a :: l => l.all (fun b => decide (a.1 < b.1)) && rising l
theorem rising_ok : ∀ l : List (Nat × Nat), rising l = true → l.Pairwise (fun a b => a.1 < b.1)
  | [], _ => List.Pairwise.nil
  | a :: l, h => by
    simp only [rising, Bool.and_eq_true, List.all_eq_true, decide_eq_true_eq] at h
    exact List.pairwise_cons.2 ⟨h.1, rising_ok l h.2⟩
def litCheck (ops : Array Oper) (R : List Nat) (ps : List (Nat × Nat)) : Bool :=
  rising ps && ps.all (fun q => R.contains q.2 && dstOf ops q.2 == some q.1) && R.all (fun i => match dstOf ops i with
    | some d => ps.contains (d, i)
    | none => true)
theorem one_of : ∀ l : List (Nat × Nat), l.Pairwise (fun a b => a.1 < b.1) → ∀ p ∈ l, ∀ q ∈ l, p.1 = q.1 → p = q
  | [], _ => fun p hp => by cases hp
  | a :: l, h => fun p hp q hq e => by
    obtain ⟨h1, h2⟩ := List.pairwise_cons.1 h
    rcases List.mem_cons.1 hp with hpa | hpl
    · rcases List.mem_cons.1 hq with hqa | hql
      · rw [hpa, hqa]
      · have := h1 q hql
        rw [← hpa] at this
        omega
    · rcases List.mem_cons.1 hq with hqa | hql
      · have := h1 p hpl
        rw [← hqa] at this
        omega
      · exact one_of l h2 p hpl q hql e
theorem putsA_lit {ops : Array Oper} {x : Nat → Value} (tm : List Value) (df : List Deferred) (R : List Nat) (ps : List (Nat × Nat)) (hck : litCheck ops R ps = true) :
    putsA ops ⟨tm.toArray, df⟩ x R = ⟨(setAll x 0 tm ps).toArray, df⟩ := by
  unfold litCheck at hck
  simp only [Bool.and_eq_true] at hck
  obtain ⟨⟨c1, c2⟩, c3⟩ := hck
  have c1 := rising_ok ps c1
  have c2 : ∀ q ∈ ps, q.2 ∈ R ∧ dstOf ops q.2 = some q.1 := fun q hq => by
    have h := List.all_eq_true.1 c2 q hq
    simp only [Bool.and_eq_true, List.contains_iff_mem, beq_iff_eq] at h
    exact h
  have c3 : ∀ i ∈ R, ∀ d, dstOf ops i = some d → (d, i) ∈ ps := fun i hi d hd => by
    have h := List.all_eq_true.1 c3 i hi
    rw [hd] at h
    simpa using h
  have hone := one_of ps c1
  have ht : (putsA ops ⟨tm.toArray, df⟩ x R).tmps = (setAll x 0 tm ps).toArray := by
    apply Array.ext_getElem?
    intro k
    have hR : (setAll x 0 tm ps).toArray[k]? = (setAll x 0 tm ps)[k]? := by simp
    rw [hR, setAll_get x tm 0 ps k c1 (fun q _ => Nat.zero_le _)]
    simp only [Nat.zero_add]
    cases hf : ps.find? (fun q => q.1 == k) with
    | none =>
      rw [List.find?_eq_none] at hf
      rw [putsA_at k R (fun j hj hd => by
        have := hf _ (c3 j hj k hd)
        simp at this)]
      simp
    | some q =>
      have hq := List.mem_of_find?_eq_some hf
      have hk : q.1 = k := by simpa using List.find?_some hf
      obtain ⟨h1, h2⟩ := c2 q hq
      by_cases hlt : k < tm.length
      · rw [putsA_in k (by rw [h2, hk]) (by simpa using hlt) R (fun j hj hne hd => hne (by
          have := hone _ (c3 j hj k hd) q hq (by simp [hk])
          rw [← this])) h1]
        simp [hlt]
      · rw [Array.getElem?_eq_none (by rw [putsA_size]; simpa using hlt), List.getElem?_eq_none (by omega)]
        rfl
  have hdf := putsA_defers (ops := ops) (a0 := ⟨tm.toArray, df⟩) (x := x) R
  generalize putsA ops ⟨tm.toArray, df⟩ x R = A at *
  obtain ⟨a, b⟩ := A
  simp only at ht hdf
  rw [ht, hdf]
/-- facts by a table: the operation's value, with up to three blocks' numbers in it, and what blocks stand whole -/
def Ft (mk : Nat → Nat → Nat → Nat → Value) (bl : Nat → Nat → Nat → Nat → List (Nat × TypeId × Array Value)) (i : Nat) (v : Value) (W : World) : Prop :=
  ∃ k k1 k2, v = mk i k k1 k2 ∧ ∀ x ∈ bl i k k1 k2, Blk W x.1 x.2.1 x.2.2
theorem ft_step {mk : Nat → Nat → Nat → Nat → Value} {bl : Nat → Nat → Nat → Nat → List (Nat × TypeId × Array Value)} : ∀ i v W W', Ft mk bl i v W → Below W.heap.size W W' → Ft mk bl i v W' := by
  intro i v W W' h hb
  obtain ⟨k, k1, k2, h1, h2⟩ := h
  exact ⟨k, k1, k2, h1, fun x hx => blk_step (h2 x hx) hb⟩
theorem al0 {W : World} : ∀ x ∈ ([] : List (Nat × TypeId × Array Value)), Blk W x.1 x.2.1 x.2.2 := fun x hx => by cases hx
theorem al1 {W : World} {a : Nat × TypeId × Array Value} (h : Blk W a.1 a.2.1 a.2.2) : ∀ x ∈ [a], Blk W x.1 x.2.1 x.2.2 := fun x hx => by
  rcases List.mem_cons.1 hx with rfl | hx
  · exact h
  · cases hx
theorem alc {W : World} {a : Nat × TypeId × Array Value} {l : List (Nat × TypeId × Array Value)} (h : Blk W a.1 a.2.1 a.2.2) (hl : ∀ x ∈ l, Blk W x.1 x.2.1 x.2.2) : ∀ x ∈ a :: l, Blk W x.1 x.2.1 x.2.2 := fun x hx => by
  rcases List.mem_cons.1 hx with rfl | hx
  · exact h
  · exact hl x hx
theorem no_al {i : Nat} {p : Prop} : i ∈ ([] : List Nat) → p := fun h => by cases h
theorem no_al' {p : Nat → Prop} : ∀ i ∈ ([] : List Nat), p i := fun i h => by cases h
end Go.Proofs.Ythipaabjmlgjmaa
