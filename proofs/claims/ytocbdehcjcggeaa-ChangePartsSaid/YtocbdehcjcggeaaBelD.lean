/- Layer 22: as 'Below', and no draw is taken back; the order of changes by it. Conditions: those of each lemma. -/
import Derived.Test.YtocbdehcjcggeaaCg5
import Derived.Sort.Grow
namespace Go.Proofs.Ytocbdehcjcggeaa
namespace D
open Go.RowKit Go
set_option linter.unusedVariables false
set_option linter.unusedSimpArgs false
/-- 'Below', and no draw is taken back -/
structure Below (B : Nat) (w w' : World) : Prop extends RowKit.Below B w w' where
  drawn : w.drawn ≤ w'.drawn
instance {B : Nat} {w w' : World} : Coe (Below B w w') (RowKit.Below B w w') := ⟨Below.toBelow⟩
theorem Below.refl (B : Nat) (w : World) : Below B w w := ⟨RowKit.Below.refl _ _, Nat.le_refl _⟩
theorem Below.trans {B : Nat} {a b c : World} (h : Below B a b) (k : Below B b c) : Below B a c := ⟨RowKit.Below.trans h.toBelow k.toBelow, Nat.le_trans h.drawn k.drawn⟩
theorem Below.mono {B B' : Nat} {w w' : World} (h : Below B w w') (hB : B' ≤ B) : Below B' w w' := ⟨RowKit.Below.mono h.toBelow hB, h.drawn⟩
theorem Below.drew {B : Nat} {a w : World} (h : Below B a w) : Below B a w.drew := ⟨RowKit.Below.drew h.toBelow, Nat.le_succ_of_le h.drawn⟩
theorem Below.alloc {B : Nat} {a w : World} (h : Below B a w) (hB : B ≤ w.heap.size) (o : Obj) : Below B a (w.alloc o) := ⟨RowKit.Below.alloc h.toBelow hB o, h.drawn⟩
theorem below_drewN {B : Nat} {a w : World} (h : Below B a w) (n : Nat) : Below B a (w.drewN n) := ⟨Ytocbdehcjcggeaa.below_drewN h.toBelow n, Nat.le_add_right_of_le h.drawn⟩
theorem bj {a b c : World} (h : Below a.heap.size a b) (k : Below b.heap.size b c) : Below a.heap.size a c := h.trans (k.mono h.size)
theorem one_allocC {w : World} {o : Obj} : Below w.heap.size w (w.alloc o) := (Below.refl _ _).alloc (Nat.le_refl _) _
theorem hb2 {w : World} {o q : Obj} : Below w.heap.size w ((w.alloc o).alloc q) := ((Below.refl _ _).alloc (Nat.le_refl _) _).alloc (by simp) _
theorem facts_go {P : Program} {ops : Array Oper} {Q : Exit → Act → World → Prop} (R AL : List Nat) (D : Nat → List Nat) (F : Nat → Value → World → Prop) (a0 : Act) (w0 : World) (f0 : Nat) (l0 l1 : Array Bool)
    (hck : rfCheck ops R D l0 l1 = true)
    (hF : ∀ i v w w', F i v w → Below w.heap.size w w' → F i v w')
    (hA : ∀ i ∈ AL, ∀ v w, F i v w → blkOf v < w.heap.size)
    (hstep : ∀ i ∈ R, ∀ x w, (∀ d ∈ D i, F d (x d) w) → Below w0.heap.size w0 w → ∀ K : Act → World → Prop, (∀ v w', F i v w' → Below w.heap.size w w' → (i ∈ AL → w.heap.size ≤ blkOf v) → K ((putsA ops a0 x R).put (dstOf ops i) v) w') → wpOp P ops Q i K (putsA ops a0 x R) w)
    (hend : ∀ x w, (∀ i ∈ R, F i (x i) w) → (∀ i ∈ R, i ∈ AL → ∀ j ∈ R, j ∈ AL → i ≠ j → blkOf (x i) ≠ blkOf (x j)) → Below w0.heap.size w0 w → wpAny P .any ops Q f0 l1 (putsA ops a0 x R) w) :
    ∀ (n : Nat) (T : List Nat), T.length = n → T.Nodup → (∀ i ∈ T, i ∈ R) → ∀ (l : Array Bool) (x : Nat → Value) (w : World), l.size = l0.size → (∀ k, l[k]? = spec l0 R T k) → (∀ j ∈ R, l[j]? = some true → ∀ d, depOn ops j d = true → l[d]? = some true) → (∀ i ∈ R, i ∉ T → F i (x i) w) → (∀ i ∈ R, i ∉ T → i ∈ AL → ∀ j ∈ R, j ∉ T → j ∈ AL → i ≠ j → blkOf (x i) ≠ blkOf (x j)) → Below w0.heap.size w0 w → wpAny P .any ops Q (n + f0) l (putsA ops a0 x R) w := by
  unfold rfCheck at hck
  simp only [Bool.and_eq_true] at hck
  obtain ⟨⟨⟨⟨⟨⟨⟨c1, c2⟩, c3⟩, c4⟩, c5⟩, c6⟩, c7⟩, c8⟩ := hck
  have c1 : R.Nodup := of_decide_eq_true c1
  have c2 : ∀ i ∈ R, i < ops.size ∧ l0[i]? = some false := fun i hi => by
    have h := List.all_eq_true.1 c2 i hi
    simp only [Bool.and_eq_true, decide_eq_true_eq, beq_iff_eq] at h
    exact h
  have c3 : ∀ i ∈ R, ∀ j ∈ R, i ≠ j → dstNe ops i j = true := fun i hi j hj hne => by
    have h := List.all_eq_true.1 (List.all_eq_true.1 c3 i hi) j hj
    simp only [Bool.or_eq_true, beq_iff_eq] at h
    exact h.resolve_left hne
  have c4 : ∀ i ∈ R, ∀ d ∈ D i, d ∈ R ∧ depOn ops i d = true := fun i hi d hd => by
    have h := List.all_eq_true.1 (List.all_eq_true.1 c4 i hi) d hd
    simp only [Bool.and_eq_true, List.contains_iff_mem] at h
    exact h
  have c7 : l1.size = l0.size := of_decide_eq_true c7
  intro n
  induction n with
  | zero =>
    intro T hT _ _ l x w hs hl hdc hf hg hb
    obtain rfl : T = [] := List.eq_nil_of_length_eq_zero hT
    have hll : l = l1 := by
      apply Array.ext_getElem?
      intro k
      rw [hl k]
      by_cases hk : k < l0.size
      · have h := List.all_eq_true.1 c8 k (List.mem_range.2 hk)
        simp only [beq_iff_eq] at h
        exact h.symm
      · rw [Array.getElem?_eq_none (xs := l1) (by omega)]
        unfold spec
        have hn : k ∉ R := fun hk' => by
          have := (c2 k hk').2
          rw [Array.getElem?_eq_none (by omega)] at this
          cases this
        simp [hn, Array.getElem?_eq_none (xs := l0) (i := k) (by omega)]
    rw [Nat.zero_add, hll]
    exact hend x w (fun i hi => hf i hi (by simp)) (fun i hi ha j hj hb' hne => hg i hi (by simp) ha j hj (by simp) hb' hne) hb
  | succ n ih =>
    intro T hT hTn hTR l x w hs hl hdc hf hg hb
    have hne : T ≠ [] := fun e => by rw [e] at hT; simp at hT
    have inT : ∀ k ∈ T, l[k]? = some false := fun k hk => by rw [hl k]; unfold spec; rw [if_pos (by simpa using hk)]
    have inR : ∀ k ∈ R, k ∉ T → l[k]? = some true := fun k hk hn => by rw [hl k]; unfold spec; rw [if_neg (by simpa using hn), if_pos (by simpa using hk)]
    have out : ∀ k, k ∉ R → l[k]? = l0[k]? := fun k hk => by rw [hl k]; unfold spec; rw [if_neg (by simpa using fun h => hk (hTR k h)), if_neg (by simpa using hk)]
    have rdy : ∀ i ∈ Region.ready .any ops l, i ∈ T := fun i hi => by
      obtain ⟨h0, o, ho, hall⟩ := mem_ready.1 hi
      have hdep : ∀ d, depOn ops i d = true → l[d]? = some true := fun d hd => by
        obtain ⟨e, he, h1, rfl⟩ := dep_on ho hd
        have h2 := hall e he h1
        cases h3 : l[e.on]? with
        | none => simp [h3] at h2
        | some b => simp [h3] at h2; rw [h2]
      apply Classical.byContradiction
      intro hiT
      by_cases hiR : i ∈ R
      · rw [Array.getD_eq_getD_getElem?, inR i hiR hiT] at h0
        cases h0
      · have hio : i < ops.size := (Array.getElem?_eq_some_iff.1 ho).1
        have h := List.all_eq_true.1 c5 i (List.mem_range.2 hio)
        simp only [Bool.or_eq_true] at h
        rcases h with ((h | h) | h) | h
        · exact hiR (by simpa using h)
        · rw [Array.getD_eq_getD_getElem?, out i hiR] at h0
          rw [Array.getD_eq_getD_getElem?, h0] at h
          cases h
        · obtain ⟨j, hj, _⟩ := least_of T hne
          have h1 := reach_done hdc 2 i j hdep (List.all_eq_true.1 h j (hTR j hj))
          rw [inT j hj] at h1
          cases h1
        · obtain ⟨t', _, h⟩ := List.any_eq_true.1 h
          simp only [Bool.and_eq_true, beq_iff_eq, Bool.not_eq_true'] at h
          have h1 := hdep t' h.2
          rw [out t' (by simpa using h.1.1), h.1.2] at h1
          cases h1
    have some_ : Region.ready .any ops l ≠ [] := fun e => by
      obtain ⟨i, hi, hmin⟩ := least_of T hne
      have hio := (c2 i (hTR i hi)).1
      have : i ∈ Region.ready .any ops l := by
        rw [mem_ready]
        refine ⟨by rw [Array.getD_eq_getD_getElem?, inT i hi]; rfl, ops[i], Array.getElem?_eq_getElem hio, fun e he hbd => ?_⟩
        have h := List.all_eq_true.1 c6 i (hTR i hi)
        rw [Array.getElem?_eq_getElem hio] at h
        simp only [Option.map_some, Option.getD_some, Array.all_eq_true_iff_forall_mem, Bool.or_eq_true, Bool.and_eq_true, decide_eq_true_eq, Bool.not_eq_true'] at h
        rcases h e he with (h | h) | h
        · rw [hbd] at h; cases h
        · have hnR : e.on ∉ R := fun hR => by
            rw [Array.getD_eq_getD_getElem?, (c2 _ hR).2] at h
            cases h
          rw [Array.getD_eq_getD_getElem?, out _ hnR, ← Array.getD_eq_getD_getElem?]
          exact h
        · have hR : e.on ∈ R := by simpa using h.1
          have hnT : e.on ∉ T := fun hT' => by have := hmin _ hT'; omega
          rw [Array.getD_eq_getD_getElem?, inR _ hR hnT]
          rfl
      rw [e] at this
      cases this
    rw [show n + 1 + f0 = n + f0 + 1 by omega]
    refine ⟨fun e => absurd e some_, fun i hi => ?_⟩
    have hiT := rdy i hi
    have hiR := hTR i hiT
    obtain ⟨_, o, ho, hall⟩ := mem_ready.1 hi
    refine hstep i hiR x w (fun d hd => ?_) hb _ (fun v w' hv hb' hav => ?_)
    · obtain ⟨hdR, hdd⟩ := c4 i hiR d hd
      obtain ⟨e, he, h1, rfl⟩ := dep_on ho hdd
      have h2 := hall e he h1
      refine hf _ hdR (fun hT' => ?_)
      rw [Array.getD_eq_getD_getElem?, inT _ hT'] at h2
      cases h2
    · rw [putsA_put R c1 c3 hiR]
      have hil : i < l.size := by
        rcases Nat.lt_or_ge i l.size with h | h
        · exact h
        · have := inT i hiT
          rw [Array.getElem?_eq_none h] at this
          cases this
      refine ih (T.erase i) (by rw [List.length_erase_of_mem hiT]; omega) (hTn.erase i) (fun j hj => hTR j (List.mem_of_mem_erase hj)) _ _ w' (by simp [hs]) (fun k => ?_) (fun j hj hjl d hd => ?_) (fun j hj hjT => ?_) (fun j hj hjT hja k hk hkT hka hne => ?_) (hb.trans (hb'.mono hb.size))
      · rw [Array.getElem?_setIfInBounds]
        by_cases e : i = k
        · subst e
          rw [if_pos rfl, if_pos hil]
          unfold spec
          rw [if_neg (by simpa using fun h => (hTn.mem_erase_iff.1 h).1 rfl), if_pos (by simpa using hiR)]
        · rw [if_neg e, hl k]
          unfold spec
          have hh : (T.erase i).contains k = T.contains k := by
            rw [Bool.eq_iff_iff]
            simp only [List.contains_iff_mem]
            exact ⟨fun h => List.mem_of_mem_erase h, fun h => hTn.mem_erase_iff.2 ⟨fun e' => e e'.symm, h⟩⟩
          rw [hh]
      · have hup : ∀ k, l[k]? = some true → (l.setIfInBounds i true)[k]? = some true := fun k hk => by
          rw [Array.getElem?_setIfInBounds]
          by_cases e : i = k
          · rw [if_pos e, if_pos (by omega)]
          · rw [if_neg e]; exact hk
        by_cases e : j = i
        · subst e
          obtain ⟨e', he, h1, rfl⟩ := dep_on ho hd
          have h2 := hall e' he h1
          refine hup _ ?_
          cases h3 : l[e'.on]? with
          | none => simp [h3] at h2
          | some b => simp [h3] at h2; rw [h2]
        · rw [Array.getElem?_setIfInBounds_ne (fun e' => e e'.symm)] at hjl
          exact hup _ (hdc j hj hjl d hd)
      · by_cases e : j = i
        · subst e
          simp only [upd, if_true]
          exact hv
        · simp only [upd, if_neg e]
          exact hF j _ w w' (hf j hj (fun h => hjT (hTn.mem_erase_iff.2 ⟨e, h⟩))) hb'
      · by_cases e : j = i
        · have e2 : k ≠ i := fun e2 => hne (e.trans e2.symm)
          subst e
          have h1 := hA k hka _ _ (hf k hk (fun h => hkT (hTn.mem_erase_iff.2 ⟨e2, h⟩)))
          have h2 := hav hja
          simp only [upd, if_true, if_neg e2]
          omega
        · by_cases e2 : k = i
          · subst e2
            have h1 := hA j hja _ _ (hf j hj (fun h => hjT (hTn.mem_erase_iff.2 ⟨e, h⟩)))
            have h2 := hav hka
            simp only [upd, if_true, if_neg e]
            omega
          · simp only [upd, if_neg e, if_neg e2]
            exact hg j hj (fun h => hjT (hTn.mem_erase_iff.2 ⟨e, h⟩)) hja k hk (fun h => hkT (hTn.mem_erase_iff.2 ⟨e2, h⟩)) hka hne
/-- the beginning -/
theorem facts_start {P : Program} {ops : Array Oper} {Q : Exit → Act → World → Prop} (R AL : List Nat) (D : Nat → List Nat) (F : Nat → Value → World → Prop) (a0 : Act) (w0 : World) (n f0 : Nat) (l0 l1 : Array Bool)
    (hck : rfCheck ops R D l0 l1 = true) (hn : n = R.length + f0)
    (hF : ∀ i v w w', F i v w → Below w.heap.size w w' → F i v w')
    (hA : ∀ i ∈ AL, ∀ v w, F i v w → blkOf v < w.heap.size)
    (hstep : ∀ i ∈ R, ∀ x w, (∀ d ∈ D i, F d (x d) w) → Below w0.heap.size w0 w → ∀ K : Act → World → Prop, (∀ v w', F i v w' → Below w.heap.size w w' → (i ∈ AL → w.heap.size ≤ blkOf v) → K ((putsA ops a0 x R).put (dstOf ops i) v) w') → wpOp P ops Q i K (putsA ops a0 x R) w)
    (hend : ∀ x w, (∀ i ∈ R, F i (x i) w) → (∀ i ∈ R, i ∈ AL → ∀ j ∈ R, j ∈ AL → i ≠ j → blkOf (x i) ≠ blkOf (x j)) → Below w0.heap.size w0 w → wpAny P .any ops Q f0 l1 (putsA ops a0 x R) w) :
    wpAny P .any ops Q n l0 a0 w0 := by
  have h := facts_go R AL D F a0 w0 f0 l0 l1 hck hF hA hstep hend R.length R rfl (by
    unfold rfCheck at hck
    simp only [Bool.and_eq_true] at hck
    exact of_decide_eq_true hck.1.1.1.1.1.1.1) (fun i h => h) l0 (fun i => ((dstOf ops i).bind (a0.tmps[·]?)).getD undef) w0 rfl (fun k => by
    unfold spec
    by_cases hk : k ∈ R
    · rw [if_pos (by simpa using hk)]
      unfold rfCheck at hck
      simp only [Bool.and_eq_true] at hck
      have h := List.all_eq_true.1 hck.1.1.1.1.1.1.2 k hk
      simp only [Bool.and_eq_true, beq_iff_eq] at h
      exact h.2
    · rw [if_neg (by simpa using hk), if_neg (by simpa using hk)]) (fun j hj hjl => by
      unfold rfCheck at hck
      simp only [Bool.and_eq_true] at hck
      have h := List.all_eq_true.1 hck.1.1.1.1.1.1.2 j hj
      simp only [Bool.and_eq_true, beq_iff_eq] at h
      rw [h.2] at hjl
      cases hjl) (fun i hi hn => absurd hi hn) (fun i hi hn => absurd hi hn) (Below.refl _ _)
  rw [putsA_self] at h
  rw [hn]
  exact h
theorem ft_step {mk : Nat → Nat → Nat → Nat → Value} {bl : Nat → Nat → Nat → Nat → List (Nat × TypeId × Array Value)} : ∀ i v W W', Ft mk bl i v W → Below W.heap.size W W' → Ft mk bl i v W' := by
  intro i v W W' h hb
  obtain ⟨k, k1, k2, h1, h2⟩ := h
  exact ⟨k, k1, k2, h1, fun x hx => blk_step (h2 x hx) hb⟩
set_option maxRecDepth 100000 in
set_option maxHeartbeats 4000000 in
theorem vcompare_any (x y : Val) (w : World) :
    Calls Try.prog 89 #[valV x, valV y] w fun e w' => e = .returned (.int .i64 (valCmp x y)) ∧ Below w.heap.size w w' := by
  obtain ⟨p, q, a⟩ := x
  obtain ⟨p', q', b⟩ := y
  have H8 := Lib.hid cmp_u8
  have H64 := Lib.hid cmp_i64
  have HS := Lib.hid strCmp
  by_cases hp : p = p'
  · subst hp
    by_cases h1 : p = 1
    · have hv : valCmp (p, q, a) (p, q', b) = cmpI q q' := by unfold valCmp; simp [h1]
      rw [hv]
      clear hv
      subst h1
      go_enter Try.func89, Try.ntmps89
      go_wp2_with fail
      refine (H64.out _ _ _).mono ?_
      rintro e w1 ⟨rfl, rfl⟩
      go_wp2
      go_ret
      exact ⟨rfl, hb2⟩
    · by_cases h23 : p = 2 ∨ p = 3
      · have hv : valCmp (p, q, a) (p, q', b) = cmpL (bts a) (bts b) := by unfold valCmp; simp [h1, h23]
        rw [hv]
        clear hv h1
        rcases h23 with rfl | rfl
        all_goals
          go_enter Try.func89, Try.ntmps89
          go_wp2_with fail
          refine (HS.out _ _ _).mono ?_
          rintro e w1 ⟨rfl, rfl⟩
          go_wp2
          go_ret
          exact ⟨rfl, hb2⟩
      · have hv : valCmp (p, q, a) (p, q', b) = 0 := by unfold valCmp; simp [h1, h23]
        have e1 := beq_no h1
        have e2 := beq_no (a := p) (b := 2) (fun e => h23 (.inl e))
        have e3 := beq_no (a := p) (b := 3) (fun e => h23 (.inr e))
        rw [hv]
        clear hv h1 h23
        go_enter Try.func89, Try.ntmps89
        go_wp2
        go_ret
        exact ⟨rfl, hb2⟩
  · have hv : valCmp (p, q, a) (p', q', b) = cmpI p p' := by unfold valCmp; simp [hp]
    have e1 := bne_yes7 hp
    rw [hv]
    clear hv hp
    go_enter Try.func89, Try.ntmps89
    go_wp2_with fail
    refine (H8.out _ _ _).mono ?_
    rintro e w1 ⟨rfl, rfl⟩
    go_wp2
    go_ret
    exact ⟨rfl, hb2⟩
set_option maxRecDepth 100000 in
set_option maxHeartbeats 8000000 in
theorem cmpFunc_any (A : Option Addr) (la : List Val) (n c : Nat) (C : Option Addr) (lb : List Val) (k d : Nat) (w : World) (hV : Vals w w.heap.size A la) (hV' : Vals w w.heap.size C lb) (hn : n = la.length) (hn' : k = lb.length) (h60 : n ≤ 100) (h60' : k ≤ 100) :
    Calls Try.prog 88 #[.slice A n c, .slice C k d, cmpV] w fun e w' => e = .returned (.int .i64 (rowCmp la lb)) ∧ Below w.heap.size w w' := by
  have HA : Hid (0 < n → ∃ b o, A = some ⟨b, o, none⟩ ∧ b < w.heap.size ∧ ∀ (j : Nat) x, la[j]? = some x → w.cell? ⟨b, o + j * 3, none⟩ = some (.int .u8 x.1) ∧ w.cell? ⟨b, o + j * 3 + 1, none⟩ = some (.int .i64 x.2.1) ∧ w.cell? ⟨b, o + j * 3 + 2, none⟩ = some (.string x.2.2)) :=
    Lib.hid fun h => vals_get hV (fun e => by rw [e] at hn; simp at hn; omega)
  have HB : Hid (0 < k → ∃ b o, C = some ⟨b, o, none⟩ ∧ b < w.heap.size ∧ ∀ (j : Nat) x, lb[j]? = some x → w.cell? ⟨b, o + j * 3, none⟩ = some (.int .u8 x.1) ∧ w.cell? ⟨b, o + j * 3 + 1, none⟩ = some (.int .i64 x.2.1) ∧ w.cell? ⟨b, o + j * 3 + 2, none⟩ = some (.string x.2.2)) :=
    Lib.hid fun h => vals_get hV' (fun e => by rw [e] at hn'; simp at hn'; omega)
  have HN := Lib.hid (And.intro hn hn')
  have HVC := Lib.hid vcompare_any
  have hnI : (n : Int) ≤ 100 := by omega
  have hkI : (k : Int) ≤ 100 := by omega
  clear hV hV' hn hn'
  go_enter Try.func88, Try.ntmps88
  go_wp2
  go_loopw [13] (fun i wr => ∃ j : Nat, j ≤ n ∧ j ≤ k ∧ i = .int .i64 j ∧ rowCmp la lb = rowCmp (la.drop j) (lb.drop j) ∧ Below w.heap.size w wr) (fun i _ => n - (intOf i).toNat)
  case atStart => exact ⟨0, by omega, by omega, rfl, rfl, Below.refl _ _⟩
  case round =>
    obtain ⟨j, hj, hj', rfl, heq, hb⟩ := hrel
    have hl := HN.out.1
    have hl' := HN.out.2
    by_cases h1 : j < n
    · obtain ⟨b1, o1, rfl, l1, q1⟩ := HA.out (by omega)
      have hjl : j < la.length := by omega
      obtain ⟨a1, a2, a3⟩ := q1 j la[j] (List.getElem?_eq_getElem hjl)
      have c1 := (hb.cell (p := ⟨b1, o1 + j * 3, none⟩) l1).trans a1
      have c2 := (hb.cell (p := ⟨b1, o1 + j * 3 + 1, none⟩) l1).trans a2
      have c3 := (hb.cell (p := ⟨b1, o1 + j * 3 + 2, none⟩) l1).trans a3
      rw [List.drop_eq_getElem_cons hjl] at heq
      have hI1 : (j : Int) < n := by omega
      have hI0 : (0 : Int) ≤ j := by omega
      by_cases h2 : j < k
      · obtain ⟨b2, o2, rfl, l2, q2⟩ := HB.out (by omega)
        have hjl' : j < lb.length := by omega
        obtain ⟨a4, a5, a6⟩ := q2 j lb[j] (List.getElem?_eq_getElem hjl')
        have hba := hb.alloc hb.size (.cells #[.int .u8 la[j].1, .int .i64 la[j].2.1, .string la[j].2.2] 56)
        have c4 := (hba.cell (p := ⟨b2, o2 + j * 3, none⟩) l2).trans a4
        have c5 := (hba.cell (p := ⟨b2, o2 + j * 3 + 1, none⟩) l2).trans a5
        have c6 := (hba.cell (p := ⟨b2, o2 + j * 3 + 2, none⟩) l2).trans a6
        have hbb := hba.alloc hba.size (.cells #[.int .u8 lb[j].1, .int .i64 lb[j].2.1, .string lb[j].2.2] 56)
        rw [List.drop_eq_getElem_cons hjl'] at heq
        simp only [rowCmp] at heq
        have hcm := fun W => HVC.out la[j] lb[j] W
        generalize la[j] = x at *
        generalize lb[j] = y at *
        generalize valCmp x y = E at *
        obtain ⟨p, q, s⟩ := x
        obtain ⟨p', q', t⟩ := y
        simp only at c1 c2 c3 c4 c5 c6 hba hbb
        have HCM := Lib.hid hcm
        have HBB := Lib.hid hbb
        have hI2 : (j : Int) < k := by omega
        by_cases hE : E = 0
        · have HE := Lib.hid (show rowCmp la lb = rowCmp (la.drop (j + 1)) (lb.drop (j + 1)) by rw [heq, if_neg (by simpa using hE)])
          subst hE
          clear heq hcm a1 a2 a3 a4 a5 a6 q1 q2 hl hl' hjl hjl' hba hbb
          go_wp2_with fail
          refine (HCM.out _).mono ?_
          rintro e w3 ⟨rfl, hb3⟩
          go_wp2
          go_roundw
          case rel => exact ⟨j + 1, by omega, by omega, by go_num, HE.out, bj HBB.out hb3⟩
          case measure => simp [intOf]; omega
        · have HE := Lib.hid (show rowCmp la lb = E by rw [heq, if_pos hE])
          have hEn : (E != 0) = true := by rw [bne_iff_ne]; exact hE
          clear heq hcm a1 a2 a3 a4 a5 a6 q1 q2 hl hl' hjl hjl' hE hba hbb
          go_wp2_with fail
          refine (HCM.out _).mono ?_
          rintro e w3 ⟨rfl, hb3⟩
          go_wp2
          go_ret
          exact ⟨rint HE.out.symm, bj HBB.out hb3⟩
      · have HE := Lib.hid (show rowCmp la lb = 1 by rw [heq, List.drop_of_length_le (show lb.length ≤ j by omega)]; rfl)
        have hba := hb.alloc hb.size (.cells #[.int .u8 la[j].1, .int .i64 la[j].2.1, .string la[j].2.2] 56)
        generalize la[j] = x at *
        obtain ⟨p, q, s⟩ := x
        simp only at c1 c2 c3 hba
        have HBA := Lib.hid hba
        have hI2 : (k : Int) ≤ j := by omega
        clear heq a1 a2 a3 q1 hl hl' hjl hba
        go_wp2
        go_ret
        exact ⟨rint HE.out.symm, HBA.out⟩
    · obtain rfl : j = n := by omega
      have hI1 : ¬ ((j : Int) < j) := by omega
      by_cases h2 : j < k
      · have HE := Lib.hid (show rowCmp la lb = -1 by rw [heq, List.drop_of_length_le (by omega), rowCmp_nil, if_neg (by rw [List.length_drop]; omega)])
        have hI2 : (j : Int) < k := by omega
        clear heq hl hl'
        go_wp2
        go_ret
        exact ⟨rint HE.out.symm, hb⟩
      · have HE := Lib.hid (show rowCmp la lb = 0 by rw [heq, List.drop_of_length_le (by omega), rowCmp_nil, if_pos (by rw [List.length_drop]; omega)])
        have hI2 : (k : Int) ≤ j := by omega
        clear heq hl hl'
        go_wp2
        go_ret
        exact ⟨rint HE.out.symm, hb⟩
set_option maxRecDepth 100000 in
set_option maxHeartbeats 2000000 in
theorem cmpRows_any (A : Option Addr) (la : List Val) (n c : Nat) (C : Option Addr) (lb : List Val) (k d : Nat) (w : World) (hV : Vals w w.heap.size A la) (hV' : Vals w w.heap.size C lb) (hn : n = la.length) (hn' : k = lb.length) (h60 : n ≤ 100) (h60' : k ≤ 100) :
    Calls Try.prog 61 #[.slice A n c, .slice C k d] w fun e w' => e = .returned (.int .i64 (rowCmp la lb)) ∧ Below w.heap.size w w' := by
  have HF := Lib.hid (cmpFunc_any A la n c C lb k d w hV hV' hn hn' h60 h60')
  clear hV hV' hn hn' h60 h60'
  go_enter Try.func61, Try.ntmps61
  go_wp2_with fail
  refine (HF.out).mono ?_
  rintro e w3 ⟨rfl, hb3⟩
  go_wp2
  go_ret
  exact ⟨rfl, hb3⟩
/-- two changes, boxed -/
def Cx (w : World) (x y : Array Value) (W : World) : Prop := Blk W w.heap.size 33 x ∧ Blk W (w.heap.size + 1) 33 y ∧ Below w.heap.size w W ∧ w.heap.size + 2 ≤ W.heap.size
theorem cx_step {w W W' : World} {x y : Array Value} (h : Cx w x y W) (hb : Below W.heap.size W W') : Cx w x y W' := ⟨blk_step h.1 hb, blk_step h.2.1 hb, bj h.2.2.1 hb, Nat.le_trans h.2.2.2 hb.size⟩
theorem cx_drew1 {w W : World} {x y : Array Value} (h : Cx w x y W) : Cx w x y W.drew := cx_step h (Below.refl _ _).drew
theorem cx_cells {w W : World} {x y : Cg} (h : Cx w (cgC x) (cgC y) W) : W.cell? ⟨w.heap.size, 0, none⟩ = some (.string x.t) ∧ W.cell? ⟨w.heap.size, 1, none⟩ = some (.slice x.kA x.k.length x.kc) ∧ W.cell? ⟨w.heap.size + 1, 0, none⟩ = some (.string y.t) ∧ W.cell? ⟨w.heap.size + 1, 1, none⟩ = some (.slice y.kA y.k.length y.kc) := ⟨h.1.cell 0, h.1.cell 1, h.2.1.cell 0, h.2.1.cell 1⟩
set_option maxRecDepth 100000 in
set_option maxHeartbeats 8000000 in
theorem cgcompare_any (X Y : Cg) (w : World) (hx : Vals w w.heap.size X.kA X.k) (hy : Vals w w.heap.size Y.kA Y.k) (h1 : X.k.length ≤ 100) (h2 : Y.k.length ≤ 100) :
    Calls Try.prog 34 #[.agg (cgC X), .agg (cgC Y)] w fun e w' => e = .returned (.int .i64 (cgCmp X Y)) ∧ Below w.heap.size w w' := by
  have HR := Lib.hid (show ∀ W, Below w.heap.size w W → Calls Try.prog 61 #[.slice X.kA X.k.length X.kc, .slice Y.kA Y.k.length Y.kc] W fun e w' => e = .returned (.int .i64 (rowCmp X.k Y.k)) ∧ Below W.heap.size W w' from fun W hb =>
    cmpRows_any X.kA X.k X.k.length X.kc Y.kA Y.k Y.k.length Y.kc W (vals_mono (vals_below hx hb) hb.size) (vals_mono (vals_below hy hb) hb.size) rfl rfl h1 h2)
  clear hx hy h1 h2
  have HS := Lib.hid (fun W => strCmp X.t Y.t W)
  unfold cgCmp
  generalize rowCmp X.k Y.k = RC at *
  generalize cmpL (bts X.t) (bts Y.t) = SC at *
  have HX := Lib.hid (show Cx w (cgC X) (cgC Y) ((w.alloc (.cells (cgC X) 33)).alloc (.cells (cgC Y) 33)) from by
    have hz : (w.alloc (.cells (cgC X) 33)).heap.size = w.heap.size + 1 := by simp
    refine ⟨(Blk.new w _ _).alloc _, ?_, (one_allocC).alloc (by omega) _, by simp⟩
    have := Blk.new (w.alloc (.cells (cgC X) 33)) 33 (cgC Y)
    rw [hz] at this; exact this)
  go_enter Try.func34, Try.ntmps34
  go_wp2_with fail
  refine (show ∀ W1, Cx w (cgC X) (cgC Y) W1 → Code.wp _ _ _ _ W1 from ?_) _ HX.out
  clear HX
  intro W1 hs1
  have HC := Lib.hid (cx_drew1 hs1)
  clear hs1
  obtain ⟨B, hB⟩ : ∃ B, w.heap.size = B := ⟨_, rfl⟩
  rw [hB]
  refine wp_region_noPanic ?_
  refine wp_region_any (by kernel_rfl) ?_
  refine facts_start [0, 1, 2, 3, 4, 5, 6, 7, 8, 9, 10, 11, 12] [] dCmp (Ft (mkCmp B X Y SC RC) (blCmp SC RC)) _ _ _ 0 _ #[true, true, true, true, true, true, true, true, true, true, true, true, true] (by kernel_rfl) (by rfl) ft_step no_al' ?hstep ?hend
  case hstep =>
    intro i hi x W hd hb K hK
    have hs := cx_step HC.out hb
    obtain ⟨p0, p1, p2, p3⟩ := cx_cells hs
    rw [hB] at p0 p1 p2 p3
    simp only [List.mem_cons, List.not_mem_nil, or_false] at hi
    rcases hi with rfl | rfl | rfl | rfl | rfl | rfl | rfl | rfl | rfl | rfl | rfl | rfl | rfl
    · generalize hA : putsA _ _ x [0, 1, 2, 3, 4, 5, 6, 7, 8, 9, 10, 11, 12] = A at *
      have e2 : A.tmps[2]? = some (.pointer (some ⟨B, 0, none⟩)) := by rw [← hA]; exact putsA_at 2 _ (by decide +kernel)
      clear hA hd
      refine wpOp_step rfl (fun K' hK' => ?_)
      go_simp
      exact hK' _ _ (hK _ _ ⟨0, 0, 0, rfl, al0⟩ (Below.refl _ _) no_al)
    · generalize hA : putsA _ _ x [0, 1, 2, 3, 4, 5, 6, 7, 8, 9, 10, 11, 12] = A at *
      have e5 : A.tmps[5]? = some (x 0) := by rw [← hA]; exact putsA_in (i := 0) 5 (by rfl) (by show (5 : Nat) < 17; decide) _ (by decide +kernel) (by decide)
      obtain ⟨_, _, _, f0, _⟩ := hd 0 (by decide)
      replace f0 : x 0 = .pointer (some ⟨B, 0, none⟩) := f0
      rw [f0] at e5
      clear hA hd
      refine wpOp_step rfl (fun K' hK' => ?_)
      go_simp
      exact hK' _ _ (hK _ _ ⟨0, 0, 0, rfl, al0⟩ (Below.refl _ _) no_al)
    · generalize hA : putsA _ _ x [0, 1, 2, 3, 4, 5, 6, 7, 8, 9, 10, 11, 12] = A at *
      have e3 : A.tmps[3]? = some (.pointer (some ⟨B + 1, 0, none⟩)) := by rw [← hA]; exact putsA_at 3 _ (by decide +kernel)
      clear hA hd
      refine wpOp_step rfl (fun K' hK' => ?_)
      go_simp
      exact hK' _ _ (hK _ _ ⟨0, 0, 0, rfl, al0⟩ (Below.refl _ _) no_al)
    · generalize hA : putsA _ _ x [0, 1, 2, 3, 4, 5, 6, 7, 8, 9, 10, 11, 12] = A at *
      have e7 : A.tmps[7]? = some (x 2) := by rw [← hA]; exact putsA_in (i := 2) 7 (by rfl) (by show (7 : Nat) < 17; decide) _ (by decide +kernel) (by decide)
      obtain ⟨_, _, _, f2, _⟩ := hd 2 (by decide)
      replace f2 : x 2 = .pointer (some ⟨B + 1, 0, none⟩) := f2
      rw [f2] at e7
      clear hA hd
      refine wpOp_step rfl (fun K' hK' => ?_)
      go_simp
      exact hK' _ _ (hK _ _ ⟨0, 0, 0, rfl, al0⟩ (Below.refl _ _) no_al)
    · generalize hA : putsA _ _ x [0, 1, 2, 3, 4, 5, 6, 7, 8, 9, 10, 11, 12] = A at *
      have e6 : A.tmps[6]? = some (x 1) := by rw [← hA]; exact putsA_in (i := 1) 6 (by rfl) (by show (6 : Nat) < 17; decide) _ (by decide +kernel) (by decide)
      obtain ⟨_, _, _, f1, _⟩ := hd 1 (by decide)
      replace f1 : x 1 = .string X.t := f1
      rw [f1] at e6
      have e8 : A.tmps[8]? = some (x 3) := by rw [← hA]; exact putsA_in (i := 3) 8 (by rfl) (by show (8 : Nat) < 17; decide) _ (by decide +kernel) (by decide)
      obtain ⟨_, _, _, f3, _⟩ := hd 3 (by decide)
      replace f3 : x 3 = .string Y.t := f3
      rw [f3] at e8
      clear hA hd
      refine wpOp_step rfl (fun K' hK' => ?_)
      go_simp
      refine (HS.out W).mono ?_
      rintro e w6 ⟨rfl, rfl⟩
      exact hK' _ _ (hK _ _ ⟨0, 0, 0, rfl, al0⟩ (Below.refl _ _) no_al)
    · generalize hA : putsA _ _ x [0, 1, 2, 3, 4, 5, 6, 7, 8, 9, 10, 11, 12] = A at *
      have e2 : A.tmps[2]? = some (.pointer (some ⟨B, 0, none⟩)) := by rw [← hA]; exact putsA_at 2 _ (by decide +kernel)
      clear hA hd
      refine wpOp_step rfl (fun K' hK' => ?_)
      go_simp
      exact hK' _ _ (hK _ _ ⟨0, 0, 0, rfl, al0⟩ (Below.refl _ _) no_al)
    · generalize hA : putsA _ _ x [0, 1, 2, 3, 4, 5, 6, 7, 8, 9, 10, 11, 12] = A at *
      have e10 : A.tmps[10]? = some (x 5) := by rw [← hA]; exact putsA_in (i := 5) 10 (by rfl) (by show (10 : Nat) < 17; decide) _ (by decide +kernel) (by decide)
      obtain ⟨_, _, _, f5, _⟩ := hd 5 (by decide)
      replace f5 : x 5 = .pointer (some ⟨B, 1, none⟩) := f5
      rw [f5] at e10
      clear hA hd
      refine wpOp_step rfl (fun K' hK' => ?_)
      go_simp
      exact hK' _ _ (hK _ _ ⟨0, 0, 0, rfl, al0⟩ (Below.refl _ _) no_al)
    · generalize hA : putsA _ _ x [0, 1, 2, 3, 4, 5, 6, 7, 8, 9, 10, 11, 12] = A at *
      have e3 : A.tmps[3]? = some (.pointer (some ⟨B + 1, 0, none⟩)) := by rw [← hA]; exact putsA_at 3 _ (by decide +kernel)
      clear hA hd
      refine wpOp_step rfl (fun K' hK' => ?_)
      go_simp
      exact hK' _ _ (hK _ _ ⟨0, 0, 0, rfl, al0⟩ (Below.refl _ _) no_al)
    · generalize hA : putsA _ _ x [0, 1, 2, 3, 4, 5, 6, 7, 8, 9, 10, 11, 12] = A at *
      have e12 : A.tmps[12]? = some (x 7) := by rw [← hA]; exact putsA_in (i := 7) 12 (by rfl) (by show (12 : Nat) < 17; decide) _ (by decide +kernel) (by decide)
      obtain ⟨_, _, _, f7, _⟩ := hd 7 (by decide)
      replace f7 : x 7 = .pointer (some ⟨B + 1, 1, none⟩) := f7
      rw [f7] at e12
      clear hA hd
      refine wpOp_step rfl (fun K' hK' => ?_)
      go_simp
      exact hK' _ _ (hK _ _ ⟨0, 0, 0, rfl, al0⟩ (Below.refl _ _) no_al)
    · generalize hA : putsA _ _ x [0, 1, 2, 3, 4, 5, 6, 7, 8, 9, 10, 11, 12] = A at *
      have e11 : A.tmps[11]? = some (x 6) := by rw [← hA]; exact putsA_in (i := 6) 11 (by rfl) (by show (11 : Nat) < 17; decide) _ (by decide +kernel) (by decide)
      obtain ⟨_, _, _, f6, _⟩ := hd 6 (by decide)
      replace f6 : x 6 = .slice X.kA X.k.length X.kc := f6
      rw [f6] at e11
      have e13 : A.tmps[13]? = some (x 8) := by rw [← hA]; exact putsA_in (i := 8) 13 (by rfl) (by show (13 : Nat) < 17; decide) _ (by decide +kernel) (by decide)
      obtain ⟨_, _, _, f8, _⟩ := hd 8 (by decide)
      replace f8 : x 8 = .slice Y.kA Y.k.length Y.kc := f8
      rw [f8] at e13
      clear hA hd
      refine wpOp_step rfl (fun K' hK' => ?_)
      go_simp
      refine (HR.out W hs.2.2.1).mono ?_
      rintro e w6 ⟨rfl, hb6⟩
      exact hK' _ _ (hK _ _ ⟨0, 0, 0, rfl, al0⟩ hb6 no_al)
    · generalize hA : putsA _ _ x [0, 1, 2, 3, 4, 5, 6, 7, 8, 9, 10, 11, 12] = A at *
      have e9 : A.tmps[9]? = some (x 4) := by rw [← hA]; exact putsA_in (i := 4) 9 (by rfl) (by show (9 : Nat) < 17; decide) _ (by decide +kernel) (by decide)
      obtain ⟨_, _, _, f4, _⟩ := hd 4 (by decide)
      replace f4 : x 4 = .int .i64 SC := f4
      rw [f4] at e9
      have e14 : A.tmps[14]? = some (x 9) := by rw [← hA]; exact putsA_in (i := 9) 14 (by rfl) (by show (14 : Nat) < 17; decide) _ (by decide +kernel) (by decide)
      obtain ⟨_, _, _, f9, _⟩ := hd 9 (by decide)
      replace f9 : x 9 = .int .i64 RC := f9
      rw [f9] at e14
      clear hA hd
      refine wpOp_step rfl (fun K' hK' => ?_)
      go_simp
      exact hK' _ _ (hK _ _ ⟨W.heap.size, 0, 0, rfl, al1 (Blk.new _ _ _)⟩ ((Below.refl _ _).alloc (Nat.le_refl _) _) no_al)
    · generalize hA : putsA _ _ x [0, 1, 2, 3, 4, 5, 6, 7, 8, 9, 10, 11, 12] = A at *
      have e15 : A.tmps[15]? = some (x 10) := by rw [← hA]; exact putsA_in (i := 10) 15 (by rfl) (by show (15 : Nat) < 17; decide) _ (by decide +kernel) (by decide)
      obtain ⟨k10, ka10, kb10, f10, hb10⟩ := hd 10 (by decide)
      replace f10 : x 10 = .slice (some ⟨k10, 0, none⟩) 2 2 := f10
      rw [f10] at e15
      clear hA hd
      have hk := hb10 (k10, 3, #[.int .i64 SC, .int .i64 RC]) (.head _)
      refine wpOp_step rfl (fun K' hK' => ?_)
      go_simp
      refine (or2_any k10 2 SC RC W (hk.cell 0) (hk.cell 1)).mono ?_
      rintro e w6 ⟨rfl, rfl⟩
      exact hK' _ _ (hK _ _ ⟨0, 0, 0, rfl, al0⟩ (Below.refl _ _) no_al)
    · generalize hA : putsA _ _ x [0, 1, 2, 3, 4, 5, 6, 7, 8, 9, 10, 11, 12] = A at *
      have e16 : A.tmps[16]? = some (x 11) := by rw [← hA]; exact putsA_in (i := 11) 16 (by rfl) (by show (16 : Nat) < 17; decide) _ (by decide +kernel) (by decide)
      obtain ⟨_, _, _, f11, _⟩ := hd 11 (by decide)
      replace f11 : x 11 = .int .i64 (or2 SC RC) := f11
      rw [f11] at e16
      clear hA hd
      refine wpOp_step rfl (fun K' hK' => ?_)
      go_simp
      exact hK' _ _ (hK _ _ ⟨0, 0, 0, rfl, al0⟩ (Below.refl _ _) no_al)
  case hend =>
    intro x W hf hg hb
    have hs := cx_step HC.out hb
    have h12 : x 12 = .int .i64 (or2 SC RC) := by
      obtain ⟨_, _, _, h, _⟩ := hf 12 (by decide)
      exact h
    rw [putsA_lit _ _ [0, 1, 2, 3, 4, 5, 6, 7, 8, 9, 10, 11, 12] [(4, 12), (5, 0), (6, 1), (7, 2), (8, 3), (9, 4), (10, 5), (11, 6), (12, 7), (13, 8), (14, 9), (15, 10), (16, 11)] (by kernel_rfl)]
    simp only [setAll, ↓reduceIte, Nat.reduceAdd, Nat.reduceEqDiff]
    rw [h12]
    clear hf h12 hg hb
    refine wpAny_done (by kernel_rfl) ?_ _
    refine NoPanic.normal ?_
    go_wp2
    go_ret
    exact ⟨rfl, hs.2.2.1⟩
/-- how a world stands to one ahead of it, in full -/
theorem grow_of {w w' : World} (h : Below w.heap.size w w') : ∃ q os', w' = Sort.grow (w.drewN q) os' := by
  refine ⟨w'.drawn - w.drawn, w'.heap.extract w.heap.size, ?_⟩
  obtain ⟨⟨h1, h2, h3, h4, h5⟩, h6⟩ := h
  obtain ⟨hp, tp, dr, os, ou⟩ := w
  obtain ⟨hp', tp', dr', os', ou'⟩ := w'
  simp only at h1 h2 h3 h4 h5 h6
  subst h1 h2 h3
  have e : hp' = hp ++ hp'.extract hp.size := by
    apply Array.ext_getElem?
    intro k
    rw [Array.getElem?_append]
    split
    · exact h5 k (by assumption)
    · rw [Array.getElem?_extract]
      split
      · congr 1; omega
      · rw [Array.getElem?_eq_none (by omega)]
  have e2 : dr + (dr' - dr) = dr' := by omega
  show _ = (⟨hp ++ hp'.extract hp.size, _, dr + (dr' - dr), _, _⟩ : World)
  rw [← e, e2]
  rfl
end D
end Go.Proofs.Ytocbdehcjcggeaa
