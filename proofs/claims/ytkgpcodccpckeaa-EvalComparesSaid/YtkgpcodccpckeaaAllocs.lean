/- Six allocs that may come up in any order, by induction over those that are left. Conditions: those of each lemma. -/
import Derived.Test.YtkgpcodccpckeaaEv1
import Derived.Test.YtkgpcodccpckeaaFacts
import Derived.OrdersHeld
import Derived.Deep.RegionHeld
namespace Go.Proofs.Ytkgpcodccpckeaa
open Go.RowKit Go
set_option linter.unusedVariables false
set_option linter.unusedSimpArgs false
def six : List Nat := [18, 19, 20, 21, 22, 23]
def subs : List Nat → List (List Nat)
  | [] => [[]]
  | x :: r => (subs r).map (x :: ·) ++ subs r
def lst (R : List Nat) : Array Bool := ((List.range 30).map (fun k => decide (k < 18) || (decide (k < 24) && !(R.contains k)))).toArray
theorem subs_set : ∀ R ∈ subs six, ∀ i ∈ R, (lst R).setIfInBounds i true = lst (R.erase i) ∧ R.erase i ∈ subs six ∧ (R.erase i).length + 1 = R.length ∧ i ∈ six := by decide +kernel
theorem subs_mem : ∀ R ∈ subs six, ∀ i ∈ R, ∀ j ∈ six, (j ∈ R.erase i ↔ (j ∈ R ∧ j ≠ i)) := by decide +kernel
def put6 (a0 : Act) (x : Nat → Value) : Act := (((((a0.put (some 9) (x 18)).put (some 10) (x 19)).put (some 11) (x 20)).put (some 12) (x 21)).put (some 13) (x 22)).put (some 14) (x 23)
theorem pc (a : Act) (i j : Nat) (v u : Value) (h : i ≠ j) : (a.put (some i) v).put (some j) u = (a.put (some j) u).put (some i) v := by
  obtain ⟨tm, df⟩ := a
  simp only [Act.put, Act.mk.injEq, and_true]
  exact Array.setIfInBounds_comm v u h
theorem pp (a : Act) (i : Nat) (v u : Value) : (a.put (some i) v).put (some i) u = a.put (some i) u := by
  obtain ⟨tm, df⟩ := a
  simp only [Act.put, Act.mk.injEq, and_true]
  simp
theorem put6_upd (a0 : Act) (x : Nat → Value) (i : Nat) (v : Value) (hi : i ∈ six) : (put6 a0 x).put (some (i - 9)) v = put6 a0 (fun j => if j = i then v else x j) := by
  simp only [six, List.mem_cons, List.not_mem_nil, or_false] at hi
  rcases hi with rfl | rfl | rfl | rfl | rfl | rfl
  · show ((((((a0.put (some 9) (x 18)).put (some 10) (x 19)).put (some 11) (x 20)).put (some 12) (x 21)).put (some 13) (x 22)).put (some 14) (x 23)).put (some 9) v = _
    rw [pc _ 14 9 _ _ (by decide), pc _ 13 9 _ _ (by decide), pc _ 12 9 _ _ (by decide), pc _ 11 9 _ _ (by decide), pc _ 10 9 _ _ (by decide), pp]
    simp [put6]
  · show ((((((a0.put (some 9) (x 18)).put (some 10) (x 19)).put (some 11) (x 20)).put (some 12) (x 21)).put (some 13) (x 22)).put (some 14) (x 23)).put (some 10) v = _
    rw [pc _ 14 10 _ _ (by decide), pc _ 13 10 _ _ (by decide), pc _ 12 10 _ _ (by decide), pc _ 11 10 _ _ (by decide), pp]
    simp [put6]
  · show ((((((a0.put (some 9) (x 18)).put (some 10) (x 19)).put (some 11) (x 20)).put (some 12) (x 21)).put (some 13) (x 22)).put (some 14) (x 23)).put (some 11) v = _
    rw [pc _ 14 11 _ _ (by decide), pc _ 13 11 _ _ (by decide), pc _ 12 11 _ _ (by decide), pp]
    simp [put6]
  · show ((((((a0.put (some 9) (x 18)).put (some 10) (x 19)).put (some 11) (x 20)).put (some 12) (x 21)).put (some 13) (x 22)).put (some 14) (x 23)).put (some 12) v = _
    rw [pc _ 14 12 _ _ (by decide), pc _ 13 12 _ _ (by decide), pp]
    simp [put6]
  · show ((((((a0.put (some 9) (x 18)).put (some 10) (x 19)).put (some 11) (x 20)).put (some 12) (x 21)).put (some 13) (x 22)).put (some 14) (x 23)).put (some 13) v = _
    rw [pc _ 14 13 _ _ (by decide), pp]
    simp [put6]
  · show ((((((a0.put (some 9) (x 18)).put (some 10) (x 19)).put (some 11) (x 20)).put (some 12) (x 21)).put (some 13) (x 22)).put (some 14) (x 23)).put (some 14) v = _
    rw [pp]
    simp [put6]
theorem put6_lit (tm : List Value) (df : List Deferred) (x : Nat → Value) : put6 ⟨tm.toArray, df⟩ x = ⟨(setAll x 0 tm [(9, 18), (10, 19), (11, 20), (12, 21), (13, 22), (14, 23)]).toArray, df⟩ := by
  unfold put6
  simp only [Act.put, Act.mk.injEq, and_true]
  apply Array.ext_getElem?
  intro k
  have hR : (setAll x 0 tm [(9, 18), (10, 19), (11, 20), (12, 21), (13, 22), (14, 23)]).toArray[k]? = (setAll x 0 tm [(9, 18), (10, 19), (11, 20), (12, 21), (13, 22), (14, 23)])[k]? := by simp
  rw [hR, setAll_get x tm 0 _ k (by decide) (fun q _ => Nat.zero_le _)]
  simp only [Nat.zero_add]
  by_cases h9 : k = 9
  · subst h9; by_cases hl : 9 < tm.length <;> simp [Array.getElem?_setIfInBounds, hl]
  by_cases h10 : k = 10
  · subst h10; by_cases hl : 10 < tm.length <;> simp [Array.getElem?_setIfInBounds, hl]
  by_cases h11 : k = 11
  · subst h11; by_cases hl : 11 < tm.length <;> simp [Array.getElem?_setIfInBounds, hl]
  by_cases h12 : k = 12
  · subst h12; by_cases hl : 12 < tm.length <;> simp [Array.getElem?_setIfInBounds, hl]
  by_cases h13 : k = 13
  · subst h13; by_cases hl : 13 < tm.length <;> simp [Array.getElem?_setIfInBounds, hl]
  by_cases h14 : k = 14
  · subst h14; by_cases hl : 14 < tm.length <;> simp [Array.getElem?_setIfInBounds, hl]
  simp [Array.getElem?_setIfInBounds, Ne.symm h9, Ne.symm h10, Ne.symm h11, Ne.symm h12, Ne.symm h13, Ne.symm h14]
/-- what holds while R is left -/
def Left (a0 : Act) (S : World → Prop) (w0 : World) (t : TypeId) (Z : Array Value) (R : List Nat) (a : Act) (w : World) : Prop :=
  ∃ (x : Nat → Value) (g : Nat → Nat), a = put6 a0 x ∧ (∀ i ∈ six, i ∉ R → x i = .pointer (some ⟨g i, 0, none⟩) ∧ Blk w (g i) t Z ∧ w0.heap.size ≤ g i) ∧ (∀ i ∈ six, i ∉ R → ∀ j ∈ six, j ∉ R → i ≠ j → g i ≠ g j) ∧ S w ∧ Below w0.heap.size w0 w
theorem left_step {a0 : Act} {S : World → Prop} {w0 : World} {t : TypeId} {Z : Array Value} {R : List Nat} {a : Act} {w : World} (hR : R ∈ subs six) (i : Nat) (hi : i ∈ R) (hS : ∀ w, S w → Below w0.heap.size w0 w → S (w.alloc (.cells Z t))) (h : Left a0 S w0 t Z R a w) :
    Left a0 S w0 t Z (R.erase i) (a.put (some (i - 9)) (.pointer (some ⟨w.heap.size, 0, none⟩))) (w.alloc (.cells Z t)) := by
  obtain ⟨x, g, rfl, h1, h2, h3, h4⟩ := h
  have h6 := (subs_set R hR i hi).2.2.2
  refine ⟨fun j => if j = i then .pointer (some ⟨w.heap.size, 0, none⟩) else x j, fun j => if j = i then w.heap.size else g j, put6_upd a0 x i _ h6, fun j hj hjR => ?_, fun j hj hjR k hk hkR hne => ?_, hS w h3 h4, h4.alloc h4.size _⟩
  · by_cases e : j = i
    · subst e
      simp only [↓reduceIte]
      exact ⟨by first | rfl | trivial, Blk.new _ _ _, h4.size⟩
    · have hjR' : j ∉ R := fun hm => hjR ((subs_mem R hR i hi j hj).2 ⟨hm, e⟩)
      obtain ⟨k1, k2, k3⟩ := h1 j hj hjR'
      simp only [if_neg e]
      exact ⟨k1, k2.alloc _, k3⟩
  · by_cases e : j = i
    · have e2 : k ≠ i := fun e2 => hne (e.trans e2.symm)
      have hkR' : k ∉ R := fun hm => hkR ((subs_mem R hR i hi k hk).2 ⟨hm, e2⟩)
      have := (h1 k hk hkR').2.1.lt
      simp only [if_pos e, if_neg e2]
      omega
    · have hjR' : j ∉ R := fun hm => hjR ((subs_mem R hR i hi j hj).2 ⟨hm, e⟩)
      by_cases e2 : k = i
      · have := (h1 j hj hjR').2.1.lt
        simp only [if_neg e, if_pos e2]
        omega
      · have hkR' : k ∉ R := fun hm => hkR ((subs_mem R hR i hi k hk).2 ⟨hm, e2⟩)
        simp only [if_neg e, if_neg e2]
        exact h2 j hj hjR' k hk hkR' hne
theorem allocs6 {P : Program} {ops : Array Oper} {Q : Exit → Act → World → Prop} {S : World → Prop} (a0 : Act) (w0 : World) (t : TypeId) (Z : Array Value) (f0 : Nat)
    (hready : ∀ R ∈ subs six, R ≠ [] → Region.ready .any ops (lst R) = R)
    (hop : ∀ i ∈ six, ∀ (a : Act) (w : World) (K : Act → World → Prop), K (a.put (some (i - 9)) (.pointer (some ⟨w.heap.size, 0, none⟩))) (w.alloc (.cells Z t)) → wpOp P ops Q i K a w)
    (hS : ∀ w, S w → Below w0.heap.size w0 w → S (w.alloc (.cells Z t)))
    (hend : ∀ a w, Left a0 S w0 t Z [] a w → wpAnyH P .any ops Q S f0 (lst []) a w) :
    ∀ (n : Nat) (R : List Nat), R.length = n → R ∈ subs six → ∀ a w, Left a0 S w0 t Z R a w → wpAnyH P .any ops Q S (n + f0) (lst R) a w := by
  intro n
  induction n with
  | zero =>
    intro R hn hR a w h
    obtain rfl : R = [] := List.eq_nil_of_length_eq_zero hn
    rw [Nat.zero_add]
    exact hend a w h
  | succ n ih =>
    intro R hn hR a w h
    have hne : R ≠ [] := fun e => by rw [e] at hn; simp at hn
    rw [show n + 1 + f0 = n + f0 + 1 by omega]
    refine wpAnyH_all (hready R hR hne) hne fun i hi => ?_
    obtain ⟨k1, k2, k3, k4⟩ := subs_set R hR i hi
    refine hop i k4 a w _ ?_
    have hl := left_step hR i hi hS h
    have hs : S (w.alloc (.cells Z t)) := by
      obtain ⟨_, _, _, _, _, h3, h4⟩ := h
      exact hS w h3 h4
    refine ⟨hs, ?_⟩
    rw [k1]
    exact ih (R.erase i) (by omega) k2 _ _ hl
theorem self_put (a : Act) (d : Nat) : a.put (some d) ((a.tmps[d]?).getD undef) = a := by
  obtain ⟨tm, df⟩ := a
  simp only [Act.put, Act.mk.injEq, and_true]
  apply Array.ext_getElem?
  intro k
  rw [Array.getElem?_setIfInBounds]
  by_cases h : d = k
  · subst h
    by_cases h2 : d < tm.size
    · simp [h2]
    · simp [h2]
  · rw [if_neg h]
theorem allocs_start {P : Program} {ops : Array Oper} {Q : Exit → Act → World → Prop} {S : World → Prop} (t : TypeId) (Z : Array Value) (f0 : Nat) (a : Act) (w : World)
    (hready : ∀ R ∈ subs six, R ≠ [] → Region.ready .any ops (lst R) = R)
    (hop : ∀ i ∈ six, ∀ (a : Act) (w : World) (K : Act → World → Prop), K (a.put (some (i - 9)) (.pointer (some ⟨w.heap.size, 0, none⟩))) (w.alloc (.cells Z t)) → wpOp P ops Q i K a w)
    (hS : ∀ w', S w' → Below w.heap.size w w' → S (w'.alloc (.cells Z t)))
    (hS0 : S w)
    (hend : ∀ a' w', Left a S w t Z [] a' w' → wpAnyH P .any ops Q S f0 (lst []) a' w') : wpAnyH P .any ops Q S (6 + f0) (lst six) a w :=
  allocs6 a w t Z f0 hready hop hS hend 6 six rfl (by decide +kernel) a w
    ⟨fun i => (a.tmps[i - 9]?).getD undef, fun _ => 0, by
      simp only [put6]
      rw [self_put a 9, self_put a 10, self_put a 11, self_put a 12, self_put a 13, self_put a 14], fun i hi hn => absurd hi hn, fun i hi hn => absurd hi hn, hS0, Below.refl _ _⟩
end Go.Proofs.Ytkgpcodccpckeaa
