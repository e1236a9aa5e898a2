/- A drawn region by facts, where each operation has a slot of its own told by a function, each guard is fulfilled, and the frame is told by its slots alone. Conditions: those of each lemma. -/
import Derived.Test.YtkgpcodccpckeaaFacts
namespace Go.Proofs.Ytkgpcodccpckeaa
open Go Go.RowKit
set_option linter.unusedVariables false
set_option linter.unusedSimpArgs false
/-- what a machine can look after besides rfCheck: each operation's slot; each guard asks for what is true, told by an operation for which this one waits; some slots of the frame are none of these -/
def slCheck (ops : Array Oper) (R : List Nat) (D : Nat → List Nat) (sl : Nat → Nat) (G X : List Nat) (m : Nat) : Bool :=
  R.all (fun i => dstOf ops i == some (sl i) && decide (sl i < m)) &&
  R.all (fun i => ((ops[i]?).map fun o => match o.guard with | none => true | some (g, b) => b && G.contains g && (D i).contains g && R.contains g).getD false) &&
  X.all (fun s => R.all fun j => sl j != s)
theorem facts_sl {P : Program} {ops : Array Oper} {Q : Exit → Act → World → Prop} (R : List Nat) (D : Nat → List Nat) (F : Nat → Value → World → Prop) (a0 : Act) (w0 : World) (n : Nat) (l0 l1 : Array Bool) (sl : Nat → Nat) (G X : List Nat) (m : Nat)
    (hck : rfCheck ops R D l0 l1 = true) (hsl : slCheck ops R D sl G X m = true) (hm : a0.tmps.size = m) (hn : n = R.length)
    (hF : ∀ i v w w', F i v w → Below w.heap.size w w' → F i v w')
    (hT : ∀ g ∈ G, ∀ v w, F g v w → v = .bool true)
    (hstep : ∀ i ∈ R, ∀ (x : Nat → Value) (w : World), (∀ d ∈ D i, F d (x d) w) → Below w0.heap.size w0 w → ∀ A : Act, (∀ j ∈ R, A.tmps[sl j]? = some (x j)) → (∀ s ∈ X, A.tmps[s]? = a0.tmps[s]?) → ∀ K : Act → World → Prop, (∀ v w', F i v w' → Below w.heap.size w w' → K (A.put (some (sl i)) v) w') → ∀ o, ops[i]? = some o → ∀ K' : Act → World → Prop, (∀ a w, K a w → K' a w) → Oper.wp P o A w K' Q)
    (hend : ∀ (x : Nat → Value) (w : World), (∀ i ∈ R, F i (x i) w) → Below w0.heap.size w0 w → wpAny P .any ops Q 0 l1 (putsA ops a0 x R) w) :
    wpAny P .any ops Q n l0 a0 w0 := by
  have hck2 := hck
  unfold rfCheck at hck2
  simp only [Bool.and_eq_true] at hck2
  obtain ⟨⟨⟨⟨⟨⟨⟨c1, c2⟩, c3⟩, c4⟩, c5⟩, c6⟩, c7⟩, c8⟩ := hck2
  unfold slCheck at hsl
  simp only [Bool.and_eq_true] at hsl
  obtain ⟨⟨s1, s2⟩, s3⟩ := hsl
  have s1 : ∀ i ∈ R, dstOf ops i = some (sl i) ∧ sl i < m := fun i hi => by
    have h := List.all_eq_true.1 s1 i hi
    simp only [Bool.and_eq_true, beq_iff_eq, decide_eq_true_eq] at h
    exact h
  have ne : ∀ i ∈ R, ∀ j ∈ R, i ≠ j → sl i ≠ sl j := fun i hi j hj hne e => by
    have h := List.all_eq_true.1 (List.all_eq_true.1 c3 i hi) j hj
    simp only [Bool.or_eq_true, beq_iff_eq] at h
    have h2 := h.resolve_left hne
    unfold dstNe at h2
    rw [(s1 i hi).1, (s1 j hj).1] at h2
    simp [e] at h2
  refine facts_start R [] D F a0 w0 n 0 l0 l1 hck (by omega) hF no_al' ?_ (fun x w hf _ hb => hend x w hf hb)
  intro i hi x w hd hb K hK
  have hio : ∃ o, ops[i]? = some o := by
    have h := List.all_eq_true.1 c2 i hi
    simp only [Bool.and_eq_true, decide_eq_true_eq] at h
    exact ⟨ops[i], Array.getElem?_eq_getElem h.1⟩
  obtain ⟨o, ho⟩ := hio
  have hA : ∀ j ∈ R, (putsA ops a0 x R).tmps[sl j]? = some (x j) := fun j hj => putsA_in (i := j) (sl j) (s1 j hj).1 (by rw [hm]; exact (s1 j hj).2) R (fun j' hj' hne => by
    rw [(s1 j' hj').1]
    intro e
    exact ne j' hj' j hj hne (by simpa using e)) hj
  have hX : ∀ s ∈ X, (putsA ops a0 x R).tmps[s]? = a0.tmps[s]? := fun s hs => putsA_at s R (fun j hj e => by
    have h := List.all_eq_true.1 (List.all_eq_true.1 s3 s hs) j hj
    rw [(s1 j hj).1] at e
    simp only [Option.some.injEq] at e
    simp [e] at h)
  refine wpOp_step ho (fun K' hK' => ?_)
  have hw : Region.wanted o (yielded ops (putsA ops a0 x R).tmps) = true := by
    have h := List.all_eq_true.1 s2 i hi
    rw [ho] at h
    simp only [Option.map_some, Option.getD_some] at h
    unfold Region.wanted
    cases hg : o.guard with
    | none => rfl
    | some gb =>
      obtain ⟨g, b⟩ := gb
      rw [hg] at h
      simp only [Bool.and_eq_true, List.contains_iff_mem] at h
      obtain ⟨⟨⟨h1, h2⟩, h3⟩, h4⟩ := h
      subst h1
      have hv := hT g h2 _ _ (hd g h3)
      have hy : yielded ops (putsA ops a0 x R).tmps g = some true := by
        have e1 := (s1 g h4).1
        unfold dstOf at e1
        unfold yielded
        rw [e1]
        simp only [Option.bind_some]
        rw [hA g h4, hv]
      simp only [hy]
      rfl
  rw [if_pos hw]
  refine hstep i hi x w hd hb _ hA hX K (fun v w' h1 h2 => ?_) o ho K' hK'
  have h3 := hK v w' h1 h2 (fun h => by cases h)
  rw [(s1 i hi).1] at h3
  exact h3
end Go.Proofs.Ytkgpcodccpckeaa
