/- Many operations of a drawn region taken first at once: what each yields in every world that meets S. Conditions: those of each lemma. -/
import Derived.Test.YtkgpcodccpckeaaFacts
import Derived.OrdersHeld
import Derived.Deep.RegionHeld
namespace Go.Proofs.Ytkgpcodccpckeaa
open Go Go.RowKit
set_option linter.unusedVariables false
set_option linter.unusedSimpArgs false
def putsF (ops : Array Oper) (v : Nat → Value) : Act → List Nat → Act
  | a, [] => a
  | a, r :: R => putsF ops v (a.put (dstOf ops r) (v r)) R
theorem putsA_last {ops : Array Oper} {a0 : Act} {v : Nat → Value} {r : Nat} : ∀ L : List Nat, putsA ops (a0.put (dstOf ops r) (v r)) v L = putsA ops a0 v (L ++ [r])
  | [] => rfl
  | l :: L => by
    simp only [putsA, List.cons_append]
    rw [putsA_last L]
theorem putsF_eq {ops : Array Oper} {v : Nat → Value} : ∀ (R : List Nat) (a0 : Act), putsF ops v a0 R = putsA ops a0 v R.reverse
  | [], _ => rfl
  | r :: R, a0 => by
    simp only [putsF, List.reverse_cons]
    rw [putsF_eq R, putsA_last]
/-- along R each may come up, and nobody ahead of it touches what it needs; D i stands ahead of i -/
def takeCheck (ops : Array Oper) (D : Nat → List Nat) : List Nat → List Nat → Array Bool → Bool
  | _, [], _ => true
  | done, r :: R, l => Region.noSelect ops && Region.free .any ops l r && (Region.ready .any ops l).contains r && (ops[r]?).isSome && (D r).all (fun d => done.contains d) && takeCheck ops D (r :: done) R (l.setIfInBounds r true)
def setAllTrue : List Nat → Array Bool → Array Bool
  | [], l => l
  | r :: R, l => setAllTrue R (l.setIfInBounds r true)
theorem takes_go {P : Program} {ops : Array Oper} {Q : Exit → Act → World → Prop} {S : World → Prop} (R0 : List Nat) (D : Nat → List Nat) (v : Nat → Value) (a0 : Act) (w : World) (f0 : Nat)
    (hn : ∀ j ∈ R0, ∀ k ∈ R0, j ≠ k → dstNe ops j k = true) (hsz : ∀ j ∈ R0, ∀ d, dstOf ops j = some d → d < a0.tmps.size) (hQ : ∀ c a a' w, Q (.panic c) a w → Q (.panic c) a' w)
    (hy : ∀ i ∈ R0, ∀ a : Act, (∀ d ∈ D i, ∀ t, dstOf ops d = some t → a.tmps[t]? = some (v d)) → (∀ t, (∀ j ∈ R0, dstOf ops j ≠ some t) → a.tmps[t]? = a0.tmps[t]?) → ∀ o, ops[i]? = some o → YieldsIf P ops S o (v i) a) (hS : S w) :
    ∀ (R done : List Nat) (l : Array Bool) (a : Act), takeCheck ops D done R l = true → (∀ i ∈ R, i ∈ R0) → (∀ i ∈ done, i ∈ R0) → (∀ i ∈ R, i ∉ done) → R.Nodup →
      a.tmps.size = a0.tmps.size → (∀ d ∈ done, ∀ t, dstOf ops d = some t → a.tmps[t]? = some (v d)) → (∀ t, (∀ j ∈ R0, dstOf ops j ≠ some t) → a.tmps[t]? = a0.tmps[t]?) →
      wpAnyH P .any ops Q S f0 (setAllTrue R l) (putsF ops v a R) w → wpAnyH P .any ops Q S (R.length + f0) l a w := by
  intro R
  induction R with
  | nil => intro done l a _ _ _ _ _ _ _ _ h; simpa [setAllTrue, putsF] using h
  | cons r R ih =>
    intro done l a hc hR hD hnd hnod hs hdone hext h
    simp only [takeCheck, Bool.and_eq_true] at hc
    obtain ⟨⟨⟨⟨⟨k1, k2⟩, k3⟩, k4⟩, k5⟩, k6⟩ := hc
    obtain ⟨o, ho⟩ := Option.isSome_iff_exists.1 k4
    have hrR := hR r (List.mem_cons_self ..)
    have hdst : dstOf ops r = o.dst := by unfold dstOf; rw [ho]; rfl
    have hD5 : ∀ d ∈ D r, d ∈ done := fun d hd => by simpa using List.all_eq_true.1 k5 d hd
    rw [List.length_cons, show R.length + 1 + f0 = R.length + f0 + 1 by omega]
    refine wpAnyH_take ho k1 k2 k3 (fun c a' w' hq => hQ c _ _ w' hq) (hy r hrR a (fun d hd => hdone d (hD5 d hd)) hext o ho) hS ?_
    rw [← hdst]
    refine ih (r :: done) _ _ k6 (fun i hi => hR i (List.mem_cons_of_mem _ hi)) (fun i hi => ?_) (fun i hi hm => ?_) (List.nodup_cons.1 hnod).2 ?_ ?_ ?_ h
    · rcases List.mem_cons.1 hi with rfl | hi
      · exact hrR
      · exact hD i hi
    · rcases List.mem_cons.1 hm with e | hm
      · exact (List.nodup_cons.1 hnod).1 (e ▸ hi)
      · exact hnd i (List.mem_cons_of_mem _ hi) hm
    · rw [← hs]
      cases dstOf ops r with
      | none => rfl
      | some d => simp [Act.put]
    · intro d hd t ht
      rcases List.mem_cons.1 hd with rfl | hd
      · rw [ht]
        simp only [Act.put]
        rw [Array.getElem?_setIfInBounds_self_of_lt (by rw [hs]; exact hsz _ hrR t ht)]
      · have hne : d ≠ r := fun e => hnd r (List.mem_cons_self ..) (e ▸ hd)
        have h1 := hn d (hD d hd) r hrR hne
        unfold dstNe at h1
        rw [ht] at h1
        cases hr : dstOf ops r with
        | none => simpa [Act.put] using hdone d hd t ht
        | some e =>
          rw [hr] at h1
          simp only [Act.put]
          rw [Array.getElem?_setIfInBounds_ne (fun e' => by simp [e'] at h1)]
          exact hdone d hd t ht
    · intro t ht
      cases hr : dstOf ops r with
      | none => simpa [Act.put] using hext t ht
      | some e =>
        simp only [Act.put]
        rw [Array.getElem?_setIfInBounds_ne (fun e' => ht r hrR (by rw [hr, e']))]
        exact hext t ht
def takesOk (ops : Array Oper) (D : Nat → List Nat) (R : List Nat) (l0 : Array Bool) (n : Nat) : Bool :=
  decide R.Nodup && takeCheck ops D [] R l0 && R.all (fun i => R.all fun j => i == j || dstNe ops i j) && R.all (fun i => match dstOf ops i with
    | some d => decide (d < n)
    | none => true)
/-- all of R taken first, in this order -/
theorem takes_start {P : Program} {ops : Array Oper} {Q : Exit → Act → World → Prop} {S : World → Prop} (R : List Nat) (D : Nat → List Nat) (v : Nat → Value) (tm : List Value) (df : List Deferred) (w : World) (m f0 : Nat) (l0 : Array Bool) (n : Nat)
    (hck : takesOk ops D R l0 n = true) (hlen : tm.length = n) (hm : m = R.length + f0) (hQ : ∀ c a a' w, Q (.panic c) a w → Q (.panic c) a' w)
    (hy : ∀ i ∈ R, ∀ a : Act, (∀ d ∈ D i, ∀ t, dstOf ops d = some t → a.tmps[t]? = some (v d)) → (∀ t, (∀ j ∈ R, dstOf ops j ≠ some t) → a.tmps[t]? = tm[t]?) → ∀ o, ops[i]? = some o → YieldsIf P ops S o (v i) a) (hS : S w)
    (h : wpAnyH P .any ops Q S f0 (setAllTrue R l0) (putsA ops ⟨tm.toArray, df⟩ v R.reverse) w) : wpAnyH P .any ops Q S m l0 ⟨tm.toArray, df⟩ w := by
  unfold takesOk at hck
  simp only [Bool.and_eq_true] at hck
  obtain ⟨⟨⟨c1, c2⟩, c3⟩, c4⟩ := hck
  rw [hm]
  refine takes_go R D v ⟨tm.toArray, df⟩ w f0 (fun j hj k hk hne => ?_) (fun j hj d hd => ?_) hQ (fun i hi a h1 h2 => hy i hi a h1 (fun t ht => (h2 t ht).trans (by simp))) hS R [] l0 _ c2 (fun i hi => hi) (fun i hi => by cases hi) (fun i _ hi => by cases hi) (of_decide_eq_true c1) rfl (fun d hd => by cases hd) (fun t _ => rfl) ?_
  · have h := List.all_eq_true.1 (List.all_eq_true.1 c3 j hj) k hk
    simp only [Bool.or_eq_true, beq_iff_eq] at h
    exact h.resolve_left hne
  · have h := List.all_eq_true.1 c4 j hj
    rw [hd] at h
    simp only [decide_eq_true_eq] at h
    simpa [hlen] using h
  · rw [putsF_eq]
    exact h
end Go.Proofs.Ytkgpcodccpckeaa
