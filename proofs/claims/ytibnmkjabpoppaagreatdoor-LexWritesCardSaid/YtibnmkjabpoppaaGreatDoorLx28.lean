/- Layer 13: a text from a token on (plain mathematics). Conditions: those of each lemma. -/
import Derived.Test.YtibnmkjabpoppaaGreatDoorLx27
namespace Go.Proofs.YtibnmkjabpoppaaGreatDoor
open Go Go.RowKit
set_option linter.unusedVariables false
set_option linter.unusedSimpArgs false
def shA (a : Nat) : An → An
  | .bad e q => .bad e (a + q)
  | .ok k x n p q => .ok k x n (a + p) (a + q)
section
variable {S T : ByteArray} {a : Nat}
/-- T is S from a on -/
def Cut (S T : ByteArray) (a : Nat) : Prop := bts T = (bts S).drop a ∧ a ≤ S.size
theorem cut_size (h : Cut S T a) : a + T.size = S.size := by
  have h1 := congrArg List.length h.1
  rw [bts_length, List.length_drop, bts_length] at h1
  have := h.2
  omega
theorem cut_drop (h : Cut S T a) (q : Nat) : (bts T).drop q = (bts S).drop (a + q) := by rw [h.1, List.drop_drop]
theorem cut_at (h : Cut S T a) (q : Nat) : atB T q = atB S (a + q) := by
  rw [← drop_hd T q, cut_drop h, drop_hd]
theorem cut_ex (h : Cut S T a) (p k : Nat) : T.extract p (p + k) = S.extract (a + p) (a + p + k) := by
  apply bts_inj
  rw [bts_ex, bts_ex, cut_drop h]
theorem cut_exr (h : Cut S T a) (p : Nat) : T.extract p T.size = S.extract (a + p) S.size := by
  apply bts_inj
  rw [bts_cutr, bts_cutr, cut_drop h]
theorem sh_long (k : Nat) (x : List Nat) (p q : Nat) : shA a (longA k x p q) = longA k x (a + p) (a + q) := by
  unfold longA
  by_cases hb : 1000 < (bstr x).size
  · rw [if_pos hb, if_pos hb]; rfl
  · rw [if_neg hb, if_neg hb]; rfl
theorem sh_text (h : Cut S T a) (p : Nat) : shA a (textA T p) = textA S (a + p) := by
  have hs := cut_size h
  unfold textA
  rw [cut_drop h, ← Nat.add_assoc, ujo_0, ujo_0]
  cases utx ((bts S).drop (a + p + 1)) with
  | none => show An.bad 6 (a + T.size) = An.bad 6 S.size; rw [hs]
  | some r =>
    show shA a (longA 4 r.1 p (p + 1 + r.2)) = longA 4 r.1 (a + p) (a + p + 1 + r.2)
    rw [sh_long]
    congr 1
    omega
theorem sh_blob (h : Cut S T a) (p : Nat) : shA a (blobA T p) = blobA S (a + p) := by
  unfold blobA
  rw [cut_drop h, ← Nat.add_assoc]
  cases ubl ((bts S).drop (a + p + 2)) with
  | error k => show An.bad 6 (a + (p + 2 + k)) = An.bad 6 (a + p + 2 + k); congr 1; omega
  | ok r =>
    show shA a (longA 5 ([] ++ r.1) p (p + 2 + r.2)) = longA 5 ([] ++ r.1) (a + p) (a + p + 2 + r.2)
    rw [sh_long]
    congr 1
    omega
theorem sh_word (h : Cut S T a) (p : Nat) : shA a (wordA T p) = wordA S (a + p) := by
  unfold wordA
  rw [cut_ex h, cut_drop h]
  by_cases hb : isIn wordsB (S.extract (a + p) (a + p + wl ((bts S).drop (a + p)))) = true
  · rw [if_pos hb, if_pos hb]
    show An.ok _ _ _ _ _ = An.ok _ _ _ _ _
    congr 1
    omega
  · rw [if_neg hb, if_neg hb]; rfl
theorem sh_name (h : Cut S T a) (p : Nat) : shA a (nameA T p) = nameA S (a + p) := by
  unfold nameA
  rw [cut_ex h, cut_drop h]
  by_cases hb : (rsc ((bts S).drop (a + p))).2 = true
  · rw [if_pos hb, if_pos hb]
    show An.bad _ _ = An.bad _ _
    congr 1
    omega
  · rw [if_neg hb, if_neg hb]
    by_cases hc : 32 < (rsc ((bts S).drop (a + p))).1
    · rw [if_pos hc, if_pos hc]; rfl
    · rw [if_neg hc, if_neg hc]
      show An.ok _ _ _ _ _ = An.ok _ _ _ _ _
      congr 1
      omega
theorem sh_num (h : Cut S T a) (p : Nat) : shA a (numA T p) = numA S (a + p) := by
  unfold numA numR
  rw [cut_drop h, cut_at h]
  generalize hv : vd 0 (((bts S).drop (a + p)).take (dl ((bts S).drop (a + p)))) = v
  generalize dl ((bts S).drop (a + p)) = d
  by_cases hb : (atB S (a + p) == 48) = true ∧ p + 1 < p + d
  · have hb2 : (atB S (a + p) == 48) = true ∧ a + p + 1 < a + p + d := ⟨hb.1, by have := hb.2; omega⟩
    rw [if_pos hb, if_pos hb2]
    show An.bad _ _ = An.bad _ _
    congr 1
  · have hb2 : ¬ ((atB S (a + p) == 48) = true ∧ a + p + 1 < a + p + d) := fun hh => hb ⟨hh.1, by have := hh.2; omega⟩
    rw [if_neg hb, if_neg hb2]
    by_cases hc : 9223372036854775808 < v
    · rw [if_pos hc, if_pos hc]; rfl
    · rw [if_neg hc, if_neg hc]
      show An.ok _ _ _ _ _ = An.ok _ _ _ _ _
      congr 1
      omega
theorem sh_sign (h : Cut S T a) (p : Nat) : shA a (signA T p) = signA S (a + p) := by
  unfold signA signR
  rw [cut_exr h]
  generalize sgn signsB (S.extract (a + p) S.size) = x
  by_cases hb : x.size = 0
  · rw [if_pos hb, if_pos hb]; rfl
  · rw [if_neg hb, if_neg hb]
    show An.ok _ _ _ _ _ = An.ok _ _ _ _ _
    congr 1
    omega
theorem sh_one (h : Cut S T a) (p : Nat) : shA a (oneA T p) = oneA S (a + p) := by
  unfold oneA
  rw [cut_at h, cut_at h, ← Nat.add_assoc]
  by_cases h1 : atB S (a + p) = 39
  · rw [if_pos h1, if_pos h1]; exact sh_text h p
  rw [if_neg h1, if_neg h1]
  by_cases h2 : atB S (a + p) = 120 ∧ atB S (a + p + 1) = 39
  · rw [if_pos h2, if_pos h2]; exact sh_blob h p
  rw [if_neg h2, if_neg h2]
  by_cases h3 : capB (atB S (a + p) : Int) = true
  · rw [if_pos h3, if_pos h3]; exact sh_word h p
  rw [if_neg h3, if_neg h3]
  by_cases h4 : smaB (atB S (a + p) : Int) = true
  · rw [if_pos h4, if_pos h4]; exact sh_name h p
  rw [if_neg h4, if_neg h4]
  by_cases h5 : digB (atB S (a + p) : Int) = true
  · rw [if_pos h5, if_pos h5]; exact sh_num h p
  rw [if_neg h5, if_neg h5]
  exact sh_sign h p
theorem sh_alo (h : Cut S T a) (p : Nat) : shA a (aloA T p) = aloA S (a + p) := by
  unfold aloA
  rw [← sh_one h]
  cases oneA T p with
  | bad e q => rfl
  | ok k x n pp q =>
    show shA a (aloR T (.ok k x n pp q)) = aloR S (.ok k x n (a + pp) (a + q))
    by_cases hc : k ≠ 6 ∧ worB (atB T q : Int) = true
    · have hc2 : k ≠ 6 ∧ worB (atB S (a + q) : Int) = true := by rw [← cut_at h]; exact hc
      rw [alo_yes hc, alo_yes hc2]; rfl
    · have hc2 : ¬ (k ≠ 6 ∧ worB (atB S (a + q) : Int) = true) := by rw [← cut_at h]; exact hc
      rw [alo_no hc, alo_no hc2]; rfl
def shT (a : Nat) (t : TK) : TK := (t.1, t.2.1, t.2.2.1, a + t.2.2.2)
def shR (a : Nat) : Except (Nat × Nat) (List TK) → Except (Nat × Nat) (List TK)
  | .error e => .error (e.1, a + e.2)
  | .ok l => .ok (l.map (shT a))
theorem toksA_ok1 {S : ByteArray} {f p k n b q : Nat} {x : ByteArray} (h : p < S.size) (hA : aloA S p = .ok k x n b q) : toksA S (f + 1) p = (match toksA S f (q + sk ((bts S).drop q)) with | .ok l => .ok ((k, x, n, b) :: l) | .error e => .error e) := by
  rw [toksA, if_pos h, hA]
  simp only
  cases toksA S f (q + sk ((bts S).drop q)) <;> rfl
theorem sh_toks (h : Cut S T a) : ∀ (f p : Nat), shR a (toksA T f p) = toksA S f (a + p)
  | 0, p => rfl
  | f + 1, p => by
    have hs := cut_size h
    by_cases hp : p < T.size
    · have hp2 : a + p < S.size := by omega
      have ha := sh_alo h p
      cases hA : aloA T p with
      | bad e q =>
        rw [hA] at ha
        rw [toksA_bad hp hA, toksA_bad hp2 ha.symm]
        rfl
      | ok k x n b q =>
        rw [hA] at ha
        rw [toksA_ok1 hp hA, toksA_ok1 hp2 ha.symm]
        have ih := sh_toks h f (q + sk ((bts T).drop q))
        rw [cut_drop h, ← Nat.add_assoc] at ih
        rw [cut_drop h, ← ih]
        cases toksA T f (q + sk ((bts S).drop (a + q))) with
        | ok l => rfl
        | error e => rfl
    · have hp2 : ¬ a + p < S.size := by omega
      rw [toksA_end hp, toksA_end hp2]
      rfl
end
theorem toksA_fuel (S : ByteArray) : ∀ (f f' p : Nat), S.size < p + f → S.size < p + f' → toksA S f p = toksA S f' p
  | 0, f', p, h, h' => by
    cases f' with
    | zero => rfl
    | succ f' => rw [toksA_end (by omega)]; rfl
  | f + 1, 0, p, h, h' => by rw [toksA_end (by omega)]; rfl
  | f + 1, f' + 1, p, h, h' => by
    by_cases hp : p < S.size
    · have hg := good_alo S p hp
      cases hA : aloA S p with
      | bad e q => rw [toksA_bad hp hA, toksA_bad hp hA]
      | ok k x n b q =>
        have := hg.2 _ _ _ _ _ hA
        rw [toksA_ok1 hp hA, toksA_ok1 hp hA, toksA_fuel S f f' _ (by omega) (by omega)]
    · rw [toksA_end hp, toksA_end hp]
theorem sk_sk : ∀ (n : Nat) (l : List Nat), l.length ≤ n → sk (l.drop (sk l)) = 0
  | _, [], _ => by rw [sk_nil]; rfl
  | 0, c :: l, h => by simp at h
  | n + 1, c :: l, h => by
    simp only [List.length_cons] at h
    by_cases hb : blaB (c : Int) = true
    · rw [sk_bla hb, Nat.add_comm, List.drop_succ_cons]
      exact sk_sk n l (by omega)
    · by_cases h45 : c = 45 ∧ l.getD 0 0 = 45
      · have hp := rmk_pos (c := c) (l := l) (by omega)
        rw [sk_rem hb h45, ← List.drop_drop]
        refine sk_sk n _ ?_
        rw [List.length_drop, List.length_cons]
        omega
      · rw [sk_no hb h45, List.drop_zero, sk_no hb h45]
theorem sk_at (S : ByteArray) (q : Nat) : sk ((bts S).drop (q + sk ((bts S).drop q))) = 0 := by
  rw [← List.drop_drop]
  exact sk_sk _ _ (Nat.le_refl _)
/-- of tokens that are told: each begins in the text, behind the one ahead, and is told first from there on -/
theorem toks_each (S : ByteArray) : ∀ (f p : Nat) (l : List TK), S.size < p + f → sk ((bts S).drop p) = 0 → toksA S f p = .ok l →
    ∀ (i : Nat) (t : TK), l[i]? = some t → p ≤ t.2.2.2 ∧ t.2.2.2 < S.size ∧ sk ((bts S).drop t.2.2.2) = 0 ∧ (∀ f', S.size < t.2.2.2 + f' → toksA S f' t.2.2.2 = .ok (l.drop i)) ∧ (∀ i' t', i = i' + 1 → l[i']? = some t' → t'.2.2.2 < t.2.2.2)
  | 0, p, l, hf, hs, h => by
    injection h with h
    subst h
    intro i t ht
    simp at ht
  | f + 1, p, l, hf, hs, h => by
    by_cases hp : p < S.size
    · have hg := good_alo S p hp
      cases hA : aloA S p with
      | bad e q => rw [toksA_bad hp hA] at h; cases h
      | ok k x n b q =>
        obtain ⟨rfl, hq1, hq2⟩ := hg.2 _ _ _ _ _ hA
        have hall := h
        rw [toksA_ok1 hp hA] at h
        cases hr : toksA S f (q + sk ((bts S).drop q)) with
        | error e => rw [hr] at h; cases h
        | ok m =>
          rw [hr] at h
          injection h with h
          have ih := toks_each S f _ m (by omega) (sk_at S q) hr
          intro i t ht
          cases i with
          | zero =>
            rw [← h] at ht
            simp only [List.getElem?_cons_zero, Option.some.injEq] at ht
            subst ht
            exact ⟨Nat.le_refl _, hp, hs, fun f' hf' => by rw [toksA_fuel S f' (f + 1) _ hf' hf, hall, List.drop_zero], fun i' t' hi => by omega⟩
          | succ i =>
            rw [← h] at ht
            simp only [List.getElem?_cons_succ] at ht
            obtain ⟨g1, g2, g3, g4, g5⟩ := ih i t ht
            refine ⟨by omega, g2, g3, fun f' hf' => by rw [g4 f' hf', ← h, List.drop_succ_cons], fun i' t' hi ht' => ?_⟩
            obtain rfl : i = i' := by omega
            cases i with
            | zero =>
              rw [← h] at ht'
              simp only [List.getElem?_cons_zero, Option.some.injEq] at ht'
              subst ht'
              show b < t.2.2.2
              omega
            | succ i =>
              rw [← h] at ht'
              simp only [List.getElem?_cons_succ] at ht'
              exact g5 i t' rfl ht'
    · rw [toksA_end hp] at h
      injection h with h
      subst h
      intro i t ht
      simp at ht
theorem tokens_each {S : ByteArray} {l : List TK} (h : tokensA S = .ok l) {i : Nat} {t : TK} (ht : l[i]? = some t) : t.2.2.2 < S.size ∧ (∃ m, tokensA (S.extract t.2.2.2 S.size) = .ok m ∧ m.map (shT t.2.2.2) = l.drop i) ∧ (∀ i' t', i = i' + 1 → l[i']? = some t' → t'.2.2.2 < t.2.2.2) := by
  have hs := (tokensA_len h).1
  unfold tokensA at h
  rw [if_neg (by omega)] at h
  have h0 : sk ((bts S).drop (sk (bts S))) = 0 := sk_sk _ _ (Nat.le_refl _)
  obtain ⟨g1, g2, g3, g4, g5⟩ := toks_each S (S.size + 1) (sk (bts S)) l (by omega) h0 h i t ht
  refine ⟨g2, ?_, g5⟩
  have hc : Cut S (S.extract t.2.2.2 S.size) t.2.2.2 := ⟨bts_cutr S _, by omega⟩
  have hz := cut_size hc
  have h1 := sh_toks hc ((S.extract t.2.2.2 S.size).size + 1) 0
  simp only [Nat.add_zero] at h1
  rw [g4 _ (by omega)] at h1
  unfold tokensA
  rw [if_neg (by omega), hc.1, g3]
  cases hr : toksA (S.extract t.2.2.2 S.size) ((S.extract t.2.2.2 S.size).size + 1) 0 with
  | error e => rw [hr] at h1; cases h1
  | ok m =>
    rw [hr] at h1
    injection h1 with h1
    exact ⟨m, rfl, h1⟩
theorem toksA_err (S : ByteArray) : ∀ (f p : Nat) (e q : Nat), toksA S f p = .error (e, q) → e ≠ 0 ∧ q ≤ S.size
  | 0, p, e, q, h => by cases h
  | f + 1, p, e, q, h => by
    by_cases hp : p < S.size
    · have hg := good_alo S p hp
      cases hA : aloA S p with
      | bad e' q' =>
        rw [toksA_bad hp hA] at h
        injection h with h
        injection h with h1 h2
        subst h1 h2
        exact hg.1 _ _ hA
      | ok k x n b q' =>
        rw [toksA_ok1 hp hA] at h
        cases hr : toksA S f (q' + sk ((bts S).drop q')) with
        | ok m => rw [hr] at h; cases h
        | error e' =>
          rw [hr] at h
          injection h with h
          subst h
          exact toksA_err S f _ e q hr
    · rw [toksA_end hp] at h; cases h
theorem tokensA_err {S : ByteArray} {e q : Nat} (h : tokensA S = .error (e, q)) : e ≠ 0 ∧ q ≤ S.size := by
  unfold tokensA at h
  by_cases hs : 4096 < S.size
  · rw [if_pos hs] at h
    injection h with h
    injection h with h1 h2
    omega
  · rw [if_neg hs] at h
    exact toksA_err S _ _ e q h
end Go.Proofs.YtibnmkjabpoppaaGreatDoor
