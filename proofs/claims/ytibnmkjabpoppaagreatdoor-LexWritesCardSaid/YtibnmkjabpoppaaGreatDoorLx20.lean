/- Layer 13: the token that the reader takes; all tokens of a text (plain mathematics). Conditions: those of each lemma. -/
import Derived.Test.YtibnmkjabpoppaaGreatDoorLx19
namespace Go.Proofs.YtibnmkjabpoppaaGreatDoor
open Go Go.RowKit
set_option linter.unusedVariables false
set_option linter.unusedSimpArgs false
def aloA (S : ByteArray) (p : Nat) : An := aloR S (oneA S p)
theorem bad_long {k : Nat} {x : List Nat} {p q0 e q : Nat} (h : longA k x p q0 = .bad e q) : e = 3 ∧ q = p := by
  unfold longA at h
  by_cases hb : 1000 < (bstr x).size
  · rw [if_pos hb] at h; injection h with h1 h2; exact ⟨h1.symm, h2.symm⟩
  · rw [if_neg hb] at h; cases h
theorem ok_long {k : Nat} {x : List Nat} {p q0 : Nat} {k' : Nat} {y : ByteArray} {n a q : Nat} (h : longA k x p q0 = .ok k' y n a q) : k' = k ∧ y = bstr x ∧ n = 0 ∧ a = p ∧ q = q0 ∧ (bstr x).size ≤ 1000 := by
  unfold longA at h
  by_cases hb : 1000 < (bstr x).size
  · rw [if_pos hb] at h; cases h
  · rw [if_neg hb] at h; injection h with h1 h2 h3 h4 h5; exact ⟨h1.symm, h2.symm, h3.symm, h4.symm, h5.symm, by omega⟩
theorem utx_pos : ∀ (n : Nat) (l : List Nat) (r : List Nat × Nat), l.length ≤ n → utx l = some r → 1 ≤ r.2 ∧ r.2 ≤ l.length
  | 0, [], r, _, h => by cases h
  | 0, c :: l, r, hn, h => by simp at hn
  | n + 1, [], r, _, h => by cases h
  | n + 1, c :: l, r, hn, h => by
    simp only [List.length_cons] at hn ⊢
    by_cases hc : c = 39
    · subst hc
      by_cases hd : l.getD 0 0 = 39
      · match l with
        | [] => simp at hd
        | d :: l =>
          simp only [List.getD_cons_zero] at hd
          subst hd
          rw [utx_two] at h
          obtain ⟨u, hu, rfl⟩ := Option.map_eq_some_iff.1 h
          have := utx_pos n l u (by simp at hn; omega) hu
          simp only [List.length_cons]
          omega
      · rw [utx_end hd] at h
        injection h with h
        subst h
        simp only
        omega
    · rw [utx_char hc] at h
      obtain ⟨u, hu, rfl⟩ := Option.map_eq_some_iff.1 h
      have := utx_pos n l u (by omega) hu
      simp only
      omega
theorem ubl_pos : ∀ (n : Nat) (l : List Nat), l.length ≤ n → (∀ r, ubl l = .ok r → 1 ≤ r.2 ∧ r.2 ≤ l.length) ∧ (∀ k, ubl l = .error k → k ≤ l.length)
  | n, [], _ => ⟨fun r h => by simp [ubl] at h, fun k h => by simp [ubl] at h; omega⟩
  | 0, c :: l, hn => by simp at hn
  | n + 1, c :: l, hn => by
    simp only [List.length_cons] at hn ⊢
    by_cases hc : c = 39
    · subst hc
      rw [ubl_end]
      exact ⟨fun r h => by injection h with h; subst h; simp only; omega, fun k h => by cases h⟩
    · cases hx : hexd c with
      | none =>
        rw [ubl_0 hc hx]
        exact ⟨fun r h => (by cases h), fun k h => by injection h with h; omega⟩
      | some a =>
        cases hy : hexd (l.getD 0 0) with
        | none =>
          rw [ubl_1 hc hx hy]
          exact ⟨fun r h => (by cases h), fun k h => by injection h with h; omega⟩
        | some b =>
          match l with
          | [] => simp [hexd] at hy
          | d :: l =>
            simp only [List.getD_cons_zero] at hy
            have ih := ubl_pos n l (by simp at hn; omega)
            rw [ubl_2 hc hx hy]
            simp only [List.length_cons]
            cases hu : ubl l with
            | ok u =>
              refine ⟨fun r h => ?_, fun k h => by cases h⟩
              injection h with h
              subst h
              have := ih.1 u hu
              simp only
              omega
            | error u =>
              refine ⟨fun r h => (by cases h), fun k h => ?_⟩
              injection h with h
              have := ih.2 u hu
              omega
theorem rsc_fst (l : List Nat) : (rsc l).1 ≤ wl l := by
  rw [rsc_eq]
  exact List.IsPrefix.length_le (List.takeWhile_prefix _)
theorem rsc_no {l : List Nat} (h : ¬ (rsc l).2 = true) : (rsc l).1 = wl l := by
  have h1 := rsc_fst l
  rw [rsc_eq] at h h1 ⊢
  simp only [decide_eq_true_eq] at h h1 ⊢
  omega
theorem cap_wor {c : Int} (h : capB c = true) : worB c = true := by unfold worB; rw [h]; simp
theorem sma_wor {c : Int} (h : smaB c = true) : worB c = true := by unfold worB; rw [h]; simp
theorem wl_drop (S : ByteArray) (p : Nat) (hp : p < S.size) (h : worB (atB S p : Int) = true) : 1 ≤ wl ((bts S).drop p) := by
  rw [drop_at S p hp, wl_yes h]; omega
theorem wl_size (S : ByteArray) (p : Nat) (hp : p ≤ S.size) : p + wl ((bts S).drop p) ≤ S.size := by
  have := wl_le ((bts S).drop p)
  rw [List.length_drop, bts_length] at this
  omega
theorem dl_size (S : ByteArray) (p : Nat) (hp : p ≤ S.size) : p + dl ((bts S).drop p) ≤ S.size := by
  have := dl_le ((bts S).drop p)
  rw [List.length_drop, bts_length] at this
  omega
/-- an error is one, its place is not behind the text's end; a token has at least one byte -/
def Good (S : ByteArray) (p : Nat) (A : An) : Prop := (∀ e q, A = .bad e q → e ≠ 0 ∧ q ≤ S.size) ∧ (∀ k x n a q, A = .ok k x n a q → a = p ∧ p < q ∧ q ≤ S.size)
theorem good_bad {S : ByteArray} {p e q : Nat} (he : e ≠ 0) (hq : q ≤ S.size) : Good S p (.bad e q) := ⟨fun e' q' h => by injection h with h1 h2; subst h1 h2; exact ⟨he, hq⟩, fun k x n a q h => by cases h⟩
theorem good_ok {S : ByteArray} {p k n q : Nat} {x : ByteArray} (h1 : p < q) (h2 : q ≤ S.size) : Good S p (.ok k x n p q) := ⟨fun e' q' h => (by cases h), fun k x n a q h => by injection h with e1 e2 e3 e4 e5; subst e4 e5; exact ⟨rfl, h1, h2⟩⟩
theorem good_long {S : ByteArray} {p k q : Nat} {x : List Nat} (h1 : p < q) (h2 : q ≤ S.size) : Good S p (longA k x p q) := by
  unfold longA
  by_cases hb : 1000 < (bstr x).size
  · rw [if_pos hb]; exact good_bad (by omega) (by omega)
  · rw [if_neg hb]; exact good_ok h1 h2
theorem good_text (S : ByteArray) (p : Nat) (hp : p < S.size) : Good S p (textA S p) := by
  unfold textA
  cases h : utx ((bts S).drop (p + 1)) with
  | none => exact good_bad (by omega) (Nat.le_refl _)
  | some r =>
    have := utx_pos _ _ r (Nat.le_refl _) h
    rw [List.length_drop, bts_length] at this
    show Good S p (longA 4 _ p (p + 1 + r.2))
    exact good_long (by omega) (by omega)
theorem good_blob (S : ByteArray) (p : Nat) (hp : p + 1 < S.size) : Good S p (blobA S p) := by
  unfold blobA
  have hu := ubl_pos _ _ (Nat.le_refl ((bts S).drop (p + 2)).length)
  rw [List.length_drop, bts_length] at hu
  cases h : ubl ((bts S).drop (p + 2)) with
  | error k =>
    have := hu.2 k h
    exact good_bad (by omega) (by omega)
  | ok r =>
    have := hu.1 r h
    show Good S p (longA 5 _ p (p + 2 + r.2))
    exact good_long (by omega) (by omega)
theorem good_word (S : ByteArray) (p : Nat) (hp : p < S.size) (h : capB (atB S p : Int) = true) : Good S p (wordA S p) := by
  have h1 := wl_drop S p hp (cap_wor h)
  have h2 := wl_size S p (by omega)
  unfold wordA
  by_cases hb : isIn wordsB (S.extract p (p + wl ((bts S).drop p))) = true
  · rw [if_pos hb]; exact good_ok (by omega) h2
  · rw [if_neg hb]; exact good_bad (by omega) (by omega)
theorem good_name (S : ByteArray) (p : Nat) (hp : p < S.size) (h : smaB (atB S p : Int) = true) : Good S p (nameA S p) := by
  have h1 := wl_drop S p hp (sma_wor h)
  have h2 := wl_size S p (by omega)
  have h3 := rsc_fst ((bts S).drop p)
  unfold nameA
  by_cases hb : (rsc ((bts S).drop p)).2 = true
  · rw [if_pos hb]; exact good_bad (by omega) (by omega)
  · rw [if_neg hb]
    have h4 := rsc_no hb
    by_cases hc : 32 < (rsc ((bts S).drop p)).1
    · rw [if_pos hc]; exact good_bad (by omega) (by omega)
    · rw [if_neg hc]; exact good_ok (by omega) (by omega)
theorem good_num (S : ByteArray) (p : Nat) (hp : p < S.size) (h : digB (atB S p : Int) = true) : Good S p (numA S p) := by
  have h1 : 1 ≤ dl ((bts S).drop p) := by rw [drop_at S p hp, dl_yes h]; omega
  have h2 := dl_size S p (by omega)
  unfold numA numR
  generalize hv : vd 0 (((bts S).drop p).take (dl ((bts S).drop p))) = v
  by_cases hb : (atB S p == 48) = true ∧ p + 1 < p + dl ((bts S).drop p)
  · rw [if_pos hb]; exact good_bad (by omega) (by omega)
  · rw [if_neg hb]
    by_cases hc : 9223372036854775808 < v
    · rw [if_pos hc]; exact good_bad (by omega) (by omega)
    · rw [if_neg hc]; exact good_ok (by omega) (by omega)
theorem good_sign (S : ByteArray) (p : Nat) (hp : p < S.size) : Good S p (signA S p) := by
  rw [signA_ref S p hp]
  by_cases h2 : p + 2 ≤ S.size ∧ isIn signs2 (S.extract p (p + 2)) = true
  · rw [if_pos h2]; exact good_ok (by omega) h2.1
  · rw [if_neg h2]
    by_cases h1 : isIn signs1 (S.extract p (p + 1)) = true
    · rw [if_pos h1]; exact good_ok (by omega) (by omega)
    · rw [if_neg h1]; exact good_bad (by omega) (by omega)
theorem in_of_39 {S : ByteArray} {p : Nat} (h : atB S p = 39) : p < S.size := by
  refine Nat.lt_of_not_le fun hh => ?_
  rw [atB_end S p hh] at h
  exact absurd h (by decide)
theorem good_one (S : ByteArray) (p : Nat) (hp : p < S.size) : Good S p (oneA S p) := by
  unfold oneA
  by_cases h1 : atB S p = 39
  · rw [if_pos h1]; exact good_text S p hp
  rw [if_neg h1]
  by_cases h2 : atB S p = 120 ∧ atB S (p + 1) = 39
  · rw [if_pos h2]; exact good_blob S p (in_of_39 h2.2)
  rw [if_neg h2]
  by_cases h3 : capB (atB S p : Int) = true
  · rw [if_pos h3]; exact good_word S p hp h3
  rw [if_neg h3]
  by_cases h4 : smaB (atB S p : Int) = true
  · rw [if_pos h4]; exact good_name S p hp h4
  rw [if_neg h4]
  by_cases h5 : digB (atB S p : Int) = true
  · rw [if_pos h5]; exact good_num S p hp h5
  rw [if_neg h5]
  exact good_sign S p hp
theorem good_alo (S : ByteArray) (p : Nat) (hp : p < S.size) : Good S p (aloA S p) := by
  unfold aloA
  have h := good_one S p hp
  cases hA : oneA S p with
  | bad e q => rw [hA] at h; exact h
  | ok k x n a q =>
    rw [hA] at h
    obtain ⟨rfl, h2, h3⟩ := h.2 _ _ _ _ _ rfl
    by_cases hc : k ≠ 6 ∧ worB (atB S q : Int) = true
    · rw [alo_yes hc]; exact good_bad (by omega) h3
    · rw [alo_no hc]; exact good_ok h2 h3
theorem word_tk (g : Nat) (S : ByteArray) (p : Nat) (h0 : g ≠ 1) (h1 : g ≠ 0) (hp : p ≤ S.size) (hS : S.size ≤ 140737488351232) (W : World) (hr : Rd W g S p) (hT : Tb W) (hE : Er W) : Calls Tryz.prog 43 #[.pointer (some ⟨g, 0, none⟩)] W (Tk S g (wordA S p) W) := by
  refine (word_any g S p W hr hT h0 h1 hp hS).mono ?_
  rintro r w' ⟨rfl, h2, h3⟩
  refine ⟨by rw [anT_word], ⟨_, h2, fun m hm => ?_⟩, h3⟩
  unfold wordA at hm
  by_cases hb : isIn wordsB (S.extract p (p + wl ((bts S).drop p))) = true
  · rw [if_pos hb] at hm; exact Option.some.inj hm
  · rw [if_neg hb] at hm; cases hm
theorem sign_tk (g : Nat) (S : ByteArray) (p : Nat) (hp : p ≤ S.size) (hS : S.size ≤ 140737488351232) (W : World) (hr : Rd W g S p) (hT : Tb W) (hE : Er W) : Calls Tryz.prog 50 #[.pointer (some ⟨g, 0, none⟩)] W (Tk S g (signA S p) W) := by
  refine (sign_any g S p W hr hT hp hS).mono ?_
  rintro r w' ⟨rfl, h2, h3⟩
  refine ⟨by rw [anT_sign], ⟨_, h2, fun m hm => ?_⟩, h3⟩
  unfold signA signR at hm
  by_cases hb : (sgn signsB (S.extract p S.size)).size = 0
  · rw [if_pos hb] at hm; cases hm
  · rw [if_neg hb] at hm; exact Option.some.inj hm
theorem name_tk (g : Nat) (S : ByteArray) (p : Nat) (h0 : g ≠ 1) (h1 : g ≠ 0) (hp : p ≤ S.size) (hS : S.size ≤ 140737488351232) (W : World) (hr : Rd W g S p) (hT : Tb W) (hE : Er W) : Calls Tryz.prog 46 #[.pointer (some ⟨g, 0, none⟩)] W (Tk S g (nameA S p) W) := by
  refine (name_any g S p W hr hT h0 h1 hp hS).mono ?_
  rintro r w' ⟨rfl, h2, h3⟩
  refine ⟨by rw [anT_name S p hp], ⟨_, h2, fun m hm => ?_⟩, h3⟩
  unfold nameA at hm
  by_cases hb : (rsc ((bts S).drop p)).2 = true
  · rw [if_pos hb] at hm; cases hm
  · rw [if_neg hb] at hm
    have h4 := rsc_no hb
    by_cases hc : 32 < (rsc ((bts S).drop p)).1
    · rw [if_pos hc] at hm; cases hm
    · rw [if_neg hc] at hm
      have := Option.some.inj hm
      omega
theorem alone_at (g : Nat) (S : ByteArray) (p : Nat) (w : World) (h : Rd w g S p) (hT : Tb w) (hE : Er w) (h0 : g ≠ 1) (h1 : g ≠ 0) (h2 : g ≠ 7) (hp : p < S.size) (hS : S.size ≤ 140737488351232) :
    Calls Tryz.prog 16 #[.pointer (some ⟨g, 0, none⟩), .func (.func (kindF (atB S p) (atB S (p + 1)))) #[.pointer (some ⟨g, 0, none⟩)] #[]] w (Tk S g (aloA S p) w) := by
  have hg := good_one S p hp
  have hA : ∀ e q, oneA S p = .bad e q → e ≠ 0 := fun e q hh => (hg.1 e q hh).1
  unfold aloA
  by_cases c1 : capB (atB S p : Int) = true
  · have n39 : ¬ atB S p = 39 := fun e => by rw [e] at c1; exact absurd c1 (by decide)
    have n120 : ¬ (atB S p = 120 ∧ atB S (p + 1) = 39) := fun e => by rw [e.1] at c1; exact absurd c1 (by decide)
    have e1 : oneA S p = wordA S p := by unfold oneA; rw [if_neg n39, if_neg n120, if_pos c1]
    have e2 : kindF (atB S p) (atB S (p + 1)) = 43 := by unfold kindF; rw [if_pos c1]
    rw [e1] at hA ⊢
    rw [e2]
    exact alone_word g S p _ w h hT hE hA (word_tk g S p h0 h1 (by omega) hS)
  by_cases c2 : atB S p = 120 ∧ atB S (p + 1) = 39
  · have n39 : ¬ atB S p = 39 := by omega
    have e1 : oneA S p = blobA S p := by unfold oneA; rw [if_neg n39, if_pos c2]
    have e2 : kindF (atB S p) (atB S (p + 1)) = 44 := by unfold kindF; rw [if_neg c1, if_pos c2]
    rw [e1] at hA ⊢
    rw [e2]
    exact alone_blob g S p _ w h hT hE hA (fun W hr _ _ => blob_any g S p W hr (in_of_39 c2.2) hS)
  by_cases c3 : smaB (atB S p : Int) = true
  · have n39 : ¬ atB S p = 39 := fun e => by rw [e] at c3; exact absurd c3 (by decide)
    have e1 : oneA S p = nameA S p := by unfold oneA; rw [if_neg n39, if_neg c2, if_neg c1, if_pos c3]
    have e2 : kindF (atB S p) (atB S (p + 1)) = 46 := by unfold kindF; rw [if_neg c1, if_neg c2, if_pos c3]
    rw [e1] at hA ⊢
    rw [e2]
    exact alone_name g S p _ w h hT hE hA (name_tk g S p h0 h1 (by omega) hS)
  by_cases c4 : digB (atB S p : Int) = true
  · have n39 : ¬ atB S p = 39 := fun e => by rw [e] at c4; exact absurd c4 (by decide)
    have e1 : oneA S p = numA S p := by unfold oneA; rw [if_neg n39, if_neg c2, if_neg c1, if_neg c3, if_pos c4]
    have e2 : kindF (atB S p) (atB S (p + 1)) = 48 := by unfold kindF; rw [if_neg c1, if_neg c2, if_neg c3, if_pos c4]
    rw [e1] at hA ⊢
    rw [e2]
    exact alone_number g S p _ w h hT hE hA (fun W hr _ he => number_any g S p W hr he h2 hp c4 hS)
  by_cases c5 : atB S p = 39
  · have e1 : oneA S p = textA S p := by unfold oneA; rw [if_pos c5]
    have e2 : kindF (atB S p) (atB S (p + 1)) = 49 := by unfold kindF; rw [if_neg c1, if_neg c2, if_neg c3, if_neg c4, if_pos c5]
    rw [e1] at hA ⊢
    rw [e2]
    exact alone_text g S p _ w h hT hE hA (fun W hr _ _ => text_any g S p W hr hp hS)
  have e1 : oneA S p = signA S p := by unfold oneA; rw [if_neg c5, if_neg c2, if_neg c1, if_neg c3, if_neg c4]
  have e2 : kindF (atB S p) (atB S (p + 1)) = 50 := by unfold kindF; rw [if_neg c1, if_neg c2, if_neg c3, if_neg c4, if_neg c5]
  rw [e1] at hA ⊢
  rw [e2]
  exact alone_sign g S p _ w h hT hE hA (sign_tk g S p (by omega) hS)
/-- a token: kind, text, number, place -/
abbrev TK := Nat × ByteArray × Nat × Nat
/-- all tokens from a place on, or the first error -/
def toksA (S : ByteArray) : Nat → Nat → Except (Nat × Nat) (List TK)
  | 0, _ => .ok []
  | f + 1, p => if p < S.size then (match aloA S p with
      | .bad e q => .error (e, q)
      | .ok k x n a q => (match toksA S f (q + sk ((bts S).drop q)) with | .ok l => .ok ((k, x, n, a) :: l) | .error e => .error e)) else .ok []
def toksj (acc : List TK) : Except (Nat × Nat) (List TK) → Except (Nat × Nat) (List TK)
  | .ok l => .ok (acc ++ l)
  | .error e => .error e
def tokensA (S : ByteArray) : Except (Nat × Nat) (List TK) := if 4096 < S.size then .error (3, 4096) else toksA S (S.size + 1) (sk (bts S))
theorem toksA_end {S : ByteArray} {f p : Nat} (h : ¬ p < S.size) : toksA S (f + 1) p = .ok [] := if_neg h
theorem toksA_bad {S : ByteArray} {f p e q : Nat} (h : p < S.size) (hA : aloA S p = .bad e q) : toksA S (f + 1) p = .error (e, q) := by
  rw [toksA, if_pos h, hA]
theorem toksA_ok {S : ByteArray} {f p k n a q : Nat} {x : ByteArray} (h : p < S.size) (hA : aloA S p = .ok k x n a q) (acc : List TK) : toksj acc (toksA S (f + 1) p) = toksj (acc ++ [(k, x, n, a)]) (toksA S f (q + sk ((bts S).drop q))) := by
  rw [toksA, if_pos h, hA]
  simp only
  cases toksA S f (q + sk ((bts S).drop q)) with
  | ok l => simp [toksj]
  | error e => rfl
theorem skp_le : ∀ (f : Nat) (l : List Nat), skp f l ≤ l.length
  | 0, l => Nat.zero_le _
  | f + 1, [] => Nat.le_refl _
  | f + 1, c :: l => by
    rw [skp]
    split
    · have := skp_le f l
      simp only [List.length_cons]
      omega
    · split
      · have h1 := skp_le f ((c :: l).drop (rmk (c :: l)))
        rw [List.length_drop] at h1
        have h2 := rmk_le (c :: l)
        omega
      · exact Nat.zero_le _
theorem sk_size (S : ByteArray) (q : Nat) (hq : q ≤ S.size) : q + sk ((bts S).drop q) ≤ S.size := by
  have := skp_le ((bts S).drop q).length ((bts S).drop q)
  rw [List.length_drop, bts_length] at this
  unfold sk
  rw [List.length_drop, bts_length]
  omega
end Go.Proofs.YtibnmkjabpoppaaGreatDoor
