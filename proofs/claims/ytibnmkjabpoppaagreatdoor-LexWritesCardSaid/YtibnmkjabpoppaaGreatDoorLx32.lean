/- Layer 13: what is written is read as it was (plain mathematics). Conditions: those of each lemma. -/
import Derived.Test.YtibnmkjabpoppaaGreatDoorLx31
namespace Go.Proofs.YtibnmkjabpoppaaGreatDoor
open Go Go.RowKit
set_option linter.unusedVariables false
set_option linter.unusedSimpArgs false
/-- behind a token: the end, or a blank -/
def Sep (r : List Nat) : Prop := r = [] ∨ ∃ c u, r = c :: u ∧ blaB (c : Int) = true
theorem bla_nat {c : Nat} (h : blaB (c : Int) = true) : c = 32 ∨ c = 9 ∨ c = 10 ∨ c = 13 := by
  unfold blaB at h
  simp at h
  omega
theorem sep_hd {r : List Nat} (h : Sep r) : r.getD 0 0 = 0 ∨ r.getD 0 0 = 32 ∨ r.getD 0 0 = 9 ∨ r.getD 0 0 = 10 ∨ r.getD 0 0 = 13 := by
  rcases h with rfl | ⟨c, u, rfl, hb⟩
  · exact .inl rfl
  · have := bla_nat hb
    rw [List.getD_cons_zero]
    omega
theorem sep_wor {r : List Nat} (h : Sep r) : worB (r.getD 0 0 : Int) = false := by
  rcases sep_hd h with e | e | e | e | e <;> rw [e] <;> decide
theorem sep_dig {r : List Nat} (h : Sep r) : digB (r.getD 0 0 : Int) = false := by
  rcases sep_hd h with e | e | e | e | e <;> rw [e] <;> decide
theorem wl_app : ∀ (l r : List Nat), (∀ c ∈ l, worB (c : Int) = true) → Sep r → wl (l ++ r) = l.length
  | [], r, _, hs => by
    rcases hs with rfl | ⟨c, u, rfl, hb⟩
    · rfl
    · have hw := sep_wor (.inr ⟨c, u, rfl, hb⟩ : Sep (c :: u))
      rw [List.getD_cons_zero] at hw
      exact wl_no hw
  | c :: l, r, h, hs => by
    rw [List.cons_append, wl_yes (h c (by simp)), wl_app l r (fun x hx => h x (by simp [hx])) hs, List.length_cons]
    omega
theorem dl_app : ∀ (l r : List Nat), (∀ c ∈ l, digB (c : Int) = true) → Sep r → dl (l ++ r) = l.length
  | [], r, _, hs => by
    rcases hs with rfl | ⟨c, u, rfl, hb⟩
    · rfl
    · have hw := sep_dig (.inr ⟨c, u, rfl, hb⟩ : Sep (c :: u))
      rw [List.getD_cons_zero] at hw
      exact dl_no hw
  | c :: l, r, h, hs => by
    rw [List.cons_append, dl_yes (h c (by simp)), dl_app l r (fun x hx => h x (by simp [hx])) hs, List.length_cons]
    omega
theorem rsc_app : ∀ (l r : List Nat), (∀ c ∈ l, worB (c : Int) = true ∧ capB (c : Int) = false) → Sep r → rsc (l ++ r) = (l.length, false)
  | [], r, _, hs => by
    rcases hs with rfl | ⟨c, u, rfl, hb⟩
    · rfl
    · have hw := sep_wor (.inr ⟨c, u, rfl, hb⟩ : Sep (c :: u))
      rw [List.getD_cons_zero] at hw
      rw [List.nil_append, rsc, if_pos hw]
      rfl
  | c :: l, r, h, hs => by
    obtain ⟨h1, h2⟩ := h c (by simp)
    rw [List.cons_append, rsc, if_neg (by rw [h1]; decide), if_neg (by rw [h2]; decide), rsc_app l r (fun x hx => h x (by simp [hx])) hs, List.length_cons]
    simp
    omega
theorem utx_dq : ∀ (l r : List Nat), r.getD 0 0 ≠ 39 → utx (dqL l ++ 39 :: r) = some (l, (dqL l).length + 1)
  | [], r, h => utx_end h
  | c :: l, r, h => by
    have ih := utx_dq l r h
    rw [dqL]
    by_cases hc : c = 39
    · subst hc
      rw [if_pos rfl, List.cons_append, List.cons_append, utx_two, ih]
      simp
    · rw [if_neg hc, List.cons_append, utx_char hc, ih]
      simp
theorem ubl_hex : ∀ (l r : List Nat), (∀ c ∈ l, c < 256) → ubl (hexL l ++ 39 :: r) = .ok (l, (hexL l).length + 1)
  | [], r, _ => ubl_end r
  | c :: l, r, h => by
    have ih := ubl_hex l r (fun x hx => h x (by simp [hx]))
    have hc := h c (by simp)
    rw [hexL, List.cons_append, List.cons_append, ubl_2 (hexc_ne _ (by omega)) (hexd_hexc _ (by omega)) (hexd_hexc _ (by omega)), ih]
    simp
    omega
theorem vd_snoc (l : List Nat) (acc c : Nat) : vd acc (l ++ [c]) = 10 * vd acc l + (c - 48) := by unfold vd; rw [List.foldl_append]; rfl
/-- a number's digits tell it, and do not begin with 0 but for 0 -/
theorem dec_all : ∀ n : Nat, (∀ c ∈ decL n, digB (c : Int) = true) ∧ vd 0 (decL n) = n ∧ decL n ≠ [] ∧ ((decL n).getD 0 0 = 48 → n = 0) := by
  intro n
  induction n using Nat.strongRecOn with
  | ind n ih =>
    by_cases h : n < 10
    · have e : decL n = [48 + n] := by
        unfold decL
        rw [Lib.decDigits, dif_pos h]
        simp
        omega
      rw [e]
      refine ⟨?_, ?_, by simp, ?_⟩
      · intro c hc
        rw [List.mem_singleton.1 hc]
        unfold digB
        simp
        omega
      · show 10 * 0 + (48 + n - 48) = n
        omega
      · rw [List.getD_cons_zero]; omega
    · have e : decL n = decL (n / 10) ++ [48 + n % 10] := by
        unfold decL
        rw [Lib.decDigits, dif_neg h]
        simp
        omega
      obtain ⟨h1, h2, h3, h4⟩ := ih (n / 10) (by omega)
      rw [e]
      refine ⟨?_, ?_, by simp, ?_⟩
      · intro c hc
        rcases List.mem_append.1 hc with hc | hc
        · exact h1 c hc
        · rw [List.mem_singleton.1 hc]
          unfold digB
          simp
          omega
      · rw [vd_snoc, h2]; omega
      · intro h0
        have : (decL (n / 10)).getD 0 0 = 48 := by
          cases hd : decL (n / 10) with
          | nil => exact absurd hd h3
          | cons a l => rw [hd] at h0; simpa using h0
        have := h4 this
        omega
theorem at_hd {S : ByteArray} {p : Nat} {L : List Nat} (h : (bts S).drop p = L) : atB S p = L.getD 0 0 := by rw [← drop_hd, h]
theorem at_nx {S : ByteArray} {p k : Nat} {L : List Nat} (h : (bts S).drop p = L) : atB S (p + k) = L.getD k 0 := by
  have h2 : (bts S).drop (p + k) = L.drop k := by rw [← List.drop_drop, h]
  rw [at_hd h2, List.getD_eq_getElem?_getD, List.getElem?_drop, Nat.add_zero, ← List.getD_eq_getElem?_getD]
theorem dr_nx {S : ByteArray} {p : Nat} {a b : List Nat} (h : (bts S).drop p = a ++ b) : (bts S).drop (p + a.length) = b := by
  rw [← List.drop_drop, h, List.drop_append_of_le_length (Nat.le_refl _), List.drop_length, List.nil_append]
theorem ex_tk {S : ByteArray} {p : Nat} {x : ByteArray} {r : List Nat} (h : (bts S).drop p = bts x ++ r) : S.extract p (p + x.size) = x := by
  apply bts_inj
  rw [bts_ex, h, ← bts_length x, List.take_append_of_le_length (Nat.le_refl _), List.take_length]
theorem in_tk {S : ByteArray} {p : Nat} {x : List Nat} {r : List Nat} (h : (bts S).drop p = x ++ r) (hx : x ≠ []) : p < S.size := by
  have hl := congrArg List.length h
  rw [List.length_drop, bts_length, List.length_append] at hl
  have : 0 < x.length := by
    cases x with
    | nil => exact absurd rfl hx
    | cons a l => simp
  omega
theorem words_cap : (wordsB.all fun x => decide (0 < x.size) && (bts x).all fun c => capB (c : Int)) = true := by decide +kernel
theorem words_each {x : ByteArray} (h : isIn wordsB x = true) : bts x ≠ [] ∧ ∀ c ∈ bts x, capB (c : Int) = true := by
  rw [isIn_iff] at h
  have := List.all_eq_true.1 words_cap x h
  rw [Bool.and_eq_true, decide_eq_true_eq, List.all_eq_true] at this
  refine ⟨fun e => ?_, this.2⟩
  have h2 := bts_length x
  rw [e] at h2
  simp at h2
  omega
theorem nm_each {x : ByteArray} (h : isNm x = true) : bts x ≠ [] ∧ smaB ((bts x).getD 0 0 : Int) = true ∧ x.size ≤ 32 ∧ ∀ c ∈ bts x, worB (c : Int) = true ∧ capB (c : Int) = false := by
  unfold isNm at h
  by_cases h0 : x.size = 0
  · rw [if_pos h0] at h; cases h
  · rw [if_neg h0, Bool.and_eq_true, Bool.and_eq_true, decide_eq_true_eq] at h
    refine ⟨fun e => ?_, h.1, h.2.1, fun c hc => ?_⟩
    · have h2 := bts_length x
      rw [e] at h2
      exact h0 h2.symm
    · have := List.all_eq_true.1 h.2.2 c hc
      simpa using this
theorem hd_mem {l : List Nat} (h : l ≠ []) (r : List Nat) : (l ++ r).getD 0 0 ∈ l := by
  cases l with
  | nil => exact absurd rfl h
  | cons a l => simp
section
variable {S : ByteArray} {p : Nat} {x : ByteArray} {r : List Nat}
theorem rd_int {n : Nat} (h : (bts S).drop p = decL n ++ r) (hs : Sep r) (hn : n ≤ 9223372036854775808) : oneA S p = .ok 3 ⟨#[]⟩ n p (p + (decL n).length) := by
  obtain ⟨h1, h2, h3, h4⟩ := dec_all n
  have hc := at_hd h
  have hd := h1 _ (hd_mem h3 r)
  rw [← hc] at hd
  have hz : (decL n ++ r).getD 0 0 = (decL n).getD 0 0 := by
    cases hh : decL n with
    | nil => exact absurd hh h3
    | cons a l => rfl
  have hdn := dig_nat hd
  have n1 : ¬ atB S p = 39 := by omega
  have n2 : ¬ (atB S p = 120 ∧ atB S (p + 1) = 39) := by omega
  have n3 : ¬ capB (atB S p : Int) = true := by unfold capB; simp; omega
  have n4 : ¬ smaB (atB S p : Int) = true := by unfold smaB; simp; omega
  unfold oneA
  rw [if_neg n1, if_neg n2, if_neg n3, if_neg n4, if_pos hd]
  unfold numA numR
  rw [h, dl_app _ _ h1 hs, List.take_append_of_le_length (Nat.le_refl _), List.take_length, h2]
  have m1 : ¬ ((atB S p == 48) = true ∧ p + 1 < p + (decL n).length) := by
    rintro ⟨e1, e2⟩
    rw [hc, hz] at e1
    have h0 := h4 (by simpa using e1)
    subst h0
    have : decL 0 = [48] := by
      unfold decL
      rw [Lib.decDigits, dif_pos (by omega)]
      rfl
    rw [this] at e2
    simp at e2
  rw [if_neg m1, if_neg (by omega)]
theorem rd_word (h : (bts S).drop p = bts x ++ r) (hs : Sep r) (hx : isIn wordsB x = true) : oneA S p = .ok 1 x 0 p (p + x.size) := by
  obtain ⟨h0, h1⟩ := words_each hx
  have hc := at_hd h
  have hd := h1 _ (hd_mem h0 r)
  rw [← hc] at hd
  have n1 : ¬ atB S p = 39 := fun e => by rw [e] at hd; exact absurd hd (by decide)
  have n2 : ¬ (atB S p = 120 ∧ atB S (p + 1) = 39) := fun e => by rw [e.1] at hd; exact absurd hd (by decide)
  unfold oneA
  rw [if_neg n1, if_neg n2, if_pos hd]
  unfold wordA
  rw [h, wl_app _ _ (fun c hc => cap_wor (h1 c hc)) hs, bts_length, ex_tk h, if_pos hx]
theorem rd_name (h : (bts S).drop p = bts x ++ r) (hs : Sep r) (hx : isNm x = true) : oneA S p = .ok 2 x 0 p (p + x.size) := by
  obtain ⟨h0, h1, h2, h3⟩ := nm_each hx
  have hc := at_hd h
  have hz : (bts x ++ r).getD 0 0 = (bts x).getD 0 0 := by
    cases hh : bts x with
    | nil => exact absurd hh h0
    | cons a l => rfl
  rw [hz] at hc
  rw [← hc] at h1
  have n1 : ¬ atB S p = 39 := fun e => by rw [e] at h1; exact absurd h1 (by decide)
  have n2 : ¬ (atB S p = 120 ∧ atB S (p + 1) = 39) := by
    rintro ⟨_, e⟩
    rw [at_nx h] at e
    cases hh : bts x with
    | nil => exact absurd hh h0
    | cons a l =>
      rw [hh] at e
      cases l with
      | nil =>
        have e2 : r.getD 0 0 = 39 := by simpa using e
        rcases sep_hd hs with q | q | q | q | q <;> omega
      | cons b l =>
        have e2 : b = 39 := by simpa using e
        have := (h3 b (by rw [hh]; simp)).1
        rw [e2] at this
        exact absurd this (by decide)
  have n3 : ¬ capB (atB S p : Int) = true := by
    have := (h3 _ (hd_mem h0 r)).2
    rw [hz, ← hc] at this
    rw [this]
    decide
  unfold oneA
  rw [if_neg n1, if_neg n2, if_neg n3, if_pos h1]
  unfold nameA
  rw [h, rsc_app _ _ h3 hs, bts_length]
  simp only
  rw [if_neg (by decide), if_neg (by omega), ex_tk h]
theorem rd_text (h : (bts S).drop p = 39 :: (dqL (bts x) ++ 39 :: r)) (hs : Sep r) (hx : x.size ≤ 1000) : oneA S p = .ok 4 x 0 p (p + (1 + (dqL (bts x)).length + 1)) := by
  have hc : atB S p = 39 := at_hd h
  have hp : p < S.size := in_of_39 hc
  unfold oneA
  rw [if_pos hc]
  unfold textA
  have h2 : (bts S).drop (p + 1) = dqL (bts x) ++ 39 :: r := by rw [← List.drop_drop, h]; rfl
  rw [h2, utx_dq _ _ (by rcases sep_hd hs with q | q | q | q | q <;> omega)]
  show longA 4 ([] ++ bts x) p (p + 1 + ((dqL (bts x)).length + 1)) = _
  unfold longA
  rw [List.nil_append, bstr_bts, if_neg (by omega)]
  congr 1
  omega
theorem rd_blob (h : (bts S).drop p = 120 :: 39 :: (hexL (bts x) ++ 39 :: r)) (hx : x.size ≤ 1000) : oneA S p = .ok 5 x 0 p (p + (2 + (hexL (bts x)).length + 1)) := by
  have hc : atB S p = 120 := at_hd h
  have hc2 : atB S (p + 1) = 39 := at_nx h
  unfold oneA
  rw [if_neg (by omega), if_pos ⟨hc, hc2⟩]
  unfold blobA
  have h2 : (bts S).drop (p + 2) = hexL (bts x) ++ 39 :: r := by rw [← List.drop_drop, h]; rfl
  rw [h2, ubl_hex _ _ (bts_lt x)]
  show longA 5 ([] ++ bts x) p (p + 2 + ((hexL (bts x)).length + 1)) = _
  unfold longA
  rw [List.nil_append, bstr_bts, if_neg (by omega)]
  congr 1
  omega
end
theorem sgn_mem {s x : ByteArray} (h : sgn signsB s = x) (h0 : x.size ≠ 0) : x ∈ signsB := by
  unfold sgn at h
  cases hf : signsB.find? (preB s) with
  | none => rw [hf] at h; subst h; exact absurd rfl h0
  | some y =>
    rw [hf] at h
    simp only [Option.getD_some] at h
    subst h
    exact List.mem_of_find?_eq_some hf
theorem signs_ok : (signsB.all fun x => decide (sgn signsB x = x)) = true := by decide +kernel
theorem sgn_self {x : ByteArray} (h : x ∈ signsB) : sgn signsB x = x := by simpa using List.all_eq_true.1 signs_ok x h
theorem signs_hd : (signsB.all fun x => let c := (bts x).getD 0 0; !(digB (c : Int)) && !(smaB (c : Int)) && !(capB (c : Int)) && decide (c ≠ 39) && !(blaB (c : Int)) && (decide (x.size = 2) && isIn signs2 x || decide (x.size = 1) && isIn signs1 x)) = true := by decide +kernel
theorem signs2_snd : (signs2.all fun x => let c := (bts x).getD 1 0; decide (c ≠ 32) && decide (c ≠ 9) && decide (c ≠ 10) && decide (c ≠ 13)) = true := by decide +kernel
theorem rd_sign {S : ByteArray} {p : Nat} {x : ByteArray} {r : List Nat} (h : (bts S).drop p = bts x ++ r) (hs : Sep r) (hx : x ∈ signsB) : oneA S p = .ok 6 x 0 p (p + x.size) := by
  have hall := List.all_eq_true.1 signs_hd x hx
  simp only [Bool.and_eq_true, Bool.or_eq_true, Bool.not_eq_true', decide_eq_true_eq] at hall
  obtain ⟨⟨⟨⟨⟨g1, g2⟩, g3⟩, g4⟩, g5⟩, g6⟩ := hall
  have hne : bts x ≠ [] := by
    intro e
    have h2 := bts_length x
    rw [e] at h2
    simp at h2
    rcases g6 with g | g <;> omega
  have hp := in_tk h hne
  have hc := at_hd h
  have hz : (bts x ++ r).getD 0 0 = (bts x).getD 0 0 := by
    cases hh : bts x with
    | nil => exact absurd hh hne
    | cons a l => rfl
  rw [hz] at hc
  have n2 : ¬ (atB S p = 120 ∧ atB S (p + 1) = 39) := by
    rintro ⟨e, _⟩
    rw [hc] at e
    rw [e] at g2
    exact absurd g2 (by decide)
  unfold oneA
  rw [hc] at n2 ⊢
  rw [if_neg g4, if_neg n2, if_neg (by rw [g3]; decide), if_neg (by rw [g2]; decide), if_neg (by rw [g1]; decide)]
  rw [signA_ref S p hp]
  have hx2 := ex_tk h
  have hlen := congrArg List.length h
  rw [List.length_drop, bts_length, List.length_append, bts_length] at hlen
  rcases g6 with ⟨g7, g8⟩ | ⟨g7, g8⟩
  · rw [g7] at hx2 ⊢
    rw [hx2, if_pos ⟨by omega, g8⟩]
  · have hno : ¬ (p + 2 ≤ S.size ∧ isIn signs2 (S.extract p (p + 2)) = true) := by
      rintro ⟨e1, e2⟩
      rw [isIn_iff] at e2
      have e3 := List.all_eq_true.1 signs2_snd _ e2
      simp only [Bool.and_eq_true, decide_eq_true_eq] at e3
      rw [bts_ex, h] at e3
      have hb : bts x = [(bts x).getD 0 0] := by
        have h2 := bts_length x
        cases hh : bts x with
        | nil => exact absurd hh hne
        | cons a l =>
          rw [hh] at h2
          cases l with
          | nil => rfl
          | cons b l => simp at h2; omega
      rcases hs with rfl | ⟨c, u, rfl, hbl⟩
      · simp at hlen; omega
      · have hcb := bla_nat hbl
        rw [hb] at e3
        simp at e3
        omega
    rw [g7] at hx2 ⊢
    rw [if_neg hno, hx2, if_pos g8]
/-- what is written is read as it was -/
theorem rd_back {S : ByteArray} {p k n : Nat} {x y : ByteArray} {r : List Nat} (hw : wrT k x n = (y, true)) (h : (bts S).drop p = bts y ++ r) (hs : Sep r) : aloA S p = .ok k x n p (p + y.size) ∧ bts y ≠ [] := by
  have key : oneA S p = .ok k x n p (p + y.size) ∧ bts y ≠ [] := by
    unfold wrT at hw
    by_cases h3 : k = 3
    · rw [if_pos h3] at hw
      obtain ⟨rfl, hb⟩ := Prod.mk.injEq .. ▸ hw
      rw [Bool.and_eq_true, decide_eq_true_eq, decide_eq_true_eq] at hb
      obtain rfl := size_0 hb.1
      subst h3
      rw [bts_bstr _ (fun c hc => by have := dig_nat ((dec_all n).1 c hc); omega)] at h ⊢
      refine ⟨?_, (dec_all n).2.2.1⟩
      rw [rd_int h hs hb.2, bstr_size]
    rw [if_neg h3] at hw
    by_cases h0 : n ≠ 0
    · rw [if_pos h0] at hw
      have := (Prod.mk.inj hw).2
      cases this
    rw [if_neg h0] at hw
    obtain rfl : n = 0 := by omega
    by_cases h1 : k = 1
    · rw [if_pos h1] at hw
      obtain ⟨rfl, hb⟩ := Prod.mk.inj hw
      subst h1
      exact ⟨rd_word h hs hb, (words_each hb).1⟩
    rw [if_neg h1] at hw
    by_cases h2 : k = 2
    · rw [if_pos h2] at hw
      obtain ⟨rfl, hb⟩ := Prod.mk.inj hw
      subst h2
      exact ⟨rd_name h hs hb, (nm_each hb).1⟩
    rw [if_neg h2] at hw
    by_cases h4 : k = 4
    · rw [if_pos h4] at hw
      obtain ⟨rfl, hb⟩ := Prod.mk.inj hw
      rw [decide_eq_true_eq] at hb
      subst h4
      have e1 : bts (⟨#[39]⟩ ++ bstr (dqL (bts x)) ++ ⟨#[39]⟩) = 39 :: (dqL (bts x) ++ [39]) := by
        rw [bts_app, bts_app, bts_bstr _ (dqL_lt (bts_lt x))]
        rfl
      have e2 : (⟨#[39]⟩ ++ bstr (dqL (bts x)) ++ ⟨#[39]⟩ : ByteArray).size = 1 + (dqL (bts x)).length + 1 := by
        rw [ByteArray.size_append, ByteArray.size_append, bstr_size]
        rfl
      rw [e1] at h ⊢
      rw [e2]
      exact ⟨rd_text (by rw [h]; simp) hs hb, by simp⟩
    rw [if_neg h4] at hw
    by_cases h5 : k = 5
    · rw [if_pos h5] at hw
      obtain ⟨rfl, hb⟩ := Prod.mk.inj hw
      rw [decide_eq_true_eq] at hb
      subst h5
      have e1 : bts (⟨#[120, 39]⟩ ++ bstr (hexL (bts x)) ++ ⟨#[39]⟩) = 120 :: 39 :: (hexL (bts x) ++ [39]) := by
        rw [bts_app, bts_app, bts_bstr _ (hexL_lt (bts_lt x))]
        rfl
      have e2 : (⟨#[120, 39]⟩ ++ bstr (hexL (bts x)) ++ ⟨#[39]⟩ : ByteArray).size = 2 + (hexL (bts x)).length + 1 := by
        rw [ByteArray.size_append, ByteArray.size_append, bstr_size]
        rfl
      rw [e1] at h ⊢
      rw [e2]
      exact ⟨rd_blob (r := r) (by rw [h]; simp) hb, by simp⟩
    rw [if_neg h5] at hw
    by_cases h6 : k = 6
    · rw [if_pos h6] at hw
      obtain ⟨rfl, hb⟩ := Prod.mk.inj hw
      rw [Bool.and_eq_true, decide_eq_true_eq, decide_eq_true_eq] at hb
      subst h6
      refine ⟨rd_sign h hs (sgn_mem hb.2 hb.1), fun e => ?_⟩
      have h2 := bts_length x
      rw [e] at h2
      exact hb.1 h2.symm
    · rw [if_neg h6] at hw
      have := (Prod.mk.inj hw).2
      cases this
  refine ⟨?_, key.2⟩
  unfold aloA
  rw [key.1, alo_no]
  rintro ⟨_, hwb⟩
  have e := dr_nx h
  rw [bts_length] at e
  rw [at_hd e, sep_wor hs] at hwb
  cases hwb
end Go.Proofs.YtibnmkjabpoppaaGreatDoor
