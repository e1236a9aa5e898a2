/- Layer 13: a text of tokens with blanks between them (plain mathematics); ref13.Same. Conditions: those of each lemma. -/
import Derived.Test.YtibnmkjabpoppaaGreatDoorLx32
namespace Go.Proofs.YtibnmkjabpoppaaGreatDoor
open Go Go.RowKit
set_option linter.unusedVariables false
set_option linter.unusedSimpArgs false
/-- what stands between tokens: it is gone over whole, whatever comes -/
def Gap (g : List Nat) : Prop := ∀ u, sk (g ++ u) = g.length + sk u
theorem gap_nil : Gap [] := fun u => by simp
theorem gap_bla {c : Nat} {g : List Nat} (hc : blaB (c : Int) = true) (h : Gap g) : Gap (c :: g) := fun u => by
  rw [List.cons_append, sk_bla hc, h, List.length_cons]
  omega
theorem gap_app {a b : List Nat} (ha : Gap a) (hb : Gap b) : Gap (a ++ b) := fun u => by
  rw [List.append_assoc, ha, hb, List.length_append]
  omega
/-- a gap that begins with a blank -/
def Gap1 (g : List Nat) : Prop := Gap g ∧ ∃ c u, g = c :: u ∧ blaB (c : Int) = true
def flat : List (List Nat × TI) → List Nat
  | [] => []
  | (g, t) :: r => g ++ bts (wrT t.1 t.2.1 t.2.2.1).1 ++ flat r
def strp (t : TI) : Nat × ByteArray × Nat := (t.1, t.2.1, t.2.2.1)
theorem signs_45 : (signsB.all fun x => let c := (bts x).getD 0 0; !(blaB (c : Int)) && (decide (c ≠ 45) || decide (x.size = 1))) = true := by decide +kernel
theorem no_bla {c : Nat} (h : c ≠ 32 ∧ c ≠ 9 ∧ c ≠ 10 ∧ c ≠ 13) : blaB (c : Int) = false := by
  unfold blaB
  simp
  omega
theorem cap_nat {c : Nat} (h : capB (c : Int) = true) : 65 ≤ c ∧ c ≤ 90 := by
  unfold capB at h
  simp at h
  omega
theorem sma_nat {c : Nat} (h : smaB (c : Int) = true) : 97 ≤ c ∧ c ≤ 122 := by
  unfold smaB at h
  simp at h
  omega
theorem tw_imp (P : Nat → Bool) : ∀ (l : List Nat) (c : Nat), c ∈ l.takeWhile P → P c = true
  | [], c, h => by simp at h
  | a :: l, c, h => by
    cases ha : P a with
    | true =>
      rw [List.takeWhile_cons_of_pos ha] at h
      rcases List.mem_cons.1 h with rfl | h
      · exact ha
      · exact tw_imp P l c h
    | false =>
      rw [List.takeWhile_cons_of_neg (by rw [ha]; decide)] at h
      simp at h
/-- how what is written begins -/
theorem y_hd {k n : Nat} {x y : ByteArray} (hw : wrT k x n = (y, true)) : bts y ≠ [] ∧ blaB ((bts y).getD 0 0 : Int) = false ∧ ((bts y).getD 0 0 = 45 → (bts y).length = 1) := by
  unfold wrT at hw
  by_cases h3 : k = 3
  · rw [if_pos h3] at hw
    obtain ⟨rfl, hb⟩ := Prod.mk.inj hw
    rw [bts_bstr _ (fun c hc => by have := dig_nat ((dec_all n).1 c hc); omega)]
    have h0 := (dec_all n).2.2.1
    have hd := (dec_all n).1 _ (by have := hd_mem h0 []; rwa [List.append_nil] at this)
    have := dig_nat hd
    exact ⟨h0, no_bla (by omega), fun e => by omega⟩
  rw [if_neg h3] at hw
  by_cases h0 : n ≠ 0
  · rw [if_pos h0] at hw
    have := (Prod.mk.inj hw).2
    cases this
  rw [if_neg h0] at hw
  by_cases h1 : k = 1
  · rw [if_pos h1] at hw
    obtain ⟨rfl, hb⟩ := Prod.mk.inj hw
    obtain ⟨g0, g1⟩ := words_each hb
    have hc := g1 _ (by have := hd_mem g0 []; rwa [List.append_nil] at this)
    have := cap_nat hc
    exact ⟨g0, no_bla (by omega), fun e => by omega⟩
  rw [if_neg h1] at hw
  by_cases h2 : k = 2
  · rw [if_pos h2] at hw
    obtain ⟨rfl, hb⟩ := Prod.mk.inj hw
    obtain ⟨g0, hc, _, _⟩ := nm_each hb
    have := sma_nat hc
    exact ⟨g0, no_bla (by omega), fun e => by omega⟩
  rw [if_neg h2] at hw
  by_cases h4 : k = 4
  · rw [if_pos h4] at hw
    obtain ⟨rfl, hb⟩ := Prod.mk.inj hw
    have e1 : bts (⟨#[39]⟩ ++ bstr (dqL (bts x)) ++ ⟨#[39]⟩) = 39 :: (dqL (bts x) ++ [39]) := by
      rw [bts_app, bts_app, bts_bstr _ (dqL_lt (bts_lt x))]
      rfl
    rw [e1]
    exact ⟨by simp, by rw [List.getD_cons_zero]; decide, fun e => by rw [List.getD_cons_zero] at e; omega⟩
  rw [if_neg h4] at hw
  by_cases h5 : k = 5
  · rw [if_pos h5] at hw
    obtain ⟨rfl, hb⟩ := Prod.mk.inj hw
    have e1 : bts (⟨#[120, 39]⟩ ++ bstr (hexL (bts x)) ++ ⟨#[39]⟩) = 120 :: 39 :: (hexL (bts x) ++ [39]) := by
      rw [bts_app, bts_app, bts_bstr _ (hexL_lt (bts_lt x))]
      rfl
    rw [e1]
    exact ⟨by simp, by rw [List.getD_cons_zero]; decide, fun e => by rw [List.getD_cons_zero] at e; omega⟩
  rw [if_neg h5] at hw
  by_cases h6 : k = 6
  · rw [if_pos h6] at hw
    obtain ⟨rfl, hb⟩ := Prod.mk.inj hw
    rw [Bool.and_eq_true, decide_eq_true_eq, decide_eq_true_eq] at hb
    have hall := List.all_eq_true.1 signs_45 x (sgn_mem hb.2 hb.1)
    simp only [Bool.and_eq_true, Bool.or_eq_true, Bool.not_eq_true', decide_eq_true_eq] at hall
    refine ⟨fun e => ?_, hall.1, fun e => ?_⟩
    · have h2 := bts_length x
      rw [e] at h2
      exact hb.1 h2.symm
    · rw [bts_length]
      exact hall.2.resolve_left (fun hh => hh e)
  · rw [if_neg h6] at hw
    have := (Prod.mk.inj hw).2
    cases this
theorem sk_y {k n : Nat} {x y : ByteArray} (hw : wrT k x n = (y, true)) {r : List Nat} (hs : Sep r) : sk (bts y ++ r) = 0 := by
  obtain ⟨h0, h1, h2⟩ := y_hd hw
  cases hy : bts y with
  | nil => exact absurd hy h0
  | cons a l =>
    rw [hy, List.getD_cons_zero] at h1 h2
    rw [List.cons_append]
    refine sk_no (by rw [h1]; decide) ?_
    rintro ⟨rfl, e⟩
    have hl := h2 rfl
    simp at hl
    subst hl
    rw [List.nil_append] at e
    rcases sep_hd hs with q | q | q | q | q <;> omega
/-- each gap but the first begins with a blank -/
def Gaps : List (List Nat × TI) → Prop
  | [] => True
  | (g, _) :: r => Gap g ∧ (∀ a ∈ r, Gap1 a.1)
theorem flat_sep {r : List (List Nat × TI)} (h : ∀ a ∈ r, Gap1 a.1) : Sep (flat r) := by
  cases r with
  | nil => exact .inl rfl
  | cons a r =>
    obtain ⟨g, t⟩ := a
    obtain ⟨_, c, u, e, hb⟩ := h (g, t) (by simp)
    simp only at e
    rw [flat, e]
    exact .inr ⟨c, _, rfl, hb⟩
theorem flat_in {S : ByteArray} {p : Nat} {a b : List Nat} (h : (bts S).drop p = a ++ b) (hp : p ≤ S.size) : p + a.length ≤ S.size := by
  have hl := congrArg List.length h
  rw [List.length_drop, bts_length, List.length_append] at hl
  omega
/-- a text of tokens with gaps between them is read as those tokens -/
theorem toks_flat (S : ByteArray) : ∀ (r : List (List Nat × TI)) (p f : Nat), p ≤ S.size → S.size < p + f → (bts S).drop p = flat r → Gaps r → (∀ a ∈ r, (wrT a.2.1 a.2.2.1 a.2.2.2.1).2 = true) →
    ∃ m : List TK, toksA S f (p + sk ((bts S).drop p)) = .ok m ∧ m.map (fun t => strp (toI t)) = r.map (fun a => strp a.2)
  | [], p, f, hp, hf, hd, _, _ => by
    obtain ⟨f, rfl⟩ : ∃ f', f = f' + 1 := ⟨f - 1, by omega⟩
    have hl := congrArg List.length hd
    rw [List.length_drop, bts_length] at hl
    simp [flat] at hl
    refine ⟨[], ?_, rfl⟩
    rw [hd]
    exact toksA_end (by show ¬ p + sk [] < S.size; rw [sk_nil]; omega)
  | (g, t) :: r, p, f, hp, hf, hd, hg, hok => by
    obtain ⟨k, x, n, pl⟩ := t
    obtain ⟨y, hy⟩ : ∃ y, wrT k x n = (y, true) := ⟨(wrT k x n).1, by rw [← hok (g, (k, x, n, pl)) (by simp)]⟩
    have hsep := flat_sep hg.2
    have hflat : flat ((g, (k, x, n, pl)) :: r) = g ++ (bts y ++ flat r) := by
      rw [flat]
      simp only [hy]
      rw [List.append_assoc]
    rw [hflat] at hd
    have hsk : sk ((bts S).drop p) = g.length := by rw [hd, hg.1, sk_y hy hsep, Nat.add_zero]
    have hd2 := dr_nx hd
    obtain ⟨ha, hne⟩ := rd_back hy hd2 hsep
    have hp2 := flat_in hd hp
    have hin := in_tk hd2 hne
    have hd3 := dr_nx hd2
    rw [bts_length] at hd3
    have hp3 := flat_in hd2 hp2
    rw [bts_length] at hp3
    have hyl : 0 < y.size := by
      rcases Nat.eq_zero_or_pos y.size with e | e
      · exact absurd (List.eq_nil_of_length_eq_zero (by rw [bts_length, e])) hne
      · exact e
    obtain ⟨f, rfl⟩ : ∃ f', f = f' + 1 := ⟨f - 1, by omega⟩
    have hg3 : Gaps r := by
      cases r with
      | nil => trivial
      | cons a r =>
        obtain ⟨g', t'⟩ := a
        exact ⟨(hg.2 (g', t') (by simp)).1, fun b hb => hg.2 b (by simp [hb])⟩
    obtain ⟨m, hm, hmap⟩ := toks_flat S r (p + g.length + y.size) f hp3 (by omega) hd3 hg3 (fun a ha => hok a (by simp [ha]))
    refine ⟨(k, x, n, p + g.length) :: m, ?_, ?_⟩
    · rw [hsk, toksA_ok1 hin ha, hm]
    · rw [List.map_cons, List.map_cons, hmap]
      rfl
/-- a token that is read can be written -/
theorem wr_of {S : ByteArray} {p k n a q : Nat} {x : ByteArray} (hp : p < S.size) (h : aloA S p = .ok k x n a q) : (wrT k x n).2 = true ∧ n < 18446744073709551616 ∧ x.size ≤ 4096 + S.size := by
  have hone : oneA S p = .ok k x n a q := by
    unfold aloA at h
    cases hA : oneA S p with
    | bad e q => rw [hA] at h; cases h
    | ok k' x' n' a' q' =>
      rw [hA] at h
      by_cases hc : k' ≠ 6 ∧ worB (atB S q' : Int) = true
      · rw [alo_yes hc] at h; cases h
      · rw [alo_no hc] at h; exact h
  clear h
  unfold oneA at hone
  by_cases h1 : atB S p = 39
  · rw [if_pos h1] at hone
    unfold textA at hone
    cases hu : ujo [] (p + 1) (utx ((bts S).drop (p + 1))) with
    | none => rw [hu] at hone; cases hone
    | some r =>
      rw [hu] at hone
      obtain ⟨rfl, rfl, rfl, -, -, hx⟩ := ok_long hone
      refine ⟨?_, by omega, by omega⟩
      show decide ((bstr r.1).size ≤ 1000) = true
      exact decide_eq_true hx
  rw [if_neg h1] at hone
  by_cases h2 : atB S p = 120 ∧ atB S (p + 1) = 39
  · rw [if_pos h2] at hone
    unfold blobA at hone
    cases hu : ubj [] (p + 2) (ubl ((bts S).drop (p + 2))) with
    | error e => rw [hu] at hone; cases hone
    | ok r =>
      rw [hu] at hone
      obtain ⟨rfl, rfl, rfl, -, -, hx⟩ := ok_long hone
      refine ⟨?_, by omega, by omega⟩
      show decide ((bstr r.1).size ≤ 1000) = true
      exact decide_eq_true hx
  rw [if_neg h2] at hone
  by_cases h3 : capB (atB S p : Int) = true
  · rw [if_pos h3] at hone
    unfold wordA at hone
    by_cases hb : isIn wordsB (S.extract p (p + wl ((bts S).drop p))) = true
    · rw [if_pos hb] at hone
      injection hone with e1 e2 e3 e4 e5
      subst e1 e2 e3
      exact ⟨hb, by omega, by rw [ByteArray.size_extract]; omega⟩
    · rw [if_neg hb] at hone; cases hone
  rw [if_neg h3] at hone
  by_cases h4 : smaB (atB S p : Int) = true
  · rw [if_pos h4] at hone
    unfold nameA at hone
    by_cases hb : (rsc ((bts S).drop p)).2 = true
    · rw [if_pos hb] at hone; cases hone
    rw [if_neg hb] at hone
    by_cases hc : 32 < (rsc ((bts S).drop p)).1
    · rw [if_pos hc] at hone; cases hone
    rw [if_neg hc] at hone
    injection hone with e1 e2 e3 e4 e5
    subst e1 e2 e3
    refine ⟨?_, by omega, by rw [ByteArray.size_extract]; omega⟩
    have hr := rsc_no hb
    have hw1 := wl_drop S p hp (sma_wor h4)
    have hsz := wl_size S p (by omega)
    have hx : bts (S.extract p (p + (rsc ((bts S).drop p)).1)) = ((bts S).drop p).takeWhile (fun c : Nat => worB (c : Int)) := by rw [bts_ex, hr, take_wl]
    have hxs : (S.extract p (p + (rsc ((bts S).drop p)).1)).size = wl ((bts S).drop p) := by rw [ByteArray.size_extract, hr]; omega
    show isNm (S.extract p (p + (rsc ((bts S).drop p)).1)) = true
    unfold isNm
    rw [if_neg (by omega), Bool.and_eq_true, Bool.and_eq_true, decide_eq_true_eq]
    have hat : atB (S.extract p (p + (rsc ((bts S).drop p)).1)) 0 = atB S p := by
      have h0 := drop_hd (S.extract p (p + (rsc ((bts S).drop p)).1)) 0
      rw [List.drop_zero, bts_ex] at h0
      rw [← h0, ← drop_hd S p]
      simp only [List.getD_eq_getElem?_getD]
      rw [List.getElem?_take_of_lt (by omega)]
    refine ⟨by rw [hat]; exact h4, by omega, ?_⟩
    unfold nmB
    rw [hx, List.all_eq_true]
    intro c hc2
    rw [Bool.and_eq_true]
    refine ⟨?_, ?_⟩
    · exact tw_imp _ _ _ hc2
    · rw [rsc_eq] at hb
      simp only [decide_eq_true_eq] at hb
      have hall : (((bts S).drop p).takeWhile (fun c : Nat => worB (c : Int))).takeWhile (fun c : Nat => !capB (c : Int)) = ((bts S).drop p).takeWhile (fun c : Nat => worB (c : Int)) := by
        refine List.IsPrefix.eq_of_length_le (List.takeWhile_prefix _) ?_
        show wl _ ≤ cpl _
        omega
      rw [← hall] at hc2
      exact tw_imp (fun c : Nat => !capB (c : Int)) _ _ hc2
  rw [if_neg h4] at hone
  by_cases h5 : digB (atB S p : Int) = true
  · rw [if_pos h5] at hone
    unfold numA numR at hone
    generalize hv : vd 0 (((bts S).drop p).take (dl ((bts S).drop p))) = v at hone
    by_cases hb : (atB S p == 48) = true ∧ p + 1 < p + dl ((bts S).drop p)
    · rw [if_pos hb] at hone; cases hone
    rw [if_neg hb] at hone
    by_cases hc : 9223372036854775808 < v
    · rw [if_pos hc] at hone; cases hone
    rw [if_neg hc] at hone
    injection hone with e1 e2 e3 e4 e5
    subst e1 e2 e3
    refine ⟨?_, by omega, Nat.zero_le _⟩
    show (decide ((⟨#[]⟩ : ByteArray).size = 0) && decide (v ≤ 9223372036854775808)) = true
    rw [decide_eq_true (show (⟨#[]⟩ : ByteArray).size = 0 from rfl), decide_eq_true (by omega)]
    rfl
  rw [if_neg h5] at hone
  unfold signA signR at hone
  by_cases hb : (sgn signsB (S.extract p S.size)).size = 0
  · rw [if_pos hb] at hone; cases hone
  rw [if_neg hb] at hone
  injection hone with e1 e2 e3 e4 e5
  subst e1 e2 e3
  have hle := sgn_le (S.extract p S.size)
  refine ⟨?_, by omega, by omega⟩
  show (decide (_ ≠ 0) && decide (_ = _)) = true
  rw [decide_eq_true hb, decide_eq_true (sgn_self (sgn_mem rfl hb))]
  rfl
theorem toks_wr (S : ByteArray) : ∀ (f p : Nat) (l : List TK), toksA S f p = .ok l → ∀ t ∈ l, (wrT t.1 t.2.1 t.2.2.1).2 = true ∧ t.2.2.1 < 18446744073709551616 ∧ t.2.1.size ≤ 4096 + S.size
  | 0, p, l, h, t, ht => by
    injection h with h
    subst h
    simp at ht
  | f + 1, p, l, h, t, ht => by
    by_cases hp : p < S.size
    · cases hA : aloA S p with
      | bad e q => rw [toksA_bad hp hA] at h; cases h
      | ok k x n b q =>
        rw [toksA_ok1 hp hA] at h
        cases hr : toksA S f (q + sk ((bts S).drop q)) with
        | error e => rw [hr] at h; cases h
        | ok m =>
          rw [hr] at h
          injection h with h
          subst h
          rcases List.mem_cons.1 ht with rfl | ht
          · exact wr_of hp hA
          · exact toks_wr S f _ m hr t ht
    · rw [toksA_end hp] at h
      injection h with h
      subst h
      simp at ht
theorem tokens_wr {S : ByteArray} {l : List TK} (h : tokensA S = .ok l) : ∀ t ∈ l, (wrT t.1 t.2.1 t.2.2.1).2 = true ∧ FitI (toI t) := by
  have hs := (tokensA_len h).1
  unfold tokensA at h
  rw [if_neg (by omega)] at h
  intro t ht
  obtain ⟨h1, h2, h3⟩ := toks_wr S _ _ l h t ht
  exact ⟨h1, h2, by show t.2.1.size ≤ 100000; omega⟩
end Go.Proofs.YtibnmkjabpoppaaGreatDoor
