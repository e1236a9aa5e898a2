/- The document's own test of a ship. Conditions: those of each lemma. -/
import Derived.Test.YtkocdaillkhkfaaShipPut
import Derived.Deep.QuietTactic
import Derived.BigQuiet
namespace Go.Proofs.Ytkocdaillkhkfaa
open Go.RowKit
set_option linter.unusedVariables false
def prevOk (l : List (Int × ByteArray)) (j : Nat) (p : Int) : Bool := j == 0 || decide ((l.getD (j - 1) (0, ByteArray.empty)).1 < p)
def elOk (l : List (Int × ByteArray)) (pages : Int) (full : Bool) (j : Nat) : Bool :=
  decide (1 ≤ (l.getD j (0, ByteArray.empty)).1) && decide ((l.getD j (0, ByteArray.empty)).1 ≤ pages) && decide ((l.getD j (0, ByteArray.empty)).2.size = 512) && prevOk l j (l.getD j (0, ByteArray.empty)).1 && (!full || decide ((l.getD j (0, ByteArray.empty)).1 = j + 1))
def elsOk (l : List (Int × ByteArray)) (pages : Int) (full : Bool) (j : Nat) : Bool := (List.range j).all fun i => elOk l pages full i
theorem elsOk_succ (l : List (Int × ByteArray)) (pages : Int) (full : Bool) (j : Nat) : elsOk l pages full (j + 1) = (elsOk l pages full j && elOk l pages full j) := by simp [elsOk, List.range_succ]
theorem imgsOk_snoc (l : List (Int × ByteArray)) (x : Int × ByteArray) (a pages : Int) : imgsOk a (l ++ [x]) pages = (imgsOk a l pages && (decide ((l.getLast?.map (·.1)).getD a < x.1) && decide (x.1 ≤ pages) && decide (x.2.size = 512))) := by
  induction l generalizing a with
  | nil => rw [List.nil_append]; simp only [imgsOk, List.getLast?_nil, Option.map_none, Option.getD_none, Bool.and_true, Bool.true_and]; rfl
  | cons y l ih =>
    simp only [List.cons_append, imgsOk, ih, Bool.and_assoc]
    have e : ((y :: l).getLast?.map (·.1)).getD a = (l.getLast?.map (·.1)).getD y.1 := by
      cases l with
      | nil => rfl
      | cons z l => simp [List.getLast?_cons]
    rw [e]
theorem last_take (l : List (Int × ByteArray)) (j : Nat) (hj : j ≤ l.length) (h0 : 0 < j) : (l.take j).getLast? = some (l.getD (j - 1) (0, ByteArray.empty)) := by
  rw [List.getLast?_eq_getElem?, List.length_take, Nat.min_eq_left hj, List.getElem?_take, if_pos (by omega), List.getD_eq_getElem?_getD, List.getElem?_eq_getElem (by omega)]
  rfl
/-- without the rule of full ones -/
theorem els_imgs (l : List (Int × ByteArray)) (pages : Int) (j : Nat) (hj : j ≤ l.length) : elsOk l pages false j = imgsOk 0 (l.take j) pages := by
  induction j with
  | zero => simp [elsOk, imgsOk]
  | succ j ih =>
    have hjl : j < l.length := by omega
    rw [elsOk_succ, ih (by omega), List.take_succ_eq_append_getElem hjl, imgsOk_snoc]
    have eg : l.getD j (0, ByteArray.empty) = l[j] := by rw [List.getD_eq_getElem?_getD, List.getElem?_eq_getElem hjl]; rfl
    cases hI : imgsOk 0 (l.take j) pages with
    | false => rfl
    | true =>
      simp only [Bool.true_and]
      unfold elOk prevOk
      rw [eg]
      generalize l[j] = x at *
      by_cases h0 : j = 0
      · subst h0
        have e0 : ((0 : Nat) == 0 || decide ((l.getD (0 - 1) (0, ByteArray.empty)).1 < x.1)) = true := rfl
        have e1 : decide (1 ≤ x.1) = decide (0 < x.1) := decide_eq_decide.2 (by omega)
        have e2 : (((l.take 0).getLast?.map (·.1)).getD 0 : Int) = 0 := rfl
        rw [e0, e1, e2]
        simp
      · rw [last_take l j (by omega) (by omega)]
        have hpos : 0 ≤ (l.getD (j - 1) (0, ByteArray.empty)).1 := by
          have hm : l.getD (j - 1) (0, ByteArray.empty) ∈ l.take j := by
            have := last_take l j (by omega) (by omega)
            exact List.mem_of_getLast? this
          have gen : ∀ (a : Int) (m : List (Int × ByteArray)), imgsOk a m pages = true → 0 ≤ a → ∀ x ∈ m, 0 ≤ x.1 := by
            intro a m
            induction m generalizing a with
            | nil => intro _ _ x hx; simp at hx
            | cons y m ih2 =>
              intro h ha x hx
              simp only [imgsOk, Bool.and_eq_true, decide_eq_true_eq] at h
              rcases List.mem_cons.1 hx with rfl | hx
              · omega
              · exact ih2 y.1 h.2 (by omega) x hx
          exact gen 0 _ hI (by omega) _ hm
        generalize l.getD (j - 1) (0, ByteArray.empty) = z at *
        have e0 : (j == 0) = false := by simpa using h0
        have e2 : (((some z).map (fun y : Int × ByteArray => y.1)).getD 0 : Int) = z.1 := rfl
        rw [e0, e2, Bool.false_or, Bool.not_false, Bool.true_or, Bool.and_true, Bool.eq_iff_iff]
        simp only [Bool.and_eq_true, decide_eq_true_eq]
        omega
/-- a full one: as many images as pages, rising: each stands at its place -/
theorem imgs_full {l : List (Int × ByteArray)} {a pages : Int} (h : imgsOk a l pages = true) (ha : 0 ≤ a) (hl : (l.length : Int) = pages - a) : ∀ j (hj : j < l.length), (l[j]).1 = a + j + 1 := by
  induction l generalizing a with
  | nil => intro j hj; simp at hj
  | cons x l ih =>
    simp only [imgsOk, Bool.and_eq_true, decide_eq_true_eq] at h
    obtain ⟨⟨⟨h1, h2⟩, h3⟩, h4⟩ := h
    rw [List.length_cons] at hl
    have hlen : ∀ (b : Int) (m : List (Int × ByteArray)), imgsOk b m pages = true → b ≤ pages → (m.length : Int) ≤ pages - b := by
      intro b m
      induction m generalizing b with
      | nil => intro _ hb; simp; omega
      | cons y m ih2 =>
        intro h hb
        simp only [imgsOk, Bool.and_eq_true, decide_eq_true_eq] at h
        have := ih2 y.1 h.2 (by omega)
        rw [List.length_cons]; omega
    have hx := hlen x.1 l h4 h2
    have hx1 : x.1 = a + 1 := by omega
    intro j hj
    match j with
    | 0 => simp; omega
    | j + 1 =>
      have := ih (a := x.1) h4 (by omega) (by omega) j (by simpa using hj)
      simp only [List.getElem_cons_succ]
      omega
theorem els_full (l : List (Int × ByteArray)) (pages : Int) (hl : (l.length : Int) = pages) : elsOk l pages true l.length = elsOk l pages false l.length := by
  cases h : elsOk l pages false l.length with
  | false =>
    rw [← h, Bool.eq_iff_iff]
    constructor
    · intro h2
      unfold elsOk at h2 ⊢
      rw [List.all_eq_true] at h2 ⊢
      intro i hi
      have := h2 i hi
      unfold elOk at this ⊢
      simp only [Bool.not_false, Bool.true_or, Bool.and_true]
      rw [Bool.and_eq_true] at this
      exact this.1
    · intro h2; rw [h] at h2; cases h2
  | true =>
    have hI := h
    rw [els_imgs l pages _ (Nat.le_refl _), List.take_of_length_le (Nat.le_refl _)] at hI
    have hf := imgs_full hI (by omega) (by omega)
    unfold elsOk at h ⊢
    rw [List.all_eq_true] at h ⊢
    intro i hi
    have h2 := h i hi
    have hil := List.mem_range.1 hi
    unfold elOk at h2 ⊢
    simp only [Bool.not_false, Bool.true_or, Bool.and_true] at h2
    rw [h2]
    have eg : l.getD i (0, ByteArray.empty) = l[i] := by rw [List.getD_eq_getElem?_getD, List.getElem?_eq_getElem hil]; rfl
    rw [eg, hf i hil]
    simp
theorem ref_ok (K pages : Int) (full : Bool) (l : List (Int × ByteArray)) :
    ((decide (1 ≤ pages) && decide (pages ≤ 256) && decide (0 < K) && elsOk l pages full l.length) && (!full || decide ((l.length : Int) = pages))) = shipOk 1 K full pages l := by
  unfold shipOk
  rw [if_pos rfl]
  have e := els_imgs l pages l.length (Nat.le_refl _)
  rw [List.take_of_length_le (Nat.le_refl _)] at e
  rw [← e]
  cases full with
  | false => simp
  | true =>
    by_cases hl : (l.length : Int) = pages
    · rw [els_full l pages hl]
    · simp [hl]
end Go.Proofs.Ytkocdaillkhkfaa
