/- An expression whose kind is known comes to null or a value of that kind, and to no error of kinds: plain mathematics. Conditions: those of each lemma. -/
import Derived.Test.YtkgpcodccpckeaaEg5
import Derived.Test.YtkgpcodccpckeaaEt11
namespace Go.Proofs.Ytkgpcodccpckeaa
open Go Go.RowKit
set_option linter.unusedVariables false
set_option linter.unusedSimpArgs false
/-- no error of kinds; null, or of that kind -/
def okk (k : Int) (z : Val × Int) : Prop := z.2 ≠ 150 ∧ z.2 ≠ 2 ∧ (z.1.1 = 0 ∨ z.1.1 = k)
theorem okk_null (k : Int) : okk k (zV, 0) := ⟨by decide, by decide, .inl rfl⟩
theorem okk_err {k e : Int} (h1 : e ≠ 150) (h2 : e ≠ 2) : okk k (zV, e) := ⟨h1, h2, .inl rfl⟩
theorem okk_truth (b : Bool) : okk 1 (truthV b, 0) := ⟨by simp, by simp, .inr rfl⟩
theorem okk_res (x : Int) : okk 1 (resZ x) := by
  unfold resZ
  split
  · exact ⟨by simp, by simp, .inr rfl⟩
  · exact ⟨by simp, by simp, .inl rfl⟩
theorem okk_num (op a b : Int) : okk 1 (numZ op a b) := by
  unfold numZ
  split; · exact okk_res _
  split; · exact okk_res _
  split; · exact okk_res _
  split; · exact okk_res _
  split; · exact okk_null _
  split; · exact ⟨by simp, by simp, .inr rfl⟩
  exact okk_res _
theorem okk_join (a b : Val) : okk 2 (joinZ a b) := by
  unfold joinZ
  split
  · exact ⟨by simp, by simp, .inl rfl⟩
  · exact ⟨by simp, by simp, .inr rfl⟩
theorem okk_logic (op : Int) (a b : Val) : okk 1 (logicZ op a b, 0) := by
  unfold logicZ
  split; · exact okk_truth _
  split; · exact okk_null _
  exact okk_truth _
theorem okk_do (op : Int) (m : Nat) (a b : Val) (ht : togB op [a.1, b.1] = true) : okk (if op = 11 then 2 else 1) (doK op m a b) := by
  obtain ⟨K, hK⟩ : ∃ K : Int, (if op = 11 then 2 else 1) = K := ⟨_, rfl⟩
  rw [hK]
  unfold doK doZ
  rw [if_neg (by rw [ht]; simp)]
  by_cases h11 : op = 11
  · subst h11
    rw [if_pos rfl] at hK
    subst hK
    rw [if_neg (by omega), if_neg (by omega)]
    split; · exact okk_null _
    rw [if_neg (by simp [comparesB]), if_neg (by omega)]
    unfold rzZ
    rw [if_pos rfl]
    exact okk_join a b
  · rw [if_neg h11] at hK
    subst hK
    split; · exact okk_truth _
    split; · exact okk_logic _ _ _
    split; · exact okk_null _
    split; · exact okk_truth _
    split; · exact okk_truth _
    unfold rzZ
    rw [if_neg h11]
    exact okk_num _ _ _
theorem tog_sub2 (op k1 k2 a b : Int) (h : togB op [k1, k2] = true) (ha : a = 0 ∨ a = k1) (hb : b = 0 ∨ b = k2) : togB op [a, b] = true := by
  unfold togB at *
  split
  · rfl
  · rename_i h5
    rw [if_neg h5] at h
    split
    · rename_i h11
      rw [if_pos h11] at h
      simp [onlyB] at h ⊢
      omega
    · rename_i h11
      rw [if_neg h11] at h
      split
      · rename_i hc
        rw [if_pos hc] at h
        simp [onlyB] at h ⊢
        omega
      · rename_i hc
        rw [if_neg hc] at h
        simp [onlyB] at h ⊢
        omega
theorem tog_sub1 (op k1 a : Int) (h : togB op [k1] = true) (ha : a = 0 ∨ a = k1) : togB op [a, 0] = true := by
  refine tog_sub2 op k1 0 a 0 ?_ ha (.inl rfl)
  unfold togB at *
  split
  · rfl
  · rename_i h5
    rw [if_neg h5] at h
    split
    · rename_i h11
      rw [if_pos h11] at h
      simpa [onlyB] using h
    · rename_i h11
      rw [if_neg h11] at h
      split
      · rename_i hc
        rw [if_pos hc] at h
        simp [onlyB]
      · rename_i hc
        rw [if_neg hc] at h
        simpa [onlyB] using h
/-- what kindF says of one kid, of two -/
theorem kindF_ok {op : Int} {r : List Int × Int} (h : (kindF op r).2 = 0) : r.2 = 0 ∧ togA op r.1 = true ∧ (kindF op r).1 = (if op = 11 then 2 else if 22 ≤ op then r.1.headD 0 else 1) := by
  unfold kindF at *
  by_cases h1 : r.2 ≠ 0
  · rw [if_pos h1] at h; exact absurd h h1
  · rw [if_neg h1] at h ⊢
    by_cases h2 : togA op r.1 = false
    · rw [if_pos h2] at h; simp at h
    · rw [if_neg h2]
      refine ⟨by simpa using h1, by simpa using h2, ?_⟩
      split
      · rfl
      · split <;> rfl
theorem kindL_one {cols : List Int} {g : Bool} {x : XT} (h : (kindL cols [x] g).2 = 0) : (kindP cols x g).2 = 0 ∧ (kindL cols [x] g).1 = [(kindP cols x g).1] := by
  rw [kindL, kindL] at *
  by_cases e : (kindP cols x g).2 ≠ 0
  · rw [if_pos e] at h; exact absurd h e
  · rw [if_neg e]; exact ⟨by simpa using e, rfl⟩
theorem kindL_two {cols : List Int} {g : Bool} {x y : XT} (h : (kindL cols [x, y] g).2 = 0) : (kindP cols x g).2 = 0 ∧ (kindP cols y g).2 = 0 ∧ (kindL cols [x, y] g).1 = [(kindP cols x g).1, (kindP cols y g).1] := by
  rw [kindL] at *
  by_cases e : (kindP cols x g).2 ≠ 0
  · rw [if_pos e] at h; exact absurd h e
  · rw [if_neg e] at h ⊢
    have h2 := kindL_one h
    exact ⟨by simpa using e, h2.1, by rw [h2.2]⟩
theorem kindL_all {cols : List Int} {g : Bool} {l : List XT} (h : (kindL cols l g).2 = 0) : ∀ x ∈ l, (kindP cols x g).2 = 0 := by
  induction l with
  | nil => intro x hx; cases hx
  | cons y l ih =>
    rw [kindL] at h
    by_cases e : (kindP cols y g).2 ≠ 0
    · rw [if_pos e] at h; exact absurd h e
    · rw [if_neg e] at h
      intro x hx
      rcases List.mem_cons.1 hx with rfl | hx
      · simpa using e
      · exact ih h x hx
/-- a node's own part of the kinds -/
theorem comeF_ok (op : Int) (ks : List XT) (cols : List Int) (g : Bool) (h3 : 3 ≤ op) (h19 : op ≤ 19) (hf : fitsB op ks.length = true) (hk : (kindF op (kindL cols ks g)).2 = 0) (Z : XT → Val × Int) (hZ : ∀ x ∈ ks, okk (kindP cols x g).1 (Z x)) (r : List Val × Int)
    (h1 : ∀ x, ks = [x] → r = if (Z x).2 ≠ 0 then ([], (Z x).2) else ([(Z x).1], 0)) (h2 : ∀ x y, ks = [x, y] → r = if (Z x).2 ≠ 0 then ([], (Z x).2) else if (Z y).2 ≠ 0 then ([(Z x).1], (Z y).2) else ([(Z x).1, (Z y).1], 0)) :
    okk (kindF op (kindL cols ks g)).1 (comeF op ks.length r) := by
  obtain ⟨k0, kt, kr⟩ := kindF_ok hk
  rw [kr, if_neg (show ¬ 22 ≤ op by omega)]
  have ht : togA op (kindL cols ks g).1 = togB op (kindL cols ks g).1 := by
    unfold togA
    rw [if_neg (by omega)]
  rw [ht] at kt
  obtain ⟨K, hK⟩ : ∃ K : Int, (if op = 11 then 2 else 1) = K := ⟨_, rfl⟩
  rw [hK]
  rcases fits_m hf h3 h19 with hl | hl
  · match ks, hl with
    | [x], _ =>
      have hx := hZ x (List.mem_cons_self ..)
      have e := kindL_one k0
      rw [e.2] at kt
      have q := h1 x rfl
      by_cases he : (Z x).2 = 0
      · rw [if_neg (by simpa using he)] at q
        rw [q]
        unfold comeF
        rw [if_neg (by simp), ← hK]
        exact okk_do op 1 _ _ (tog_sub1 op _ _ kt hx.2.2)
      · rw [if_pos he] at q
        rw [q]
        unfold comeF
        rw [if_pos he]
        exact okk_err hx.1 hx.2.1
  · match ks, hl with
    | [x, y], _ =>
      have hx := hZ x (List.mem_cons_self ..)
      have hy := hZ y (by simp)
      have e := kindL_two k0
      rw [e.2.2] at kt
      have q := h2 x y rfl
      by_cases he : (Z x).2 = 0
      · rw [if_neg (by simpa using he)] at q
        by_cases he2 : (Z y).2 = 0
        · rw [if_neg (by simpa using he2)] at q
          rw [q]
          unfold comeF
          rw [if_neg (by simp), ← hK]
          exact okk_do op 2 _ _ (tog_sub2 op _ _ _ _ kt hx.2.2 hy.2.2)
        · rw [if_pos he2] at q
          rw [q]
          unfold comeF
          rw [if_pos he2]
          exact okk_err hy.1 hy.2.1
      · rw [if_pos he] at q
        rw [q]
        unfold comeF
        rw [if_pos he]
        exact okk_err hx.1 hx.2.1
/-- a row of the columns' kinds -/
def RowK (cols : List Int) (row : List Val) : Prop := row.length = cols.length ∧ ∀ (i : Nat) v, row[i]? = some v → v.1 = 0 ∨ v.1 = cols.getD i 0
theorem rowk_col {cols : List Int} {row : List Val} (h : RowK cols row) (p : Nat) : (row.getD p zV).1 = 0 ∨ (row.getD p zV).1 = cols.getD p 0 := by
  rw [List.getD_eq_getElem?_getD]
  cases hx : row[p]? with
  | none => exact .inl rfl
  | some v => exact h.2 p v hx
theorem mayP_any {k d : Int} {op : Int} {v : Val} {tb nm : ByteArray} {n : Int} {A : Option Addr} {c : Nat} {ks : List XT} (h : mayP k (.mk op v tb nm n A c ks) d = true) : 1 ≤ op ∧ op ≤ 23 ∧ fitsB op ks.length = true ∧ ∃ e, ∀ x ∈ ks, mayP k x e = true := by
  rw [mayP, Bool.and_eq_true, Bool.and_eq_true] at h
  obtain ⟨⟨_, h2⟩, h3⟩ := h
  unfold mayH at h2
  rw [Bool.and_eq_true, Bool.and_eq_true] at h2
  obtain ⟨⟨hf, _⟩, _⟩ := h2
  obtain ⟨f1, f2, _, _⟩ := fits_op hf
  refine ⟨f1, f2, hf, (if groupedB op = true then d - 1 else d), fun x hx => ?_⟩
  rw [all_map] at h3
  exact List.all_eq_true.1 h3 (mayP k x _) (List.mem_map_of_mem hx)
/-- of an expression without groups, for a row -/
theorem sound_row (cols : List Int) (row : List Val) (hr : RowK cols row) (k : Int) (T : XT) : (∃ d, mayP k T d = true) → (kindP cols T false).2 = 0 → okk (kindP cols T false).1 (comeP row T) := by
  induction T using xt_ind with
  | h op v tb nm n A c ks ih =>
    intro ⟨d, hM⟩ hk
    obtain ⟨m1, m23, hf, e, mk⟩ := mayP_any hM
    rw [kindP] at hk ⊢
    rw [comeP]
    by_cases o1 : op = 1
    · rw [if_pos o1, if_pos o1]
      exact ⟨by simp, by simp, .inr rfl⟩
    rw [if_neg o1] at hk ⊢
    rw [if_neg o1]
    by_cases o2 : op = 2
    · rw [if_pos o2, if_pos o2]
      exact ⟨by simp, by simp, rowk_col hr _⟩
    rw [if_neg o2] at hk ⊢
    rw [if_neg o2]
    have hg : groupedB op = false := by
      cases hg : groupedB op
      · rfl
      · rw [hg] at hk; simp at hk
    rw [hg] at hk ⊢
    simp only [Bool.false_and, Bool.false_eq_true, if_false] at hk ⊢
    have h19 : op ≤ 19 := by
      unfold groupedB at hg
      simp at hg
      omega
    have hall := kindL_all (kindF_ok hk).1
    refine comeF_ok op ks cols false (by omega) h19 hf hk (comeP row) (fun x hx => ih x hx ⟨e, mk x hx⟩ (hall x hx)) (comeL row ks) (fun x hx => ?_) (fun x y hx => ?_)
    · rw [hx, comeL, comeL]
    · rw [hx, comeL, comeL, comeL]
      by_cases h : (comeP row x).2 ≠ 0
      · rw [if_pos h, if_pos h]
      · rw [if_neg h, if_neg h]
        by_cases h2 : (comeP row y).2 ≠ 0
        · rw [if_pos h2, if_pos h2]
        · rw [if_neg h2, if_neg h2]
theorem gL_ok (k : Int) (z : Rw → Val × Int) (rs : List Rw) (h : ∀ r ∈ rs, okk k (z r)) : (gL z rs).2 ≠ 150 ∧ (gL z rs).2 ≠ 2 ∧ ∀ x ∈ (gL z rs).1, x.1 = k ∧ ¬ x.1 = 0 := by
  induction rs with
  | nil => exact ⟨by simp [gL], by simp [gL], fun x hx => by cases hx⟩
  | cons r rs ih =>
    obtain ⟨h1, h2, h3⟩ := ih (fun y hy => h y (List.mem_cons_of_mem _ hy))
    have hr := h r (List.mem_cons_self ..)
    rw [gL]
    by_cases he : (z r).2 ≠ 0
    · rw [if_pos he]
      exact ⟨hr.1, hr.2.1, fun x hx => by cases hx⟩
    · rw [if_neg he]
      refine ⟨h1, h2, ?_⟩
      simp only
      cases hn : nullV (z r).1
      · simp only [Bool.false_eq_true, if_false]
        have h0 : ¬ (z r).1.1 = 0 := by unfold nullV at hn; simpa using hn
        intro x hx
        rcases List.mem_cons.1 hx with rfl | hx
        · exact ⟨hr.2.2.resolve_left h0, h0⟩
        · exact h3 x hx
      · simp only [if_true]
        exact h3
theorem minF_in (l : List Val) : ∀ m : Val, minF m l = m ∨ minF m l ∈ l := by
  induction l with
  | nil => intro m; exact .inl rfl
  | cons x l ih =>
    intro m
    rw [minF]
    rcases ih (if valCmp x m < 0 then x else m) with h | h
    · rw [h]
      split
      · exact .inr (List.mem_cons_self ..)
      · exact .inl rfl
    · exact .inr (List.mem_cons_of_mem _ h)
theorem maxF_in (l : List Val) : ∀ m : Val, maxF m l = m ∨ maxF m l ∈ l := by
  induction l with
  | nil => intro m; exact .inl rfl
  | cons x l ih =>
    intro m
    rw [maxF]
    rcases ih (if 0 < valCmp x m then x else m) with h | h
    · rw [h]
      split
      · exact .inr (List.mem_cons_self ..)
      · exact .inl rfl
    · exact .inr (List.mem_cons_of_mem _ h)
theorem minL_in (l : List Val) (h : ¬ l = []) : minL l ∈ l ∧ maxL l ∈ l := by
  rcases l with _ | ⟨x, l⟩
  · exact absurd rfl h
  · constructor
    · show minF x l ∈ x :: l
      rcases minF_in l x with e | e
      · rw [e]; exact List.mem_cons_self ..
      · exact List.mem_cons_of_mem _ e
    · show maxF x l ∈ x :: l
      rcases maxF_in l x with e | e
      · rw [e]; exact List.mem_cons_self ..
      · exact List.mem_cons_of_mem _ e
theorem fold_okk (op : Int) (h20 : 20 ≤ op) (h23 : op ≤ 23) (k : Int) (ht : togA op [k] = true) (r : List Val × Int) (h : r.2 ≠ 150 ∧ r.2 ≠ 2 ∧ ∀ x ∈ r.1, x.1 = k ∧ ¬ x.1 = 0) : okk (if op = 11 then 2 else if 22 ≤ op then k else 1) (foldG op r) := by
  rw [if_neg (by omega)]
  unfold foldG
  by_cases he : r.2 ≠ 0
  · rw [if_pos he]
    exact okk_err h.1 h.2.1
  rw [if_neg he]
  unfold foldV
  by_cases o20 : op = 20
  · rw [if_pos o20, if_neg (by omega)]
    exact ⟨by simp, by simp, .inr rfl⟩
  rw [if_neg o20]
  by_cases hl : r.1 = []
  · rw [if_pos hl]; exact okk_null _
  rw [if_neg hl]
  have hin := minL_in r.1 hl
  by_cases o22 : op = 22
  · rw [if_pos o22, if_pos (by omega)]
    exact ⟨by simp, by simp, .inr (h.2.2 _ hin.1).1⟩
  rw [if_neg o22]
  by_cases o23 : op = 23
  · rw [if_pos o23, if_pos (by omega)]
    exact ⟨by simp, by simp, .inr (h.2.2 _ hin.2).1⟩
  rw [if_neg o23, if_neg (by omega)]
  obtain rfl : op = 21 := by omega
  have hk1 : k = 0 ∨ k = 1 := by
    unfold togA togB at ht
    simp [comparesB, onlyB] at ht
    omega
  have hall : r.1.all intB = true := by
    rw [List.all_eq_true]
    intro x hx
    have h1 := h.2.2 x hx
    unfold intB onlyB
    simp
    omega
  unfold totP
  rw [if_pos hall]
  exact okk_res _
/-- of any expression, for a group -/
theorem sound_group (cols : List Int) (rs : List Rw) (hr : ∀ r ∈ rs, RowK cols r.l) (k : Int) (T : XT) : (∃ d, mayP k T d = true) → ∀ g, (kindP cols T g).2 = 0 → okk (kindP cols T g).1 (comG rs T) := by
  induction T using xt_ind with
  | h op v tb nm n A c ks ih =>
    intro ⟨d, hM⟩ g hk
    obtain ⟨m1, m23, hf, e, mk⟩ := mayP_any hM
    rw [kindP] at hk ⊢
    rw [comG]
    by_cases o1 : op = 1
    · rw [if_pos o1, if_pos o1]
      exact ⟨by simp, by simp, .inr rfl⟩
    rw [if_neg o1] at hk ⊢
    rw [if_neg o1]
    by_cases o2 : op = 2
    · rw [if_pos o2, if_pos o2]
      refine ⟨by simp, by simp, ?_⟩
      rcases rs with _ | ⟨r, rs⟩
      · exact .inl rfl
      · exact rowk_col (hr r (List.mem_cons_self ..)) _
    rw [if_neg o2] at hk ⊢
    rw [if_neg o2]
    by_cases o20 : 20 ≤ op
    · rw [if_pos o20]
      have hg : groupedB op = true := by unfold groupedB; simp; omega
      rw [hg] at hk ⊢
      cases g
      · simp at hk
      simp only [Bool.not_true, Bool.and_false, Bool.false_eq_true, if_false, if_true] at hk ⊢
      obtain ⟨k0, kt, kr⟩ := kindF_ok hk
      rw [kr]
      unfold grpP
      rcases ks with _ | ⟨x, ks⟩
      · have h20 : op = 20 := by
          unfold fitsB at hf
          repeat' split at hf
          all_goals simp at hf
          all_goals omega
        subst h20
        exact ⟨by simp, by simp, .inr rfl⟩
      · have hl1 : (x :: ks).length = 1 := by
          unfold fitsB at hf
          repeat' split at hf
          all_goals simp at hf
          all_goals simp
          all_goals omega
        obtain rfl : ks = [] := by simpa using hl1
        have e1 := kindL_one k0
        rw [e1.2] at kt ⊢
        have hx := List.mem_cons_self (a := x) (l := [])
        exact fold_okk op o20 m23 _ kt _ (gL_ok _ _ rs (fun r hrm => sound_row cols r.l (hr r hrm) k x ⟨e, mk x hx⟩ e1.1))
    rw [if_neg o20]
    have hg : groupedB op = false := by unfold groupedB; simp; omega
    rw [hg] at hk ⊢
    simp only [Bool.false_and, Bool.false_eq_true, if_false] at hk ⊢
    have hall := kindL_all (kindF_ok hk).1
    refine comeF_ok op ks cols g (by omega) (by omega) hf hk (comG rs) (fun x hx => ih x hx ⟨e, mk x hx⟩ g (hall x hx)) (comGL rs ks) (fun x hx => ?_) (fun x y hx => ?_)
    · rw [hx, comGL, comGL]
    · rw [hx, comGL, comGL, comGL]
      by_cases h : (comG rs x).2 ≠ 0
      · rw [if_pos h, if_pos h]
      · rw [if_neg h, if_neg h]
        by_cases h2 : (comG rs y).2 ≠ 0
        · rw [if_pos h2, if_pos h2]
        · rw [if_neg h2, if_neg h2]
/-- kinds that are known: how deep groups stand -/
theorem deep_ok (cols : List Int) (k : Int) (T : XT) : ∀ d, mayP k T d = true → ((kindP cols T false).2 = 0 → mayP k T 0 = true) ∧ ((kindP cols T true).2 = 0 → mayP k T 1 = true) := by
  induction T using xt_ind with
  | h op v tb nm n A c ks ih =>
    intro d hM
    have hM0 := hM
    rw [mayP, Bool.and_eq_true, Bool.and_eq_true] at hM
    obtain ⟨⟨hd, hh⟩, hks⟩ := hM
    rw [all_map, List.all_eq_true] at hks
    have hkm : ∀ x ∈ ks, mayP k x (if groupedB op then d - 1 else d) = true := fun x hx => hks _ (List.mem_map_of_mem hx)
    have h123 := (mayP_any hM0).2.2.1
    have leaf : (op = 1 ∨ op = 2) → ks = [] := fun ho => may_leaf_ks (h := h123) ho
    have build : ∀ e : Int, 0 ≤ (if groupedB op then e - 1 else e) → (∀ x ∈ ks, mayP k x (if groupedB op then e - 1 else e) = true) → mayP k (.mk op v tb nm n A c ks) e = true := fun e h0 hx => by
      rw [mayP, Bool.and_eq_true, Bool.and_eq_true]
      refine ⟨⟨decide_eq_true h0, hh⟩, ?_⟩
      rw [all_map, List.all_eq_true]
      intro b hb
      obtain ⟨x, hxm, rfl⟩ := List.mem_map.1 hb
      exact hx x hxm
    have notg : (op = 1 ∨ op = 2) → groupedB op = false := fun ho => by unfold groupedB; simp; omega
    constructor
    · intro hk
      rw [kindP] at hk
      by_cases o12 : op = 1 ∨ op = 2
      · have hg := notg o12
        refine build 0 (by rw [hg]; simp) (fun x hx => ?_)
        rw [leaf o12] at hx; cases hx
      rw [if_neg (fun e => o12 (.inl e)), if_neg (fun e => o12 (.inr e))] at hk
      have hg : groupedB op = false := by
        cases hg : groupedB op
        · rfl
        · rw [hg] at hk; simp at hk
      rw [hg] at hk hkm
      simp only [Bool.false_and, Bool.false_eq_true, if_false] at hk hkm
      have hall := kindL_all (kindF_ok hk).1
      refine build 0 (by rw [hg]; simp) (fun x hx => ?_)
      rw [hg]
      simp only [Bool.false_eq_true, if_false]
      exact (ih x hx _ (hkm x hx)).1 (hall x hx)
    · intro hk
      rw [kindP] at hk
      by_cases o12 : op = 1 ∨ op = 2
      · have hg := notg o12
        refine build 1 (by rw [hg]; simp) (fun x hx => ?_)
        rw [leaf o12] at hx; cases hx
      rw [if_neg (fun e => o12 (.inl e)), if_neg (fun e => o12 (.inr e))] at hk
      simp only [Bool.not_true, Bool.and_false, Bool.false_eq_true, if_false] at hk
      cases hg : groupedB op
      · rw [hg] at hk hkm
        simp only [Bool.false_eq_true, if_false] at hk hkm
        have hall := kindL_all (kindF_ok hk).1
        refine build 1 (by rw [hg]; simp) (fun x hx => ?_)
        rw [hg]
        simp only [Bool.false_eq_true, if_false]
        exact (ih x hx _ (hkm x hx)).2 (hall x hx)
      · rw [hg] at hk hkm
        simp only [if_true] at hk hkm
        have hall := kindL_all (kindF_ok hk).1
        refine build 1 (by rw [hg]; simp) (fun x hx => ?_)
        rw [hg]
        simp only [if_true]
        exact (ih x hx _ (hkm x hx)).1 (hall x hx)
/-- both together: Eval, Fold -/
theorem sound_eval (cols : List Int) (row : List Val) (T : XT) (hr : RowK cols row) (h : (typeP cols T false).2 = 0) : okk (typeP cols T false).1 (evP row T) := by
  unfold typeP at *
  split at h
  · rename_i hm
    rw [if_pos hm]
    unfold evP
    rw [hr.1, if_pos ((deep_ok cols _ T _ hm).1 h)]
    exact sound_row cols row hr _ T ⟨_, hm⟩ h
  · simp at h
theorem sound_fold (cols : List Int) (rs : List Rw) (T : XT) (hr : ∀ r ∈ rs, RowK cols r.l) (h : (typeP cols T true).2 = 0) : okk (typeP cols T true).1 (foldP cols.length rs T) := by
  unfold typeP at *
  split at h
  · rename_i hm
    rw [if_pos hm]
    unfold foldP
    rw [if_pos ((deep_ok cols _ T _ hm).2 h), if_pos (fun r hrm => by rw [(hr r hrm).1])]
    exact sound_group cols rs hr _ T ⟨_, hm⟩ true h
  · simp at h
end Go.Proofs.Ytkgpcodccpckeaa
