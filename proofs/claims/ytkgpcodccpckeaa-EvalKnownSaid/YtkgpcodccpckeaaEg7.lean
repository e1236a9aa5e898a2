/- What COUNT, SUM, MIN of a column come to for two groups together: plain mathematics; EvalJoins' closure. Conditions: those of each lemma. -/
import Derived.Test.YtkgpcodccpckeaaEg6
import Derived.Test.YtkgpcodccpckeaaValMath
import Derived.BigRegion
namespace Go.Proofs.Ytkgpcodccpckeaa
open Go Go.RowKit
set_option linter.unusedVariables false
set_option linter.unusedSimpArgs false
def colT : XT := .mk 2 zV ⟨#[]⟩ ⟨#[]⟩ 0 none 0 []
def opT (op : Int) (A : Option Addr) (c : Nat) : XT := .mk op zV ⟨#[]⟩ ⟨#[]⟩ 0 A c [colT]
def colZ (r : Rw) : Val × Int := (r.l.getD 0 zV, 0)
def foldC (op : Int) (rs : List Rw) : Val × Int := if ∀ r ∈ rs, (r.l.length : Int) = 1 then foldG op (gL colZ rs) else (zV, 2)
def cv (rs : List Rw) : List Val := (rs.map (fun r => r.l.getD 0 zV)).filter (fun v => !nullV v)
theorem gL_col (rs : List Rw) : gL colZ rs = (cv rs, 0) := by
  induction rs with
  | nil => rfl
  | cons r rs ih =>
    rw [gL, if_neg (by simp [colZ]), ih]
    unfold cv
    cases h : nullV (colZ r).1
    · have h2 : nullV (r.l.getD 0 zV) = false := h
      rw [List.map_cons, List.filter_cons, h2]
      simp [colZ]
    · have h2 : nullV (r.l.getD 0 zV) = true := h
      rw [List.map_cons, List.filter_cons, h2]
      simp
theorem cv_append (a b : List Rw) : cv (a ++ b) = cv a ++ cv b := by
  unfold cv
  rw [List.map_append, List.filter_append]
theorem foldP_col (op : Int) (A : Option Addr) (c : Nat) (rs : List Rw) (h : op = 20 ∨ op = 21 ∨ op = 22) : foldP 1 rs (opT op A c) = foldC op rs := by
  unfold foldP foldC
  have hm : mayP 1 (opT op A c) 1 = true := by
    rcases h with rfl | rfl | rfl <;> rfl
  rw [if_pos hm]
  have hg : comG rs (opT op A c) = foldG op (gL colZ rs) := by
    unfold opT
    rw [comG, if_neg (by omega), if_neg (by omega), if_pos (by omega)]
    show foldG op (gL (fun r => comeP r.l colT) rs) = _
    have e : (fun r : Rw => comeP r.l colT) = colZ := by
      funext r
      unfold colT
      rw [comeP, if_neg (by omega), if_pos rfl]
      rfl
    rw [e]
  rw [hg]
theorem foldC_ok (op : Int) (rs : List Rw) (h : (foldC op rs).2 = 0) : foldC op rs = foldV op (cv rs) := by
  unfold foldC at *
  split at h
  · rename_i hc
    rw [if_pos hc, gL_col]
    unfold foldG
    rw [if_neg (by simp)]
  · simp at h
theorem joins_count (a b : List Rw) (ha : (foldC 20 a).2 = 0) (hb : (foldC 20 b).2 = 0) (hc : (foldC 20 (a ++ b)).2 = 0) : (foldC 20 (a ++ b)).1.2.1 = (foldC 20 a).1.2.1 + (foldC 20 b).1.2.1 := by
  rw [foldC_ok 20 _ ha, foldC_ok 20 _ hb, foldC_ok 20 _ hc, cv_append]
  unfold foldV
  simp
theorem sum_ok (l : List Val) (h : (foldV 21 l).2 = 0) : (foldV 21 l).1.2.1 = sumZ l ∧ ((foldV 21 l).1.1 = 0 ↔ l = []) ∧ (-9223372036854775808 ≤ sumZ l ∧ sumZ l ≤ 9223372036854775807) := by
  unfold foldV at *
  rw [if_neg (by omega)] at *
  by_cases h0 : l = []
  · subst h0
    rw [if_pos rfl]
    exact ⟨rfl, by simp, by simp [sumZ]⟩
  · rw [if_neg h0, if_neg (by omega), if_neg (by omega)] at *
    unfold totP at *
    split at h
    · rename_i ha
      rw [if_pos ha]
      unfold resZ at *
      split at h
      · rename_i hr
        rw [if_pos hr]
        exact ⟨rfl, by simp [h0], hr⟩
      · simp at h
    · simp at h
theorem sum_append (a b : List Val) : sumZ (a ++ b) = sumZ a + sumZ b := by unfold sumZ; simp
theorem joins_sum (a b : List Rw) (ha : (foldC 21 a).2 = 0) (hb : (foldC 21 b).2 = 0) (hc : (foldC 21 (a ++ b)).2 = 0) :
    (foldC 21 (a ++ b)).1.2.1 = (foldC 21 a).1.2.1 + (foldC 21 b).1.2.1 ∧ ((foldC 21 (a ++ b)).1.1 == 0) = (((foldC 21 a).1.1 == 0) && ((foldC 21 b).1.1 == 0)) ∧ (-9223372036854775808 ≤ (foldC 21 (a ++ b)).1.2.1 ∧ (foldC 21 (a ++ b)).1.2.1 ≤ 9223372036854775807) := by
  have e1 := foldC_ok 21 _ ha
  have e2 := foldC_ok 21 _ hb
  have e3 := foldC_ok 21 _ hc
  rw [e1] at ha ⊢
  rw [e2] at hb ⊢
  rw [e3] at hc ⊢
  rw [cv_append] at hc ⊢
  obtain ⟨a1, a2, a3⟩ := sum_ok _ ha
  obtain ⟨b1, b2, b3⟩ := sum_ok _ hb
  obtain ⟨c1, c2, c3⟩ := sum_ok _ hc
  rw [a1, b1, c1, sum_append]
  refine ⟨rfl, ?_, by rw [← sum_append]; exact c3⟩
  rw [Bool.eq_iff_iff, Bool.and_eq_true, beq_iff_eq, beq_iff_eq, beq_iff_eq, a2, b2, c2, List.append_eq_nil_iff]
theorem lt_lt {x y z : Val} (h1 : valCmp x y < 0) (h2 : valCmp y z < 0) : valCmp x z < 0 := by
  have t := good_val.trans x y z (by omega) (by omega)
  rcases good_val.range x z with h | h | h
  · omega
  · have := t.2 h; omega
  · omega
theorem ge_ge {x y z : Val} (h1 : ¬ valCmp x y < 0) (h2 : ¬ valCmp y z < 0) : ¬ valCmp x z < 0 := by
  have a1 := good_val.anti x y
  have a2 := good_val.anti y z
  have a3 := good_val.anti x z
  have t := good_val.trans z y x (by omega) (by omega)
  omega
theorem minF_cons (l : List Val) : ∀ m y : Val, minF m (y :: l) = if valCmp (minF y l) m < 0 then minF y l else m := by
  induction l with
  | nil => intro m y; rfl
  | cons z l ih =>
    intro m y
    rw [show minF m (y :: z :: l) = minF (if valCmp y m < 0 then y else m) (z :: l) from rfl, ih, ih]
    by_cases h1 : valCmp y m < 0
    · rw [if_pos h1]
      by_cases h2 : valCmp (minF z l) y < 0
      · rw [if_pos h2, if_pos (lt_lt h2 h1)]
      · rw [if_neg h2, if_pos h1]
    · rw [if_neg h1]
      by_cases h2 : valCmp (minF z l) y < 0
      · rw [if_pos h2]
      · rw [if_neg h2, if_neg h1, if_neg (ge_ge h2 h1)]
theorem minF_append (a b : List Val) : ∀ m : Val, minF m (a ++ b) = minF (minF m a) b := by
  induction a with
  | nil => intro m; rfl
  | cons x a ih => intro m; exact ih _
theorem minL_append (a b : List Val) (ha : a ≠ []) (hb : b ≠ []) : minL (a ++ b) = minL a ∨ minL (a ++ b) = minL b := by
  rcases a with _ | ⟨x, a⟩
  · exact absurd rfl ha
  rcases b with _ | ⟨y, b⟩
  · exact absurd rfl hb
  show minF x (a ++ y :: b) = minF x a ∨ minF x (a ++ y :: b) = minF y b
  rw [minF_append, minF_cons]
  split
  · exact .inr rfl
  · exact .inl rfl
theorem joins_min (a b : List Rw) (ha : (foldC 22 a).2 = 0) (hb : (foldC 22 b).2 = 0) (hc : (foldC 22 (a ++ b)).2 = 0) : (foldC 22 (a ++ b)).1 = (foldC 22 a).1 ∨ (foldC 22 (a ++ b)).1 = (foldC 22 b).1 := by
  rw [foldC_ok 22 _ ha, foldC_ok 22 _ hb, foldC_ok 22 _ hc, cv_append]
  by_cases h1 : cv a = []
  · rw [h1]; exact .inr rfl
  by_cases h2 : cv b = []
  · rw [h2, List.append_nil]; exact .inl rfl
  have e : ∀ l : List Val, ¬ l = [] → foldV 22 l = (minL l, 0) := fun l h => by simp [foldV, h]
  rw [e _ h1, e _ h2, e _ (by simp [h1])]
  exact minL_append _ _ h1 h2
theorem count_in (rs : List Rw) (h : (foldC 20 rs).2 = 0) (hl : rs.length ≤ 4000) : 0 ≤ (foldC 20 rs).1.2.1 ∧ (foldC 20 rs).1.2.1 ≤ 4000 := by
  rw [foldC_ok 20 _ h]
  unfold foldV
  rw [if_pos rfl]
  have h1 : (cv rs).length ≤ rs.length := by
    unfold cv
    exact Nat.le_trans (List.length_filter_le _ _) (by simp)
  simp only
  omega
end Go.Proofs.Ytkgpcodccpckeaa
