/- Plain mathematics of keys: they stand in the order of the rows. Conditions: those of each lemma. -/
import Derived.Test.YtfdiopjmohhejaaDoorKeyMath2
namespace Go.Proofs.YtfdiopjmohhejaaDoor
open Go.RowKit
set_option linter.unusedVariables false
def cmpI (a b : Int) : Int := if a < b then -1 else if a > b then 1 else 0
/-- two texts, byte by byte -/
def cmpL : List Nat → List Nat → Int
  | [], [] => 0
  | [], _ :: _ => -1
  | _ :: _, [] => 1
  | a :: r, b :: s => if a < b then -1 else if b < a then 1 else cmpL r s
def valCmp (x y : Val) : Int := if x.1 ≠ y.1 then cmpI x.1 y.1 else if x.1 = 1 then cmpI x.2.1 y.2.1 else if x.1 = 2 ∨ x.1 = 3 then cmpL (bts x.2.2) (bts y.2.2) else 0
def rowCmp : List Val → List Val → Int
  | [], [] => 0
  | [], _ :: _ => -1
  | _ :: _, [] => 1
  | x :: a, y :: b => if valCmp x y ≠ 0 then valCmp x y else rowCmp a b
theorem cmpL_lt {a b : Nat} {r s : List Nat} (h : a < b) : cmpL (a :: r) (b :: s) = -1 := by simp [cmpL, h]
theorem cmpL_gt {a b : Nat} {r s : List Nat} (h : b < a) : cmpL (a :: r) (b :: s) = 1 := by simp [cmpL, h]; omega
theorem cmpL_eq {a : Nat} {r s : List Nat} : cmpL (a :: r) (a :: s) = cmpL r s := by simp [cmpL]
theorem cmpL_bytes (x y : List UInt8) : Lib.compareBytes x y = cmpL (x.map UInt8.toNat) (y.map UInt8.toNat) := by
  induction x generalizing y with
  | nil => cases y <;> rfl
  | cons a x ih =>
    cases y with
    | nil => rfl
    | cons b y =>
      simp only [Lib.compareBytes, List.map_cons, cmpL, ih y]
      rfl
theorem val_ge (acc : Nat) (l : List Nat) : acc * 256 ^ l.length ≤ val acc l := by
  induction l generalizing acc with
  | nil => simp [val]
  | cons c l ih =>
    rw [val_cons]
    refine Nat.le_trans ?_ (ih (acc * 256 + c))
    rw [List.length_cons, Nat.pow_succ, Nat.add_mul, Nat.mul_comm (256 ^ l.length) 256, ← Nat.mul_assoc]
    omega
theorem cmpL_val (r s : List Nat) : ∀ (A B : List Nat) (acc : Nat), A.length = B.length → (∀ x ∈ A, x < 256) → (∀ x ∈ B, x < 256) →
    cmpL (A ++ r) (B ++ s) = if val acc A < val acc B then -1 else if val acc B < val acc A then 1 else cmpL r s
  | [], [], acc, _, _, _ => by simp [val]
  | [], _ :: _, acc, h, _, _ => by simp at h
  | _ :: _, [], acc, h, _, _ => by simp at h
  | c :: A, d :: B, acc, h, hA, hB => by
    have hl : A.length = B.length := by simpa using h
    rw [List.cons_append, List.cons_append, val_cons, val_cons]
    rcases Nat.lt_trichotomy c d with hcd | rfl | hcd
    · rw [cmpL_lt hcd]
      have h1 := val_lt (acc * 256 + c) A (fun x hx => hA x (by simp [hx]))
      have h2 := val_ge (acc * 256 + d) B
      rw [← hl] at h2
      have h3 : (acc * 256 + c + 1) * 256 ^ A.length ≤ (acc * 256 + d) * 256 ^ A.length := Nat.mul_le_mul_right _ (by omega)
      rw [if_pos (by omega)]
    · rw [cmpL_eq]
      exact cmpL_val r s A B (acc * 256 + c) hl (fun x hx => hA x (by simp [hx])) (fun x hx => hB x (by simp [hx]))
    · rw [cmpL_gt hcd]
      have h1 := val_lt (acc * 256 + d) B (fun x hx => hB x (by simp [hx]))
      have h2 := val_ge (acc * 256 + c) A
      rw [hl] at h2
      have h3 : (acc * 256 + d + 1) * 256 ^ B.length ≤ (acc * 256 + c) * 256 ^ B.length := Nat.mul_le_mul_right _ (by omega)
      rw [if_neg (by omega), if_pos (by omega)]
theorem cmpL_eight {m n : Nat} (hm : m < 18446744073709551616) (hn : n < 18446744073709551616) (r s : List Nat) :
    cmpL (eightL m ++ r) (eightL n ++ s) = if m < n then -1 else if n < m then 1 else cmpL r s := by
  have h := cmpL_val r s (eightL m) (eightL n) 0 rfl (eightL_lt m) (eightL_lt n)
  rw [val_eight hm, val_eight hn] at h
  exact h
theorem cmpL_esc (r s : List Nat) : ∀ (A B : List Nat), cmpL (escL A ++ 0 :: 0 :: r) (escL B ++ 0 :: 0 :: s) = if cmpL A B ≠ 0 then cmpL A B else cmpL r s
  | [], [] => by simp [escL, cmpL]
  | [], d :: B => by
    by_cases hd : d = 0
    · subst hd; simp [escL, cmpL]
    · have : 0 < d := by omega
      simp [escL, cmpL, hd, this]
  | c :: A, [] => by
    by_cases hc : c = 0
    · subst hc; simp [escL, cmpL]
    · have : 0 < c := by omega
      simp [escL, cmpL, hc, this]
  | c :: A, d :: B => by
    have ih := cmpL_esc r s A B
    rcases Nat.lt_trichotomy c d with hcd | rfl | hcd
    · rw [cmpL_lt hcd]
      have hd : d ≠ 0 := by omega
      by_cases hc : c = 0
      · subst hc
        simp only [escL, ↓reduceIte, if_neg hd, List.cons_append]
        rw [cmpL_lt hcd]
        rfl
      · simp only [escL, if_neg hc, if_neg hd, List.cons_append]
        rw [cmpL_lt hcd]
        rfl
    · rw [cmpL_eq]
      by_cases hc : c = 0
      · subst hc
        simp only [escL, ↓reduceIte, List.cons_append]
        rw [cmpL_eq, cmpL_eq, ih]
      · simp only [escL, if_neg hc, List.cons_append]
        rw [cmpL_eq, ih]
    · rw [cmpL_gt hcd]
      have hc : c ≠ 0 := by omega
      by_cases hd : d = 0
      · subst hd
        simp only [escL, ↓reduceIte, if_neg hc, List.cons_append]
        rw [cmpL_gt hcd]
        rfl
      · simp only [escL, if_neg hc, if_neg hd, List.cons_append]
        rw [cmpL_gt hcd]
        rfl
def tailK (x : Val) : List Nat := if x.1 = 0 then [] else if x.1 = 1 then eightL (turnN x.2.1) else escL (bts x.2.2) ++ [0, 0]
theorem oneK_head (x : Val) : oneK x = (x.1.toNat + 1) :: tailK x := by
  unfold oneK tailK
  by_cases h0 : x.1 = 0
  · rw [if_pos h0, if_pos h0, h0]; rfl
  · rw [if_neg h0, if_neg h0]
    by_cases h1 : x.1 = 1
    · rw [if_pos h1, if_pos h1, h1]; rfl
    · rw [if_neg h1, if_neg h1]
theorem cmp_one {x y : Val} (hf : Fits x) (hc : chk x = 0) (hf' : Fits y) (hc' : chk y = 0) (r s : List Nat) :
    cmpL (oneK x ++ r) (oneK y ++ s) = if valCmp x y ≠ 0 then valCmp x y else cmpL r s := by
  obtain ⟨k1, k2, k3, k4⟩ := chk_of hc
  obtain ⟨k1', k2', k3', k4'⟩ := chk_of hc'
  obtain ⟨f1, f2, f3, f4⟩ := hf
  obtain ⟨f1', f2', f3', f4'⟩ := hf'
  rw [oneK_head x, oneK_head y, List.cons_append, List.cons_append]
  obtain ⟨p, q, a⟩ := x
  obtain ⟨p', q', b⟩ := y
  simp only at *
  by_cases hp : p = p'
  · subst hp
    rw [cmpL_eq]
    unfold valCmp tailK
    simp only [ne_eq, not_true, ↓reduceIte]
    by_cases h0 : p = 0
    · subst h0
      simp
    · by_cases h1 : p = 1
      · subst h1
        simp only [if_neg h0, ↓reduceIte]
        rw [cmpL_eight (turnN_lt f4) (turnN_lt f4')]
        unfold cmpI
        have e1 : (turnN q < turnN q') ↔ q < q' := by unfold turnN; omega
        have e2 : (turnN q' < turnN q) ↔ q > q' := by unfold turnN; omega
        by_cases g1 : q < q'
        · rw [if_pos (e1.2 g1), if_pos g1]; rfl
        · rw [if_neg (fun h => g1 (e1.1 h)), if_neg g1]
          by_cases g2 : q > q'
          · rw [if_pos (e2.2 g2), if_pos g2]; rfl
          · rw [if_neg (fun h => g2 (e2.1 h)), if_neg g2]; rfl
      · have h23 : p = 2 ∨ p = 3 := by omega
        simp only [if_neg h0, if_neg h1, if_pos h23]
        have h := cmpL_esc r s (bts a) (bts b)
        rw [show escL (bts a) ++ [0, 0] ++ r = escL (bts a) ++ 0 :: 0 :: r by simp, show escL (bts b) ++ [0, 0] ++ s = escL (bts b) ++ 0 :: 0 :: s by simp]
        exact h
  · unfold valCmp cmpI
    simp only [ne_eq, hp, not_false_eq_true, ↓reduceIte]
    by_cases hlt : p < p'
    · rw [cmpL_lt (by omega), if_pos hlt]; rfl
    · have hgt : p > p' := by omega
      rw [cmpL_gt (by omega), if_neg hlt, if_pos hgt]; rfl
theorem cmp_key : ∀ (a b : List Val), (∀ x ∈ a, Fits x) → (∀ x ∈ a, chk x = 0) → (∀ x ∈ b, Fits x) → (∀ x ∈ b, chk x = 0) → cmpL (keyL a) (keyL b) = rowCmp a b
  | [], [], _, _, _, _ => rfl
  | [], y :: b, _, _, _, _ => by
    rw [keyL_cons, oneK_head]
    rfl
  | x :: a, [], _, _, _, _ => by
    rw [keyL_cons, oneK_head]
    rfl
  | x :: a, y :: b, fa, ca, fb, cb => by
    rw [keyL_cons, keyL_cons, cmp_one (fa x (by simp)) (ca x (by simp)) (fb y (by simp)) (cb y (by simp)), cmp_key a b (fun z hz => fa z (by simp [hz])) (fun z hz => ca z (by simp [hz])) (fun z hz => fb z (by simp [hz])) (fun z hz => cb z (by simp [hz]))]
    rfl
end Go.Proofs.YtfdiopjmohhejaaDoor
