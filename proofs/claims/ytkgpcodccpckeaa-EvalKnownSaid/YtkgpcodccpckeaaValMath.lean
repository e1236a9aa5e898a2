/- Plain mathematics of the rows' order: one order. Conditions: those of each lemma. -/
import Derived.Test.YtkgpcodccpckeaaValOrd
namespace Go.Proofs.Ytkgpcodccpckeaa
set_option linter.unusedVariables false
/-- an order: -1, 0 or 1; turned about it turns; what stands ahead of something that does so of a third one stands ahead of that -/
structure Good {α : Type} (c : α → α → Int) : Prop where
  range : ∀ x y, c x y = -1 ∨ c x y = 0 ∨ c x y = 1
  anti : ∀ x y, c y x = - c x y
  trans : ∀ x y z, c x y ≤ 0 → c y z ≤ 0 → c x z ≤ 0 ∧ (c x z = 0 → c x y = 0 ∧ c y z = 0)
theorem Good.self {α : Type} {c : α → α → Int} (h : Good c) (x : α) : c x x = 0 := by have := h.anti x x; omega
theorem Good.zero {α : Type} {c : α → α → Int} (h : Good c) {x y z : α} (h1 : c x y = 0) (h2 : c y z = 0) : c x z = 0 := by
  have t1 := (h.trans x y z (by omega) (by omega)).1
  have t2 := (h.trans z y x (by rw [h.anti]; omega) (by rw [h.anti]; omega)).1
  rw [h.anti x z] at t2
  omega
theorem Good.left {α : Type} {c : α → α → Int} (h : Good c) {x y z : α} (h1 : c x y = 0) : c x z = c y z := by
  rcases h.range y z with h2 | h2 | h2
  · have t := h.trans x y z (by omega) (by omega)
    rcases h.range x z with h3 | h3 | h3
    · omega
    · have := (t.2 h3).2; omega
    · omega
  · rw [h.zero h1 h2, h2]
  · have t := h.trans z y x (by rw [h.anti]; omega) (by rw [h.anti]; omega)
    have e1 := h.anti x z
    have e2 := h.anti y z
    rcases h.range x z with h3 | h3 | h3
    · omega
    · have := (t.2 (by omega)).1; omega
    · omega
theorem Good.right {α : Type} {c : α → α → Int} (h : Good c) {x y z : α} (h1 : c y z = 0) : c x z = c x y := by
  have e1 := h.left (x := z) (y := y) (z := x) (by rw [h.anti]; omega)
  have e2 := h.anti x z
  have e3 := h.anti x y
  omega
theorem Good.on {α β : Type} {c : α → α → Int} (h : Good c) (f : β → α) : Good (fun x y => c (f x) (f y)) := ⟨fun x y => h.range _ _, fun x y => h.anti _ _, fun x y z => h.trans _ _ _⟩
/-- lists, element by element -/
def lexL {α : Type} (c : α → α → Int) : List α → List α → Int
  | [], [] => 0
  | [], _ :: _ => -1
  | _ :: _, [] => 1
  | x :: a, y :: b => if c x y ≠ 0 then c x y else lexL c a b
theorem lex_z {α : Type} {c : α → α → Int} {x y : α} {a b : List α} (h : c x y = 0) : lexL c (x :: a) (y :: b) = lexL c a b := by
  show (if c x y ≠ 0 then c x y else lexL c a b) = _
  rw [if_neg (by rw [h]; simp)]
theorem lex_n {α : Type} {c : α → α → Int} {x y : α} {a b : List α} (h : c x y ≠ 0) : lexL c (x :: a) (y :: b) = c x y := by
  show (if c x y ≠ 0 then c x y else lexL c a b) = _
  rw [if_pos h]
theorem lex_range {α : Type} {c : α → α → Int} (h : Good c) : ∀ a b, lexL c a b = -1 ∨ lexL c a b = 0 ∨ lexL c a b = 1
  | [], [] => .inr (.inl rfl)
  | [], _ :: _ => .inl rfl
  | _ :: _, [] => .inr (.inr rfl)
  | x :: a, y :: b => by
    unfold lexL
    split
    · exact h.range x y
    · exact lex_range h a b
theorem lex_anti {α : Type} {c : α → α → Int} (h : Good c) : ∀ a b, lexL c b a = - lexL c a b
  | [], [] => rfl
  | [], _ :: _ => rfl
  | _ :: _, [] => rfl
  | x :: a, y :: b => by
    unfold lexL
    rw [h.anti x y]
    by_cases h0 : c x y = 0
    · rw [if_neg (by simp [h0]), if_neg (by simp [h0])]
      exact lex_anti h a b
    · rw [if_pos (by omega), if_pos h0]
theorem lex_trans {α : Type} {c : α → α → Int} (h : Good c) : ∀ a b d, lexL c a b ≤ 0 → lexL c b d ≤ 0 → lexL c a d ≤ 0 ∧ (lexL c a d = 0 → lexL c a b = 0 ∧ lexL c b d = 0)
  | [], [], [], _, _ => by simp [lexL]
  | [], [], _ :: _, _, _ => by simp [lexL]
  | [], _ :: _, [], _, h2 => by simp [lexL] at h2
  | [], _ :: _, _ :: _, _, _ => by simp [lexL]
  | _ :: _, [], _, h1, _ => by simp [lexL] at h1
  | _ :: _, _ :: _, [], _, h2 => by simp [lexL] at h2
  | x :: a, y :: b, z :: d, h1, h2 => by
    by_cases hxy : c x y = 0
    · rw [lex_z hxy] at h1 ⊢
      have hxz := h.left (z := z) hxy
      by_cases hyz : c y z = 0
      · rw [lex_z hyz] at h2 ⊢
        rw [lex_z (hxz.trans hyz)]
        exact lex_trans h a b d h1 h2
      · rw [lex_n hyz] at h2 ⊢
        rw [lex_n (show c x z ≠ 0 by rw [hxz]; exact hyz), hxz]
        exact ⟨h2, fun e => absurd e hyz⟩
    · rw [lex_n hxy] at h1 ⊢
      by_cases hyz : c y z = 0
      · have hxz := h.right (x := x) hyz
        rw [lex_n (show c x z ≠ 0 by rw [hxz]; exact hxy), hxz]
        exact ⟨h1, fun e => absurd e hxy⟩
      · rw [lex_n hyz] at h2
        have t := h.trans x y z h1 h2
        have hn : c x z ≠ 0 := fun e => hxy (t.2 e).1
        rw [lex_n hn]
        exact ⟨t.1, fun e => absurd e hn⟩
theorem Good.lex {α : Type} {c : α → α → Int} (h : Good c) : Good (lexL c) := ⟨lex_range h, lex_anti h, lex_trans h⟩
theorem good_int : Good cmpI := by
  refine ⟨fun x y => ?_, fun x y => ?_, fun x y z h1 h2 => ?_⟩
  · unfold cmpI; split <;> (try split) <;> omega
  · unfold cmpI; split <;> split <;> (try split) <;> (try split) <;> omega
  · unfold cmpI at *
    repeat' split at h1
    all_goals repeat' split at h2
    all_goals repeat' split
    all_goals omega
theorem cmpI_zero {a b : Int} (h : cmpI a b = 0) : a = b := by
  unfold cmpI at h
  split at h
  · omega
  · split at h <;> omega
theorem lex_eq : ∀ a b : List Int, lexL cmpI a b = 0 → a = b
  | [], [], _ => rfl
  | [], _ :: _, h => by simp [lexL] at h
  | _ :: _, [], h => by simp [lexL] at h
  | x :: a, y :: b, h => by
    unfold lexL at h
    by_cases h0 : cmpI x y = 0
    · rw [if_neg (by simp [h0])] at h
      rw [cmpI_zero h0, lex_eq a b h]
    · rw [if_pos h0] at h; exact absurd h h0
theorem cmpL_lex : ∀ a b : List Nat, cmpL a b = lexL cmpI (a.map Int.ofNat) (b.map Int.ofNat)
  | [], [] => rfl
  | [], _ :: _ => rfl
  | _ :: _, [] => rfl
  | x :: a, y :: b => by
    simp only [cmpL, List.map_cons, lexL, cmpI]
    rw [cmpL_lex a b]
    have e1 : (Int.ofNat x < Int.ofNat y) ↔ x < y := Int.ofNat_lt
    have e2 : (Int.ofNat x > Int.ofNat y) ↔ y < x := Int.ofNat_lt
    simp only [e1, e2]
    split
    · rfl
    · split
      · rfl
      · rfl
def vkey (x : Val) : List Int := x.1 :: (if x.1 = 1 then x.2.1 else 0) :: (if x.1 = 2 ∨ x.1 = 3 then (bts x.2.2).map Int.ofNat else [])
theorem cmpI_self (a : Int) : cmpI a a = 0 := by unfold cmpI; rw [if_neg (by omega), if_neg (by omega)]
theorem valCmp_key (x y : Val) : valCmp x y = lexL cmpI (vkey x) (vkey y) := by
  obtain ⟨p, q, s⟩ := x
  obtain ⟨p', q', s'⟩ := y
  unfold valCmp vkey
  simp only
  by_cases hp : p = p'
  · subst hp
    rw [if_neg (show ¬ (p ≠ p) by simp), lex_z (cmpI_self p)]
    by_cases h1 : p = 1
    · subst h1
      simp only [↓reduceIte]
      rw [if_neg (show ¬ ((1 : Int) = 2 ∨ (1 : Int) = 3) by omega), if_neg (show ¬ ((1 : Int) = 2 ∨ (1 : Int) = 3) by omega)]
      by_cases h0 : cmpI q q' = 0
      · rw [lex_z h0, h0]; rfl
      · rw [lex_n h0]
    · rw [if_neg h1, if_neg h1, if_neg h1, lex_z (cmpI_self 0)]
      by_cases h23 : p = 2 ∨ p = 3
      · rw [if_pos h23, if_pos h23, if_pos h23]
        exact cmpL_lex _ _
      · rw [if_neg h23, if_neg h23, if_neg h23]; rfl
  · have hne : cmpI p p' ≠ 0 := fun e => hp (cmpI_zero e)
    rw [if_pos hp, lex_n hne]
theorem good_val : Good valCmp := by
  have h := good_int.lex.on vkey
  have e : valCmp = fun x y => lexL cmpI (vkey x) (vkey y) := by funext x y; exact valCmp_key x y
  rw [e]; exact h
theorem rowCmp_lex : ∀ a b, rowCmp a b = lexL valCmp a b
  | [], [] => rfl
  | [], _ :: _ => rfl
  | _ :: _, [] => rfl
  | x :: a, y :: b => by simp only [rowCmp, lexL, rowCmp_lex a b]
theorem good_row : Good rowCmp := by
  have e : rowCmp = lexL valCmp := by funext x y; exact rowCmp_lex x y
  rw [e]; exact good_val.lex
theorem row_zero : ∀ (a b : List Val), rowCmp a b = 0 → a.length = b.length ∧ ∀ (j : Nat) x y, a[j]? = some x → b[j]? = some y → valCmp x y = 0
  | [], [], _ => ⟨rfl, fun j x y hx => by simp at hx⟩
  | [], _ :: _, h => by simp [rowCmp] at h
  | _ :: _, [], h => by simp [rowCmp] at h
  | x :: a, y :: b, h => by
    unfold rowCmp at h
    by_cases h0 : valCmp x y = 0
    · rw [if_neg (by simp [h0])] at h
      obtain ⟨h1, h2⟩ := row_zero a b h
      refine ⟨by simp [h1], fun j u v hu hv => ?_⟩
      cases j with
      | zero => simp at hu hv; subst hu hv; exact h0
      | succ j => simp at hu hv; exact h2 j u v hu hv
    · rw [if_pos h0] at h; exact absurd h h0
theorem map_ofNat_inj {a b : List Nat} (h : a.map Int.ofNat = b.map Int.ofNat) : a = b := by
  induction a generalizing b with
  | nil => cases b with | nil => rfl | cons _ _ => simp at h
  | cons x a ih => cases b with
    | nil => simp at h
    | cons y b =>
      simp only [List.map_cons, List.cons.injEq] at h
      rw [Int.ofNat.inj h.1, ih h.2]
theorem val_same {x y : Val} (h : valCmp x y = 0) (hx : chk x = 0) (hy : chk y = 0) : x = y := by
  rw [valCmp_key] at h
  have e := lex_eq _ _ h
  obtain ⟨k1, k2, k3, k4⟩ := chk_of hx
  obtain ⟨m1, m2, m3, m4⟩ := chk_of hy
  obtain ⟨p, q, s⟩ := x
  obtain ⟨p', q', s'⟩ := y
  unfold vkey at e
  simp only [List.cons.injEq] at e k1 k2 k3 k4 m1 m2 m3 m4
  obtain ⟨rfl, e2, e3⟩ := e
  have hq : q = q' := by
    by_cases h1 : p = 1
    · rw [if_pos h1, if_pos h1] at e2; exact e2
    · rw [k2 h1, m2 h1]
  have hs : s = s' := by
    by_cases h23 : p = 2 ∨ p = 3
    · rw [if_pos h23, if_pos h23] at e3
      exact bts_inj (map_ofNat_inj e3)
    · by_cases h2 : p < 2
      · rw [empty_of (k3 h2), empty_of (m3 h2)]
      · rw [empty_of (s := s) (by
          by_cases h0 : s.size = 0
          · exact h0
          · omega), empty_of (s := s') (by
          by_cases h0 : s'.size = 0
          · exact h0
          · omega)]
  rw [hq, hs]
end Go.Proofs.Ytkgpcodccpckeaa
