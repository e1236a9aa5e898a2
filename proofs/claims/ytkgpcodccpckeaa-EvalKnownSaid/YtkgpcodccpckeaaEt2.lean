/- Whether an expression may be, the kind to which it comes, how great it is: plain mathematics of trees. Nothing of the program is walked here. Conditions: those of each lemma. -/
import Derived.Test.YtkgpcodccpckeaaEt1
import Derived.Test.YtkgpcodccpckeaaEv3
namespace Go.Proofs.Ytkgpcodccpckeaa
open Go Go.RowKit
set_option linter.unusedVariables false
set_option linter.unusedSimpArgs false
def fitsB (op : Int) (m : Nat) : Bool := if op = 20 then decide (m ≤ 1) else if op = 1 ∨ op = 2 then decide (m = 0) else if op = 3 ∨ op = 4 ∨ op = 5 ∨ op = 21 ∨ op = 22 ∨ op = 23 then decide (m = 1) else decide (6 ≤ op ∧ op ≤ 19 ∧ m = 2)
/-- the head's part of mayBe -/
def mayH (op : Int) (v : Val) (n : Int) (m : Nat) (k : Int) : Bool := fitsB op m && (decide (¬ op = 1) || decide (chk v = 0)) && (decide (¬ op = 2) || decide (0 ≤ n ∧ n < k))
mutual
def mayP (k : Int) : XT → Int → Bool
  | .mk op v _ _ n _ _ ks, d => (decide (0 ≤ (if groupedB op then d - 1 else d)) && mayH op v n ks.length k) && mayPL k ks (if groupedB op then d - 1 else d)
def mayPL (k : Int) : List XT → Int → Bool
  | [], _ => true
  | x :: l, d => mayP k x d && mayPL k l d
end
/-- the head's part of May -/
def mayRh (op : Int) (v : Val) (n : Int) (m : Nat) (k g : Int) : Bool :=
  if op = 1 then decide (m = 0) && decide (chk v = 0) else if op = 2 then decide (m = 0 ∧ 0 ≤ n ∧ n < k) else if 3 ≤ op ∧ op ≤ 5 then decide (m = 1) else if 6 ≤ op ∧ op ≤ 19 then decide (m = 2) else if op = 20 then decide (m ≤ 1 ∧ 0 < g) else if 21 ≤ op ∧ op ≤ 23 then decide (m = 1 ∧ 0 < g) else false
mutual
def mayR (k : Int) : XT → Int → Bool
  | .mk op v _ _ n _ _ ks, g => mayRh op v n ks.length k g && mayRL k ks (if 20 ≤ op ∧ g = 1 then 0 else g)
def mayRL (k : Int) : List XT → Int → Bool
  | [], _ => true
  | x :: l, g => mayR k x g && mayRL k l g
end
/-- no deeper than so, and nowhere too many -/
inductive Sm : Nat → XT → Prop
  | mk (e : Nat) (op : Int) (v : Val) (tb nm : ByteArray) (n : Int) (A : Option Addr) (c : Nat) (ks : List XT) (he : e ≤ 200) (hl : ks.length ≤ 300) (hk : ∀ k ∈ ks, Sm (e + 1) k) : Sm e (.mk op v tb nm n A c ks)
theorem head_same (op : Int) (v : Val) (n : Int) (m : Nat) (k d g : Int) (h : (d = 0 ∧ g = 0) ∨ (d = 1 ∧ g = 1) ∨ (g = 2 ∧ 1 ≤ d)) : (decide (0 ≤ (if groupedB op then d - 1 else d)) && mayH op v n m k) = mayRh op v n m k g := by
  have hg : groupedB op = decide (20 ≤ op ∧ op ≤ 23) := by unfold groupedB; simp
  unfold mayH mayRh fitsB
  rw [hg]
  by_cases h1 : op = 1
  · subst h1; simp; intro; omega
  by_cases h2 : op = 2
  · subst h2
    simp
    by_cases hm : m = 0 <;> simp [hm] <;> omega
  by_cases h3 : 3 ≤ op ∧ op ≤ 5
  · have e1 : ¬ op = 20 := by omega
    have e2 : ¬ (20 ≤ op ∧ op ≤ 23) := by omega
    have e3 : op = 3 ∨ op = 4 ∨ op = 5 ∨ op = 21 ∨ op = 22 ∨ op = 23 := by omega
    simp [h1, h2, h3, e1, e2, e3]
    intro; omega
  by_cases h4 : 6 ≤ op ∧ op ≤ 19
  · have e1 : ¬ op = 20 := by omega
    have e2 : ¬ (20 ≤ op ∧ op ≤ 23) := by omega
    have e3 : ¬ (op = 3 ∨ op = 4 ∨ op = 5 ∨ op = 21 ∨ op = 22 ∨ op = 23) := by omega
    simp [h1, h2, h3, h4, e1, e2, e3]
    intro; omega
  by_cases h5 : op = 20
  · subst h5
    by_cases hd : 1 ≤ d
    · have : 0 < g := by omega
      simp [hd, this]
    · have e : ¬ 0 < g := by omega
      simp [e]; intro; omega
  by_cases h6 : 21 ≤ op ∧ op ≤ 23
  · have e2 : 20 ≤ op ∧ op ≤ 23 := by omega
    have e3 : op = 3 ∨ op = 4 ∨ op = 5 ∨ op = 21 ∨ op = 22 ∨ op = 23 := by omega
    by_cases hd : 1 ≤ d
    · have : 0 < g := by omega
      simp [h1, h2, h3, h4, h5, h6, e2, e3, hd, this]
    · have e : ¬ 0 < g := by omega
      simp [h1, h2, h3, h4, h5, h6, e2, e3, e]; intro; omega
  · have e2 : ¬ (20 ≤ op ∧ op ≤ 23) := by omega
    have e3 : ¬ (op = 3 ∨ op = 4 ∨ op = 5 ∨ op = 21 ∨ op = 22 ∨ op = 23) := by omega
    have e4 : ¬ (6 ≤ op ∧ op ≤ 19 ∧ m = 2) := by omega
    rw [if_neg h5, if_neg (show ¬ (op = 1 ∨ op = 2) by omega), if_neg e3, decide_eq_false e4, if_neg h1, if_neg h2, if_neg h3, if_neg h4, if_neg h5, if_neg h6]
    simp
theorem mayRh_op {op : Int} {v : Val} {n : Int} {m : Nat} {k g : Int} (h : mayRh op v n m k g = true) : 1 ≤ op ∧ op ≤ 23 := by
  unfold mayRh at h
  repeat' split at h
  all_goals first | omega | cases h
theorem may_same (k : Int) (T : XT) : ∀ (e : Nat) (d g : Int), Sm e T → (d = 0 ∧ g = 0) ∨ (d = 1 ∧ g = 1) ∨ (g = 2 ∧ 201 ≤ d + e) → mayP k T d = mayR k T g := by
  induction T using xt_ind with
  | h op v tb nm n A c ks ih =>
    intro e d g hs hd
    cases hs with
    | mk _ _ _ _ _ _ _ _ _ he hl hk =>
    rw [mayP, mayR, head_same op v n ks.length k d g (by omega)]
    cases hh : mayRh op v n ks.length k g
    · rfl
    · have ho := mayRh_op hh
      simp only [Bool.true_and]
      have hg : groupedB op = decide (20 ≤ op) := by unfold groupedB; simp; intro; omega
      have hg0 : 20 ≤ op → 0 < g := fun h => by
        unfold mayRh at hh
        rw [if_neg (by omega), if_neg (by omega), if_neg (by omega), if_neg (by omega)] at hh
        split at hh
        · simp at hh; omega
        · rw [if_pos (by omega)] at hh; simp at hh; omega
      have key : ∀ l : List XT, (∀ x ∈ l, x ∈ ks) → mayPL k l (if groupedB op then d - 1 else d) = mayRL k l (if 20 ≤ op ∧ g = 1 then 0 else g) := by
        intro l
        induction l with
        | nil => intro _; rfl
        | cons x l il =>
          intro hm
          rw [mayPL, mayRL, il (fun y hy => hm y (List.mem_cons_of_mem _ hy)), ih x (hm x (List.mem_cons_self ..)) (e + 1) _ _ (hk x (hm x (List.mem_cons_self ..))) ?_]
          rw [hg]
          by_cases h20 : 20 ≤ op
          · have := hg0 h20
            simp only [h20, decide_true, if_true, true_and]
            by_cases g1 : g = 1
            · rw [if_pos g1]; omega
            · rw [if_neg g1]; omega
          · simp only [h20, decide_false, Bool.false_eq_true, if_false, false_and]
            omega
      exact key ks (fun _ h => h)
/-- do kinds go together, of any op -/
def togA (op : Int) (l : List Int) : Bool := if op = 20 ∨ op = 22 ∨ op = 23 then true else togB op l
def fitR (op : Int) (l : List Int) : Bool := if op = 5 ∨ op = 20 ∨ 22 ≤ op then true else if 12 ≤ op ∧ op ≤ 17 then (l.getD 0 0 == l.getD 1 0 || l.getD 0 0 == 0) || l.getD 1 0 == 0 else if op = 11 then onlyB 2 l else onlyB 1 l
def kindF (op : Int) (r : List Int × Int) : Int × Int := if r.2 ≠ 0 then (0, r.2) else if togA op r.1 = false then (0, 150) else if op = 11 then (2, 0) else if 22 ≤ op then (r.1.headD 0, 0) else (1, 0)
mutual
def kindP (cols : List Int) : XT → Bool → Int × Int
  | .mk op v _ _ n _ _ ks, g => if op = 1 then (v.1, 0) else if op = 2 then (cols.getD n.toNat 0, 0) else if (groupedB op && !g) = true then (0, 151) else kindF op (kindL cols ks (if groupedB op then false else g))
def kindL (cols : List Int) : List XT → Bool → List Int × Int
  | [], _ => ([], 0)
  | x :: l, g => if (kindP cols x g).2 ≠ 0 then ([], (kindP cols x g).2) else ((kindP cols x g).1 :: (kindL cols l g).1, (kindL cols l g).2)
end
theorem kindL_len (cols : List Int) (g : Bool) : ∀ l : List XT, (kindL cols l g).2 = 0 → (kindL cols l g).1.length = l.length
  | [], _ => rfl
  | x :: l, h => by
    rw [kindL] at h ⊢
    by_cases e : (kindP cols x g).2 ≠ 0
    · rw [if_pos e] at h; exact absurd h e
    · rw [if_neg e] at h ⊢
      simp only [List.length_cons]
      rw [kindL_len cols g l h]
theorem fit_tog (op : Int) (l : List Int) (ho : 3 ≤ op ∧ op ≤ 23) (hl : 12 ≤ op → op ≤ 17 → l.length = 2) : fitR op l = togA op l := by
  unfold fitR togA togB
  by_cases h5 : op = 5
  · subst h5; simp
  by_cases h20 : op = 20
  · subst h20; simp
  by_cases h22 : 22 ≤ op
  · have : op = 20 ∨ op = 22 ∨ op = 23 := by omega
    simp [h22, this]
  have e1 : ¬ (op = 5 ∨ op = 20 ∨ 22 ≤ op) := by omega
  have e2 : ¬ (op = 20 ∨ op = 22 ∨ op = 23) := by omega
  rw [if_neg e1, if_neg e2, if_neg h5]
  by_cases h12 : 12 ≤ op ∧ op ≤ 17
  · have e3 : ¬ op = 11 := by omega
    have e4 : comparesB op = true := by unfold comparesB; simp [h12]
    rw [if_pos h12, if_neg e3, if_pos e4]
    have hlen := hl h12.1 h12.2
    match l, hlen with
    | [a, b], _ =>
      simp only [List.getD_cons_zero, List.getD_cons_succ, List.headD_cons, onlyB, List.all_cons, List.all_nil, Bool.and_true, beq_self_eq_true, Bool.true_or, Bool.true_and]
      rw [show (b == a) = (a == b) from BEq.comm]
      cases (a == b) <;> cases (a == 0) <;> cases (b == 0) <;> rfl
  · rw [if_neg h12]
    by_cases h11 : op = 11
    · rw [if_pos h11, if_pos h11]
    · have e4 : comparesB op = false := by unfold comparesB; simp; intro; omega
      rw [if_neg h11, if_neg h11, e4]
      rfl
end Go.Proofs.Ytkgpcodccpckeaa
