/- Layer 13: how many bytes blanks and remarks have; ref13's Skip. Conditions: those of each lemma. -/
import Derived.Test.YtibnmkjabpoppaaGreatDoorLx2
namespace Go.Proofs.YtibnmkjabpoppaaGreatDoor
open Go Go.RowKit
set_option linter.unusedVariables false
set_option linter.unusedSimpArgs false
theorem rint13 {a b : Int} (h : a = b) : Ending.returned (.int .i64 a) = Ending.returned (.int .i64 b) := by rw [h]
def rmk (l : List Nat) : Nat := (l.takeWhile (fun c => c != 10)).length
def skp : Nat → List Nat → Nat
  | 0, _ => 0
  | _ + 1, [] => 0
  | f + 1, c :: l => if blaB (c : Int) = true then 1 + skp f l else if c = 45 ∧ l.getD 0 0 = 45 then rmk (c :: l) + skp f ((c :: l).drop (rmk (c :: l))) else 0
/-- how many bytes blanks and remarks have that begin a text -/
def sk (l : List Nat) : Nat := skp l.length l
theorem rmk_le (l : List Nat) : rmk l ≤ l.length := List.IsPrefix.length_le (List.takeWhile_prefix _)
theorem rmk_pos {c : Nat} {l : List Nat} (h : c ≠ 10) : 1 ≤ rmk (c :: l) := by
  unfold rmk
  rw [List.takeWhile_cons_of_pos (by simpa using h)]
  simp
theorem skp_fuel : ∀ (f : Nat) (l : List Nat), l.length ≤ f → skp f l = skp l.length l := by
  intro f
  induction f using Nat.strongRecOn with
  | ind f ih =>
    intro l hl
    match f, l with
    | 0, [] => rfl
    | 0, c :: l => simp at hl
    | f + 1, [] => rfl
    | f + 1, c :: l =>
      simp only [List.length_cons] at hl ⊢
      rw [skp, skp]
      split
      · rw [ih f (by omega) l (by omega)]
      · split
        · rename_i h45
          have hp := rmk_pos (c := c) (l := l) (by omega)
          have hle := rmk_le (c :: l)
          simp only [List.length_cons] at hle
          have hd : ((c :: l).drop (rmk (c :: l))).length ≤ l.length := by rw [List.length_drop, List.length_cons]; omega
          rw [ih f (by omega) _ (by omega)]
          by_cases hlf : l.length = f
          · rw [hlf, ih f (by omega) _ (by omega)]
          · rw [ih l.length (by omega) _ hd]
        · rfl
theorem sk_nil : sk [] = 0 := rfl
theorem sk_bla {c : Nat} {l : List Nat} (h : blaB (c : Int) = true) : sk (c :: l) = 1 + sk l := by
  unfold sk
  rw [List.length_cons, skp, if_pos h]
theorem sk_rem {c : Nat} {l : List Nat} (hb : ¬ blaB (c : Int) = true) (h : c = 45 ∧ l.getD 0 0 = 45) : sk (c :: l) = rmk (c :: l) + sk ((c :: l).drop (rmk (c :: l))) := by
  have hp := rmk_pos (c := c) (l := l) (by omega)
  unfold sk
  rw [List.length_cons, skp, if_neg hb, if_pos h, skp_fuel l.length _ (by rw [List.length_drop, List.length_cons]; omega)]
theorem sk_no {c : Nat} {l : List Nat} (hb : ¬ blaB (c : Int) = true) (h : ¬ (c = 45 ∧ l.getD 0 0 = 45)) : sk (c :: l) = 0 := by
  unfold sk
  rw [List.length_cons, skp, if_neg hb, if_neg h]
theorem drop_at (S : ByteArray) (q : Nat) (h : q < S.size) : (bts S).drop q = atB S q :: (bts S).drop (q + 1) := by
  have hl := bts_length S
  rw [List.drop_eq_getElem_cons (by omega)]
  unfold atB
  rw [List.getD_eq_getElem?_getD, List.getElem?_eq_getElem (by omega)]
  rfl
theorem drop_hd (S : ByteArray) (q : Nat) : ((bts S).drop q).getD 0 0 = atB S q := by
  unfold atB
  rw [List.getD_eq_getElem?_getD, List.getElem?_drop, Nat.add_zero, ← List.getD_eq_getElem?_getD]
theorem atB_at (S : ByteArray) (q : Nat) (h : q < S.size) : S[q].toNat = atB S q := byte_at S q h
theorem atB_lt (S : ByteArray) (q : Nat) : atB S q < 256 := bts_getD_lt S q
end Go.Proofs.YtibnmkjabpoppaaGreatDoor
