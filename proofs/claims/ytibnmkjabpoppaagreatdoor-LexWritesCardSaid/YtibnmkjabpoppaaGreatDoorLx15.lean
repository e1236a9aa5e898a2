/- Layer 13: plain mathematics of a token: what begins at a place, and where it ends. Conditions: those of each lemma. -/
import Derived.Test.YtibnmkjabpoppaaGreatDoorLx14
import Derived.Test.YtibnmkjabpoppaaGreatDoorLitMath
namespace Go.Proofs.YtibnmkjabpoppaaGreatDoor
open Go Go.RowKit
set_option linter.unusedVariables false
set_option linter.unusedSimpArgs false
/-- what begins at a place: an error and where it is; a token (kind, text, number, place) and the place behind it -/
inductive An
  | bad (e q : Nat)
  | ok (k : Nat) (x : ByteArray) (n p q : Nat)
def anT : An → Value
  | .bad e q => .tuple #[tokV 0 ⟨#[]⟩ 0 0, spotV e q]
  | .ok k x n p _ => .tuple #[tokV k x n p, spotV 0 0]
def anR : An → Value
  | .bad e q => .tuple #[tokV 0 ⟨#[]⟩ 0 0, .int .i64 0, spotV e q]
  | .ok k x n p q => .tuple #[tokV k x n p, .int .i64 q, spotV 0 0]
def anQ : An → Option Nat
  | .bad _ _ => none
  | .ok _ _ _ _ q => some q
/-- the bytes of a text behind its quote, and how many bytes it has there -/
def utx : List Nat → Option (List Nat × Nat)
  | [] => none
  | [c] => if c = 39 then some ([], 1) else none
  | c :: d :: l => if c = 39 then (if d = 39 then (utx l).map (fun r => (39 :: r.1, r.2 + 2)) else some ([], 1)) else (utx (d :: l)).map (fun r => (c :: r.1, r.2 + 1))
theorem utx_char {c : Nat} {l : List Nat} (h : c ≠ 39) : utx (c :: l) = (utx l).map (fun r => (c :: r.1, r.2 + 1)) := by
  cases l with
  | nil => simp [utx, h]
  | cons d l => rw [utx, if_neg h]
theorem utx_two {l : List Nat} : utx (39 :: 39 :: l) = (utx l).map (fun r => (39 :: r.1, r.2 + 2)) := by simp [utx]
theorem utx_end {l : List Nat} (h : l.getD 0 0 ≠ 39) : utx (39 :: l) = some ([], 1) := by
  cases l with
  | nil => simp [utx]
  | cons d l => simp only [List.getD_cons_zero] at h; simp [utx, h]
/-- what is read so far, joined to what is still to be read -/
def ujo (acc : List Nat) (q : Nat) (o : Option (List Nat × Nat)) : Option (List Nat × Nat) := o.map (fun r => (acc ++ r.1, q + r.2))
theorem ujo_1 (acc : List Nat) (q c k : Nat) (o : Option (List Nat × Nat)) : ujo acc q (o.map (fun r => (c :: r.1, r.2 + k))) = ujo (acc ++ [c]) (q + k) o := by
  cases o with
  | none => rfl
  | some r => simp [ujo]; omega
theorem ujo_0 (p : Nat) (o : Option (List Nat × Nat)) : ujo [] p o = o.map (fun r => (r.1, p + r.2)) := by cases o <;> simp [ujo]
/-- the bytes of a blob behind its quote, and how many bytes it has there; or where it is wrong -/
def ubl : List Nat → Except Nat (List Nat × Nat)
  | [] => .error 0
  | [c] => if c = 39 then .ok ([], 1) else if hexd c = none then .error 0 else .error 1
  | c :: d :: l => if c = 39 then .ok ([], 1) else match hexd c with
    | none => .error 0
    | some a => match hexd d with
      | none => .error 1
      | some b => (match ubl l with | .ok r => .ok ((16 * a + b) :: r.1, r.2 + 2) | .error k => .error (k + 2))
def ubj (acc : List Nat) (q : Nat) : Except Nat (List Nat × Nat) → Except Nat (List Nat × Nat)
  | .ok r => .ok (acc ++ r.1, q + r.2)
  | .error k => .error (q + k)
theorem ubl_end (l : List Nat) : ubl (39 :: l) = .ok ([], 1) := by cases l <;> simp [ubl]
theorem ubl_0 {c : Nat} {l : List Nat} (h : c ≠ 39) (hx : hexd c = none) : ubl (c :: l) = .error 0 := by cases l <;> simp [ubl, h, hx]
theorem ubl_1 {c a : Nat} {l : List Nat} (h : c ≠ 39) (hx : hexd c = some a) (hl : hexd (l.getD 0 0) = none) : ubl (c :: l) = .error 1 := by
  cases l with
  | nil => simp [ubl, h, hx]
  | cons d l => simp only [List.getD_cons_zero] at hl; simp [ubl, h, hx, hl]
theorem ubl_2 {c d a b : Nat} {l : List Nat} (h : c ≠ 39) (hx : hexd c = some a) (hy : hexd d = some b) : ubl (c :: d :: l) = (match ubl l with | .ok r => .ok ((16 * a + b) :: r.1, r.2 + 2) | .error k => .error (k + 2)) := by
  simp only [ubl, h, ↓reduceIte, hx, hy]
theorem ubj_2 (acc : List Nat) (q x : Nat) (o : Except Nat (List Nat × Nat)) : ubj acc q (match o with | .ok r => .ok (x :: r.1, r.2 + 2) | .error k => .error (k + 2)) = ubj (acc ++ [x]) (q + 2) o := by
  cases o with
  | error k => simp [ubj]; omega
  | ok r => simp [ubj]; omega
def longA (k : Nat) (x : List Nat) (p q : Nat) : An := if 1000 < (bstr x).size then .bad 3 p else .ok k (bstr x) 0 p q
def textR (S : ByteArray) (p : Nat) : Option (List Nat × Nat) → An
  | none => .bad 6 S.size
  | some r => longA 4 r.1 p r.2
def textA (S : ByteArray) (p : Nat) : An := textR S p (ujo [] (p + 1) (utx ((bts S).drop (p + 1))))
def blobR (p : Nat) : Except Nat (List Nat × Nat) → An
  | .error q => .bad 6 q
  | .ok r => longA 5 r.1 p r.2
def blobA (S : ByteArray) (p : Nat) : An := blobR p (ubj [] (p + 2) (ubl ((bts S).drop (p + 2))))
/-- how many digits a text begins with, and the number that they tell -/
def dl (l : List Nat) : Nat := (l.takeWhile (fun c : Nat => digB (c : Int))).length
theorem dl_yes {c : Nat} {l : List Nat} (h : digB (c : Int) = true) : dl (c :: l) = 1 + dl l := by
  unfold dl
  rw [List.takeWhile_cons_of_pos (p := fun c : Nat => digB (c : Int)) h, List.length_cons]
  omega
theorem dl_no {c : Nat} {l : List Nat} (h : digB (c : Int) = false) : dl (c :: l) = 0 := by
  unfold dl
  rw [List.takeWhile_cons_of_neg (by rw [h]; decide)]
  rfl
theorem dl_end (S : ByteArray) (q : Nat) (h : S.size ≤ q) : dl ((bts S).drop q) = 0 := by
  rw [List.drop_of_length_le (by rw [bts_length]; exact h)]
  rfl
def vd (acc : Nat) (l : List Nat) : Nat := l.foldl (fun a c => 10 * a + (c - 48)) acc
theorem vd_cons (acc c : Nat) (l : List Nat) : vd acc (c :: l) = vd (10 * acc + (c - 48)) l := by unfold vd; rw [List.foldl_cons]
theorem vd_ge : ∀ (l : List Nat) (acc : Nat), acc ≤ vd acc l
  | [], acc => Nat.le_refl _
  | c :: l, acc => by rw [vd_cons]; exact Nat.le_trans (by omega) (vd_ge l _)
def numR (p n v : Nat) (z : Bool) : An := if z = true ∧ p + 1 < n then .bad 6 (p + 1) else if 9223372036854775808 < v then .bad 5 p else .ok 3 ⟨#[]⟩ v p n
def numA (S : ByteArray) (p : Nat) : An := numR p (p + dl ((bts S).drop p)) (vd 0 (((bts S).drop p).take (dl ((bts S).drop p)))) (atB S p == 48)
def wordA (S : ByteArray) (p : Nat) : An := if isIn wordsB (S.extract p (p + wl ((bts S).drop p))) = true then .ok 1 (S.extract p (p + wl ((bts S).drop p))) 0 p (p + wl ((bts S).drop p)) else .bad 6 p
def nameA (S : ByteArray) (p : Nat) : An := if (rsc ((bts S).drop p)).2 = true then .bad 6 (p + (rsc ((bts S).drop p)).1) else if 32 < (rsc ((bts S).drop p)).1 then .bad 3 p else .ok 2 (S.extract p (p + (rsc ((bts S).drop p)).1)) 0 p (p + (rsc ((bts S).drop p)).1)
def signR (p : Nat) (x : ByteArray) : An := if x.size = 0 then .bad 6 p else .ok 6 x 0 p (p + x.size)
def signA (S : ByteArray) (p : Nat) : An := signR p (sgn signsB (S.extract p S.size))
def oneA (S : ByteArray) (p : Nat) : An :=
  if atB S p = 39 then textA S p else if atB S p = 120 ∧ atB S (p + 1) = 39 then blobA S p else if capB (atB S p : Int) = true then wordA S p else if smaB (atB S p : Int) = true then nameA S p else if digB (atB S p : Int) = true then numA S p else signA S p
/-- what the takers of the program answer, said so -/
theorem anT_word (S : ByteArray) (p : Nat) : wrdT p (S.extract p (p + wl ((bts S).drop p))) = anT (wordA S p) := by
  unfold wrdT wordA
  split <;> rfl
theorem anT_sign (S : ByteArray) (p : Nat) : sigT p (sgn signsB (S.extract p S.size)) = anT (signA S p) := by
  unfold sigT signA signR
  split <;> rfl
theorem wl_le (l : List Nat) : wl l ≤ l.length := List.IsPrefix.length_le (List.takeWhile_prefix _)
theorem take_wl : ∀ l : List Nat, l.take (wl l) = l.takeWhile (fun c : Nat => worB (c : Int))
  | [] => rfl
  | c :: l => by
    cases h : worB (c : Int) with
    | true => rw [wl_yes h, Nat.add_comm, List.take_succ_cons, take_wl l, List.takeWhile_cons_of_pos (p := fun c : Nat => worB (c : Int)) h]
    | false => rw [wl_no h, List.take_zero, List.takeWhile_cons_of_neg (by rw [h]; decide)]
theorem bts_ex (S : ByteArray) (p k : Nat) : bts (S.extract p (p + k)) = ((bts S).drop p).take k := bts_cutn S p k
theorem anT_name (S : ByteArray) (p : Nat) (hp : p ≤ S.size) : namT p (S.extract p (p + wl ((bts S).drop p))) = anT (nameA S p) := by
  have hl := wl_le ((bts S).drop p)
  rw [List.length_drop, bts_length] at hl
  have hsz : (S.extract p (p + wl ((bts S).drop p))).size = wl ((bts S).drop p) := by rw [ByteArray.size_extract]; omega
  unfold namT nameA
  rw [hsz, bts_ex, take_wl, rsc_eq]
  simp only [decide_eq_true_eq]
  by_cases h1 : cpl (((bts S).drop p).takeWhile (fun c : Nat => worB (c : Int))) < wl ((bts S).drop p)
  · rw [if_pos h1, if_pos h1]
    simp [anT]
  · have h2 : cpl (((bts S).drop p).takeWhile (fun c : Nat => worB (c : Int))) ≤ wl ((bts S).drop p) := by
      unfold cpl wl
      exact List.IsPrefix.length_le (List.takeWhile_prefix _)
    have h3 : cpl (((bts S).drop p).takeWhile (fun c : Nat => worB (c : Int))) = wl ((bts S).drop p) := by omega
    rw [if_neg h1, if_neg h1, h3]
    split <;> rfl
theorem anR_word (S : ByteArray) (p : Nat) : rwrdT S p (p + wl ((bts S).drop p)) = anR (wordA S p) := by
  unfold rwrdT wordA
  split <;> rfl
theorem anR_name (S : ByteArray) (p : Nat) : rnamT S p (rsc ((bts S).drop p)) = anR (nameA S p) := by
  unfold rnamT nameA
  split
  · simp [anR, rbadT]
  · split <;> rfl
/-- the signs of two bytes, of one -/
def signs2 : List ByteArray := ⟨#[60, 62]⟩ :: ⟨#[60, 61]⟩ :: ⟨#[62, 61]⟩ :: ⟨#[124, 124]⟩ :: []
def signs1 : List ByteArray := ⟨#[40]⟩ :: ⟨#[41]⟩ :: ⟨#[44]⟩ :: ⟨#[46]⟩ :: ⟨#[42]⟩ :: ⟨#[43]⟩ :: ⟨#[45]⟩ :: ⟨#[47]⟩ :: ⟨#[37]⟩ :: ⟨#[61]⟩ :: ⟨#[60]⟩ :: ⟨#[62]⟩ :: ⟨#[59]⟩ :: []
theorem bts_pre (s x : ByteArray) : preB s x = true ↔ bts x <+: bts s := by
  unfold preB Lib.hasPrefix bts
  rw [List.isPrefixOf_iff_prefix]
  constructor
  · intro h; exact h.map _
  · rintro ⟨t, h⟩
    have hl := congrArg List.length h
    rw [List.length_append, List.length_map, List.length_map] at hl
    have h2 : x.data.toList.map UInt8.toNat = (s.data.toList.take x.data.toList.length).map UInt8.toNat := by
      rw [List.map_take, ← h, List.take_append_of_le_length (by simp), List.take_of_length_le (by simp)]
    have h3 := List.map_inj_right (f := UInt8.toNat) (fun a b hab => UInt8.toNat_inj.1 hab) |>.1 h2
    rw [h3]
    exact List.take_prefix _ _
theorem isIn_iff (l : List ByteArray) (s : ByteArray) : isIn l s = true ↔ s ∈ l := by
  unfold isIn
  rw [List.any_eq_true]
  constructor
  · rintro ⟨x, hx, h⟩
    have : x = s := ByteArray.ext (Array.ext' (by simpa using h))
    exact this ▸ hx
  · intro h
    exact ⟨s, h, by simp⟩
theorem find_pre (k : Nat) (S : ByteArray) (p : Nat) : ∀ (l : List ByteArray), (∀ x ∈ l, x.size = k) → l.find? (preB (S.extract p S.size)) = if p + k ≤ max p S.size ∧ isIn l (S.extract p (p + k)) = true then some (S.extract p (p + k)) else none
  | [], _ => by simp [isIn]
  | x :: l, h => by
    have ih := find_pre k S p l (fun y hy => h y (by simp [hy]))
    have hx := h x (by simp)
    have hpre : preB (S.extract p S.size) x = true ↔ p + k ≤ max p S.size ∧ S.extract p (p + k) = x := by
      rw [bts_pre, bts_cutr]
      have hlx : (bts x).length = k := by rw [bts_length, hx]
      constructor
      · rintro ⟨t, ht⟩
        have hl := congrArg List.length ht
        rw [List.length_append, List.length_drop, hlx, bts_length] at hl
        refine ⟨by omega, ?_⟩
        apply bts_inj
        rw [bts_ex, ← ht, List.take_append_of_le_length (by omega), List.take_of_length_le (by omega)]
      · rintro ⟨h1, h2⟩
        rw [← h2, bts_ex]
        exact List.take_prefix _ _
    by_cases hc : p + k ≤ max p S.size ∧ S.extract p (p + k) = x
    · rw [List.find?_cons_of_pos (hpre.2 hc), if_pos ⟨hc.1, by rw [isIn_iff, hc.2]; simp⟩, hc.2]
    · rw [List.find?_cons_of_neg (fun hh => hc (hpre.1 hh)), ih]
      by_cases hk : p + k ≤ max p S.size
      · have hne : ¬ S.extract p (p + k) = x := fun e => hc ⟨hk, e⟩
        have e : isIn (x :: l) (S.extract p (p + k)) = isIn l (S.extract p (p + k)) := by
          rw [Bool.eq_iff_iff, isIn_iff, isIn_iff, List.mem_cons]
          exact ⟨fun hh => hh.resolve_left hne, .inr⟩
        rw [e]
      · rw [if_neg (fun hh => hk hh.1), if_neg (fun hh => hk hh.1)]
theorem signA_ref (S : ByteArray) (p : Nat) (hp : p < S.size) : signA S p = if p + 2 ≤ S.size ∧ isIn signs2 (S.extract p (p + 2)) = true then .ok 6 (S.extract p (p + 2)) 0 p (p + 2) else if isIn signs1 (S.extract p (p + 1)) = true then .ok 6 (S.extract p (p + 1)) 0 p (p + 1) else .bad 6 p := by
  have e : signsB = signs2 ++ signs1 := rfl
  have h2 := find_pre 2 S p signs2 (by intro x hx; simp [signs2] at hx; rcases hx with rfl | rfl | rfl | rfl <;> rfl)
  have h1 := find_pre 1 S p signs1 (by intro x hx; simp [signs1] at hx; rcases hx with rfl | rfl | rfl | rfl | rfl | rfl | rfl | rfl | rfl | rfl | rfl | rfl | rfl <;> rfl)
  have hm : max p S.size = S.size := by omega
  rw [hm] at h1 h2
  have es : sgn signsB (S.extract p S.size) = ((signs2.find? (preB (S.extract p S.size))).or (signs1.find? (preB (S.extract p S.size)))).getD ⟨#[]⟩ := by
    unfold sgn
    rw [e, List.find?_append]
  unfold signA
  rw [es, h2, h1]
  clear es h1 h2 e hm
  by_cases c2 : p + 2 ≤ S.size ∧ isIn signs2 (S.extract p (p + 2)) = true
  · have hz : (S.extract p (p + 2)).size = 2 := by rw [ByteArray.size_extract]; omega
    rw [if_pos c2, if_pos c2, Option.some_or, Option.getD_some]
    unfold signR
    rw [if_neg (by omega), hz]
  · rw [if_neg c2, if_neg c2, Option.none_or]
    by_cases c1 : isIn signs1 (S.extract p (p + 1)) = true
    · have hz : (S.extract p (p + 1)).size = 1 := by rw [ByteArray.size_extract]; omega
      rw [if_pos (And.intro (by omega) c1), if_pos c1, Option.getD_some]
      unfold signR
      rw [if_neg (by omega), hz]
    · rw [if_neg (fun hh => c1 hh.2), if_neg c1]
      rfl
end Go.Proofs.YtibnmkjabpoppaaGreatDoor
